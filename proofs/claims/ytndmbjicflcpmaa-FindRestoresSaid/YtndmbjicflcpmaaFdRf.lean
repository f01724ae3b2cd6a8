/- Layer 7: the reference's Restore. -/
import Derived.Test.YtndmbjicflcpmaaFdM7
import Derived.Test.YtndmbjicflcpmaaFdLj
import Derived.StillTailTactics
namespace Go.Proofs.Ytndmbjicflcpmaa
open Go.RowKit Go.Shelf
set_option linter.unusedSimpArgs false

theorem len257 : Try.prog.arrayLen 76 = 257 := by kernel_rfl
set_option maxRecDepth 1000000 in
theorem zero_257 : Try.zeroCells76 = Array.replicate 257 (.int .i64 0) := by kernel_rfl
/-- The ranks of the first k rows. -/
def lasL (t : List UInt8) (m k : Nat) : List Nat := (List.range k).map (lastF t m)
theorem lasL_succ (t : List UInt8) (m k : Nat) : lasL t m (k + 1) = lasL t m k ++ [lastF t m k] := by simp [lasL, List.range_succ]
theorem lasL_len (t : List UInt8) (m k : Nat) : (lasL t m k).length = k := by simp [lasL]
theorem lasL_at (t : List UInt8) (m : Nat) {k i : Nat} (h : i < k) : (lasL t m k).getD i 0 = lastF t m i := by
  rw [List.getD_eq_getElem?_getD, lasL, List.getElem?_map, List.getElem?_range h]; rfl
/-- How many rows stand in the list behind i bytes. -/
def rwN (m i : Nat) : Nat := if i ≤ m then i else i + 1

set_option maxRecDepth 1000000 in
set_option maxHeartbeats 4000000 in
theorem rRestore_no (t : ByteArray) (m : Int) (w : World) (h : 4096 < t.size ∨ m < 0 ∨ (t.size : Int) < m) : Calls Try.prog 39 #[.string t, .int .i64 m] w fun e w' => e = .returned (.tuple #[.string ⟨#[]⟩, .int .i64 2]) ∧ Gr w w' := by
  obtain ⟨n, hn⟩ : ∃ n, t.size = n := ⟨_, rfl⟩
  have hni : (t.size : Int) = (n : Int) := by omega
  rw [hn, ] at h
  go_enter Try.func39, Try.ntmps39
  by_cases h1 : 4096 < n
  · have h1i : (4096 : Int) < (n : Int) := by omega
    clear hn
    go_wp2_with fail
    refine bodyPost_ret (v := .tuple #[.string ⟨#[]⟩, .int .i64 2]) ?_ ?_ ?_
    · simp [results, Try.results39, go_sem]
    · rfl
    · exact ⟨rfl, Gr.refl _⟩
  · have h1i : ¬ (4096 : Int) < (n : Int) := by omega
    by_cases h2 : m < 0
    · clear hn
      go_wp2_with fail
      refine bodyPost_ret (v := .tuple #[.string ⟨#[]⟩, .int .i64 2]) ?_ ?_ ?_
      · simp [results, Try.results39, go_sem]
      · rfl
      · exact ⟨rfl, Gr.refl _⟩
    · have h3 : (n : Int) < m := by omega
      clear hn
      go_wp2_with fail
      refine bodyPost_ret (v := .tuple #[.string ⟨#[]⟩, .int .i64 2]) ?_ ?_ ?_
      · simp [results, Try.results39, go_sem]
      · rfl
      · exact ⟨rfl, Gr.refl _⟩
def cR (f : Nat → Nat) (k r : Nat) : Int := ((cntE f (List.range k) r : Nat) : Int)
theorem cR_step (f : Nat → Nat) (k r : Nat) : cR f (k + 1) r = upF (cR f k) (f k) (cR f k (f k) + 1) r := by
  unfold upF cR
  rw [List.range_succ, cntE_snoc]
  by_cases e : r = f k
  · subst e; simp
  · rw [if_neg e, if_neg (Ne.symm e)]; rfl
theorem cR_small (f : Nat → Nat) (k r : Nat) : 0 ≤ cR f k r ∧ cR f k r ≤ k := by
  unfold cR
  have : cntE f (List.range k) r ≤ (List.range k).length := List.countP_le_length
  rw [List.length_range] at this
  omega
/-- Where the rows of a rank begin, as far as k. -/
def bR (f : Nat → Nat) (N k r : Nat) : Int := if r < k then ((cntB f (List.range N) r : Nat) : Int) else 0
theorem bR_step (f : Nat → Nat) (N j r : Nat) : bR f N (j + 1 + 1) r = upF (bR f N (j + 1)) (j + 1) (bR f N (j + 1) j + cR f N j) r := by
  unfold upF bR cR
  by_cases e : r = j + 1
  · subst e
    rw [if_pos (by omega), if_pos rfl, if_pos (by omega), cntB_succ]; omega
  · rw [if_neg e]
    by_cases h : r < j + 1
    · rw [if_pos h, if_pos (by omega)]
    · rw [if_neg h, if_neg (by omega)]
theorem bR_small (f : Nat → Nat) (N k r : Nat) : 0 ≤ bR f N k r ∧ bR f N k r ≤ N := by
  unfold bR
  split
  · have := cntB_le f (List.range N) r
    rw [List.length_range] at this
    omega
  · omega
/-- Behind the first k rows. -/
def sR (f : Nat → Nat) (N k r : Nat) : Int := ((cntB f (List.range N) r + cntE f (List.range k) r : Nat) : Int)
theorem sR_zero (f : Nat → Nat) (N : Nat) {r : Nat} (h : r < 257) : sR f N 0 r = bR f N 257 r := by
  unfold sR bR; rw [if_pos h]; simp [cntE]
theorem sR_step (f : Nat → Nat) (N k r : Nat) : sR f N (k + 1) r = upF (sR f N k) (f k) (sR f N k (f k) + 1) r := by
  unfold upF sR
  rw [List.range_succ, cntE_snoc]
  by_cases e : r = f k
  · subst e; simp; omega
  · rw [if_neg e, if_neg (Ne.symm e)]; rfl
theorem sR_pos (t : List UInt8) (m : Nat) {k : Nat} (hk : k < t.length + 1) : sR (lastF t m) (t.length + 1) k (lastF t m k) = (fstR t m k : Int) := by
  unfold sR fstR posB
  have e : (List.range (t.length + 1)).getD k 0 = k := by rw [List.getD_eq_getElem?_getD, List.getElem?_range hk]; rfl
  rw [e, List.take_range, Nat.min_eq_left (by omega)]
def bcF (n : Nat) : Array Value := ⟨(List.range n).map fun _ => .int .u8 0⟩
theorem made_bcF (n : Nat) : madeCells #[Value.int .u8 0] (n * 1) = bcF n := by
  have hs : (madeCells #[Value.int .u8 0] (n * 1)).size = n := by have := size_madeCells #[Value.int .u8 0] (n * 1); simpa using this
  apply Array.ext
  · rw [hs]; simp [bcF]
  · intro i h1 h2
    simp [madeCells, bcF, Nat.mod_one]
theorem mk_bcF (n : Nat) (hl : n ≤ 4096) (w : World) : (Instr.makeSlice 72 (.int .i64 (n : Int)) (.int .i64 (n : Int))).run Try.prog w =
    .ok (.slice (some ⟨w.heap.size, 0, none⟩) n n) (w.alloc (.cells (bcF n) 5)) := by
  obtain ⟨i0, hi, hz0, hz1, hz2⟩ := info_parts Try.infoFdB
  have h := run_make (P := Try.prog) w 72 5 i0 _ Try.underlying72 hi hz0 .i64 .i64 (n : Int) (n : Int) (by omega) (by omega) (by rw [hz2]; omega) (by omega)
  rw [hz1] at h
  simp only [Int.toNat_natCast] at h
  rw [h, show (Value.int IntKind.u8 0).cells = #[Value.int .u8 0] from rfl, made_bcF]
theorem bcF_list (n : Nat) : (bcF n).toList = flatE encB (List.replicate n 0) := by
  unfold bcF flatE encB
  induction n with
  | zero => rfl
  | succ n ih =>
    rw [List.range_succ, List.map_append, List.replicate_succ', List.flatMap_append]
    show List.map _ _ ++ _ = _
    rw [show (List.map (fun _ : Nat => Value.int IntKind.u8 0) (List.range n)) = (List.replicate n (0 : UInt8)).flatMap (fun b => [Value.int .u8 (b.toNat : Int)]) from ih]
    rfl
theorem encB_set (q : List UInt8) (j : Nat) (v : UInt8) : flatE encB (q.set j v) = (flatE encB q).set j (.int .u8 (v.toNat : Int)) := by
  induction q generalizing j with
  | nil => rfl
  | cons a q ih =>
    cases j with
    | zero => rfl
    | succ j => exact congrArg (List.cons (Value.int .u8 (a.toNat : Int))) (ih j)
theorem owns_other {w : World} {base n size : Nat} {e : TypeId} {v : Value} {xs : List Value} (h : w.ownsRow base e size v n xs) {b i : Nat} (u : Value) (hne : v.ownBlock ≠ some b) : (w.setCell ⟨b, i, none⟩ u).ownsRow base e size v n xs := by
  refine ⟨h.1, ?_⟩
  rcases h.2 with h | ⟨g, cap, cur, rfl, hb, hg, r⟩
  · exact Or.inl h
  · exact Or.inr ⟨g, cap, cur, rfl, hb, (Below.heap_setCell w ⟨b, i, none⟩ u g (fun e => hne (by rw [e]; rfl))).trans hg, r⟩
theorem owns_app {w : World} {base n : Nat} {v : Value} {l : List Nat} {a : Nat} (h : w.ownsRow base 3 1 v n (flatE enc1 (nI l) ++ [.int .i64 (a : Int)])) : w.ownsRow base 3 1 v n (flatE enc1 (nI (l ++ [a]))) := by
  have e : nI (l ++ [a]) = nI l ++ [(a : Int)] := by simp [nI]
  rw [e, flatE_app]; exact h

set_option maxRecDepth 1000000 in
set_option maxHeartbeats 32000000 in
theorem rRestore_yes (t : ByteArray) (n m : Nat) (w : World) (hn : t.size = n) (hnb : n ≤ 4096) (hm : m ≤ n) : Calls Try.prog 39 #[.string t, .int .i64 (m : Int)] w fun e w' => e = .returned (resV t m) ∧ Gr w w' := by
  obtain ⟨i0, hi, hz0, hz1, hz2⟩ := info_parts Try.infoFdI
  have HI := Lib.hid (And.intro hi (And.intro hz0 (And.intro hz1 hz2)))
  clear hi hz0 hz1 hz2
  have HSZ := Lib.hid hn
  have HTL : Hid ((bts t).length = n) := Lib.hid (by rw [bts_len]; exact hn)
  have hni : (t.size : Int) = (n : Int) := by omega
  have hd1 : decide ((m : Int) < 0) = false := decide_eq_false (by omega)
  have hd2 : ¬ n < m := by omega
  have hd3 : ¬ (4096 : Int) < (n : Int) := by omega
  have HLA : Hid (∀ i (h : i < t.size), (t[i].toNat + 1 = lastF (bts t) m (if i < m then i else i + 1)) ∧ t[i].toNat ≤ 255) := Lib.hid (fun i h => by
    refine ⟨?_, by have := t[i].toNat_lt; omega⟩
    unfold lastF
    by_cases c : i < m
    · rw [if_pos c, if_pos c, bts_getD t h]
    · rw [if_neg c, if_neg (by omega), if_pos (by omega), Nat.add_sub_cancel, bts_getD t h])
  clear hn
  go_enter Try.func39, Try.ntmps39
  go_wp2_with fail
  go_loopw [6, 7] (fun v z wr => ∃ (k : Nat) (A : Option Addr) (c : Nat), k ≤ n ∧ z = .int .i64 (k : Int) ∧ v = .slice A (rwN m k) c ∧ Hid (wr.ownsRow w.heap.size 3 1 (.slice A (rwN m k) c) (rwN m k) (flatE enc1 (nI (lasL (bts t) m (rwN m k))))) ∧ Gr w wr) (fun _ z _ => n - (intOf z).toNat)
  case atStart => exact ⟨0, none, 0, Nat.zero_le _, rfl, by unfold rwN; rw [if_pos (Nat.zero_le _)], Lib.hid (by unfold rwN; rw [if_pos (Nat.zero_le _)]; exact World.ownsRow_nil _ _ _ _), Gr.refl _⟩
  case round =>
    obtain ⟨k, A, c, hk, rfl, rfl, hown, hgr⟩ := hrel
    by_cases hlt : k < n
    · have hki : (k : Int) < (n : Int) := by omega
      have hks : k < t.size := by rw [HSZ.out]; exact hlt
      obtain ⟨hla, hb8⟩ := HLA.out k hks
      generalize hby : t[k] = by_ at hla hb8
      obtain ⟨hi, hz0, hz1, hz2⟩ := HI.out
      by_cases hkm : k = m
      · subst hkm
        have e1 : rwN k k = k := by unfold rwN; rw [if_pos (Nat.le_refl _)]
        have e2 : rwN k (k + 1) = k + 1 + 1 := by unfold rwN; rw [if_neg (by omega)]
        rw [e1] at hown ⊢
        rw [if_neg (Nat.lt_irrefl k)] at hla
        have h0 : lastF (bts t) k k = 0 := (lastF_zero _ _ _).2 rfl
        have HE2 := Lib.hid e2
        have HLS : Hid (lasL (bts t) k (k + 1 + 1) = (lasL (bts t) k k ++ [0]) ++ [by_.toNat + 1]) := Lib.hid (by rw [lasL_succ, lasL_succ, h0, hla])
        clear hla e1 e2 h0
        go_wp2_with (at_builtin; refine wpList_append_own _ rfl _ _ 23 rfl w.heap.size 3 i0 _ 1 8 Try.underlying23 hi hz0 hz1 hz2 rfl (by decide) _ _ _ rfl (hown.out.alloc _) ⟨wr.heap.size, 0, none⟩ 1 1 [.int .i64 0] rfl rfl ?a1 ?a2 ?a3 ?a4 ?a5 ?_)
        try case a1 =>
          intro t x ht
          rw [Addr.add_lit]
          exact alloc_new rfl (by rw [Nat.zero_add]; simpa using ht)
        case a2 => first | rfl | (intro x hx; rw [List.mem_singleton] at hx; subst hx; rfl)
        case a3 => unfold maxLen; omega
        case a4 => omega
        case a5 => have := hgr.size; simp; omega
        intro v' w3 hown3 hgrow _
        have hal : Gr wr (wr.alloc (.cells #[.int .i64 0] 3)) := (Gr.refl _).alloc _
        have ho2 := hown.out.alloc (.cells #[.int .i64 0] 3)
        have hg3 : Gr w w3 := Below.grown (hgr.trans hal) hgrow (hgr.trans hal).size (fun t ht => (ho2.lt t ht).1)
        obtain ⟨g3, c3, rfl, -⟩ := owns_shape hown3 (by omega)
        have HO3 : Hid (w3.ownsRow w.heap.size 3 1 (.slice (some ⟨g3, 0, none⟩) (k + 1) c3) (k + 1) (flatE enc1 (nI (lasL (bts t) k k ++ [0])))) := Lib.hid (owns_app hown3)
        clear hown3 hgrow hal ho2 hown hgr
        go_wp2_with (at_builtin; refine wpList_append_own _ rfl _ _ 23 rfl w.heap.size 3 i0 _ 1 8 Try.underlying23 hi hz0 hz1 hz2 rfl (by decide) _ _ _ rfl (HO3.out.alloc _) ⟨w3.heap.size, 0, none⟩ 1 1 [.int .i64 ((by_.toNat : Int) + 1)] rfl rfl ?b1 ?b2 ?b3 ?b4 ?b5 ?_)
        case b1 =>
          intro t x ht
          rw [Addr.add_lit]
          exact alloc_new rfl (by rw [Nat.zero_add]; simpa using ht)
        case b2 => intro x hx; rw [List.mem_singleton] at hx; subst hx; rfl
        case b3 => unfold maxLen; omega
        case b4 => omega
        case b5 => have := hg3.size; simp; omega
        intro v' w4 hown4 hgrow _
        have hal : Gr w3 (w3.alloc (.cells #[.int .i64 ((by_.toNat : Int) + 1)] 3)) := (Gr.refl _).alloc _
        have ho2 := HO3.out.alloc (.cells #[.int .i64 ((by_.toNat : Int) + 1)] 3)
        have hg4 : Gr w w4 := Below.grown (hg3.trans hal) hgrow (hg3.trans hal).size (fun t ht => (ho2.lt t ht).1)
        obtain ⟨g4, c4, rfl, -⟩ := owns_shape hown4 (by omega)
        have HO4 : Hid (w4.ownsRow w.heap.size 3 1 (.slice (some ⟨g4, 0, none⟩) (k + 1 + 1) c4) (k + 1 + 1) (flatE enc1 (nI (lasL (bts t) k (k + 1 + 1))))) := Lib.hid (by rw [HLS.out]; exact owns_app hown4)
        clear hown4 hgrow hal ho2 HO3 hg3 hi hz0 hz1 hz2
        go_wp2_with fail
        go_roundw
        case rel => exact ⟨k + 1, some ⟨g4, 0, none⟩, c4, by omega, by go_num, by rw [HE2.out], by rw [HE2.out]; exact HO4, hg4⟩
        case measure => simp [intOf]; omega
      · have hkme : ((k : Int) == (m : Int)) = false := beq_eq_false_iff_ne.2 (by omega)
        have e1 : (if k < m then k else k + 1) = rwN m k := by unfold rwN; split <;> split <;> omega
        have e2 : rwN m (k + 1) = rwN m k + 1 := by unfold rwN; split <;> split <;> omega
        have e3 : rwN m k ≤ k + 1 := by unfold rwN; split <;> omega
        rw [e1] at hla
        have HLS : Hid (lasL (bts t) m (rwN m k + 1) = lasL (bts t) m (rwN m k) ++ [by_.toNat + 1]) := Lib.hid (by rw [lasL_succ, hla])
        have HE2 := Lib.hid e2
        clear hla e1 e2
        generalize rwN m k = q at *
        go_wp2_with (at_builtin; refine wpList_append_own _ rfl _ _ 23 rfl w.heap.size 3 i0 _ 1 8 Try.underlying23 hi hz0 hz1 hz2 rfl (by decide) _ _ _ rfl (hown.out.alloc _) ⟨wr.heap.size, 0, none⟩ 1 1 [.int .i64 ((by_.toNat : Int) + 1)] rfl rfl ?c1 ?c2 ?c3 ?c4 ?c5 ?_)
        case c1 =>
          intro t x ht
          rw [Addr.add_lit]
          exact alloc_new rfl (by rw [Nat.zero_add]; simpa using ht)
        case c2 => intro x hx; rw [List.mem_singleton] at hx; subst hx; rfl
        case c3 => unfold maxLen; omega
        case c4 => omega
        case c5 => have := hgr.size; simp; omega
        intro v' w4 hown4 hgrow _
        have hal : Gr wr (wr.alloc (.cells #[.int .i64 ((by_.toNat : Int) + 1)] 3)) := (Gr.refl _).alloc _
        have ho2 := hown.out.alloc (.cells #[.int .i64 ((by_.toNat : Int) + 1)] 3)
        have hg4 : Gr w w4 := Below.grown (hgr.trans hal) hgrow (hgr.trans hal).size (fun t ht => (ho2.lt t ht).1)
        obtain ⟨g4, c4, rfl, -⟩ := owns_shape hown4 (by omega)
        have HO4 : Hid (w4.ownsRow w.heap.size 3 1 (.slice (some ⟨g4, 0, none⟩) (q + 1) c4) (q + 1) (flatE enc1 (nI (lasL (bts t) m (q + 1))))) := Lib.hid (by rw [HLS.out]; exact owns_app hown4)
        clear hown4 hgrow hal ho2 hown hgr hi hz0 hz1 hz2
        go_wp2_with fail
        go_roundw
        case rel => exact ⟨k + 1, some ⟨g4, 0, none⟩, c4, by omega, by go_num, by rw [HE2.out], by rw [HE2.out]; exact HO4, hg4⟩
        case measure => simp [intOf]; omega
    · obtain rfl : n = k := by omega
      obtain ⟨N, hN⟩ : ∃ N, n + 1 = N := ⟨_, rfl⟩
      have HNN := Lib.hid hN
      have hNb : N ≤ 4097 := by omega
      clear hN
      have HFB : Hid (∀ k, lastF (bts t) m k ≤ 256) := Lib.hid (fun k => lastF_le _ _ k)
      obtain ⟨hi, hz0, hz1, hz2⟩ := HI.out
      have hlen := len257
      by_cases hmn : m = n
      · subst hmn
        have e1 : rwN m m = m := by unfold rwN; rw [if_pos (Nat.le_refl _)]
        rw [e1] at hown ⊢
        have HLS : Hid (lasL (bts t) m (m + 1) = lasL (bts t) m m ++ [0]) := Lib.hid (by rw [lasL_succ, (lastF_zero _ _ _).2 rfl])
        clear e1 hlt hk
        go_wp2_with (at_builtin; refine wpList_append_own _ rfl _ _ 23 rfl w.heap.size 3 i0 _ 1 8 Try.underlying23 hi hz0 hz1 hz2 rfl (by decide) _ _ _ rfl (hown.out.alloc _) ⟨wr.heap.size, 0, none⟩ 1 1 [.int .i64 0] rfl rfl ?d1 ?d2 ?d3 ?d4 ?d5 ?_)
        try case d1 =>
          intro t x ht
          rw [Addr.add_lit]
          exact alloc_new rfl (by rw [Nat.zero_add]; simpa using ht)
        case d2 => first | rfl | (intro x hx; rw [List.mem_singleton] at hx; subst hx; rfl)
        case d3 => unfold maxLen; omega
        case d4 => omega
        case d5 => have := hgr.size; simp; omega
        intro v' wq hown3 hgrow _
        have hal : Gr wr (wr.alloc (.cells #[.int .i64 0] 3)) := (Gr.refl _).alloc _
        have ho2 := hown.out.alloc (.cells #[.int .i64 0] 3)
        have hgq : Gr w wq := Below.grown (hgr.trans hal) hgrow (hgr.trans hal).size (fun t ht => (ho2.lt t ht).1)
        obtain ⟨g6, c6, rfl, -⟩ := owns_shape hown3 (by omega)
        have HL6 : Hid (FB 3 wq g6 (m + 1) (fun i => (((lasL (bts t) m (m + 1)).getD i 0 : Nat) : Int))) := Lib.hid (by rw [HLS.out]; exact owns_FB (owns_app hown3))
        rw [HNN.out] at HL6 ⊢
        clear hown3 hgrow hal ho2 hown hgr HLS
        go_upto_region 13 with fail
        generalize hW7 : World.alloc wq _ = w7
        obtain ⟨Zc, hZc⟩ : ∃ Z, wq.heap.size = Z := ⟨_, rfl⟩
        have hg7 : Gr wq w7 := by rw [← hW7]; exact (Gr.refl _).alloc _
        have HC0 : Hid (FB 76 w7 Zc 257 (cR (lastF (bts t) m) 0)) := Lib.hid (by
          rw [← hW7]
          refine ⟨_, Blk.new wq _ _ hZc, fun i hi => ?_⟩
          rw [zero_257]; simp [hi, cR, cntE])
        rw [hZc]
        have HZc := Lib.hid hZc
        clear hW7 hZc
        go_wp2_with fail
        go_loopw [9] (fun z wr => ∃ k : Nat, k ≤ N ∧ z = .int .i64 (k : Int) ∧ Hid (FB 76 wr Zc 257 (cR (lastF (bts t) m) k)) ∧ Gr wq wr) (fun z _ => N - (intOf z).toNat)
        case atStart => exact ⟨0, Nat.zero_le _, rfl, HC0, hg7⟩
        case round =>
          clear HC0 hg7
          obtain ⟨k, hk, rfl, hB, hgr⟩ := hrel
          by_cases hlt : k < N
          · have hki : (k : Int) < (N : Int) := by omega
            have x0 := (HL6.out.keep hgr).at hlt
            rw [lasL_at _ _ hlt] at x0
            have hfx := HFB.out k
            have HST := Lib.hid (fun r => cR_step (lastF (bts t) m) k r)
            have hsm := cR_small (lastF (bts t) m) k (lastF (bts t) m k)
            generalize lastF (bts t) m k = fx at x0 hfx HST hsm
            have c0 := hB.out.at (i := fx) (by omega)
            have f0 := hB.out.free fx
            have HPUT := Lib.hid (hB.out.put fx (cR (lastF (bts t) m) k fx + 1))
            have HG2 := Lib.hid (Gr.setCell hgr (p := ⟨Zc, fx, none⟩) (Nat.le_of_eq HZc.out) (.int .i64 (cR (lastF (bts t) m) k fx + 1)))
            generalize cR (lastF (bts t) m) k fx = v at c0 hsm HPUT HG2 HST
            have HPUT2 := Lib.hid (HPUT.out.congr (f' := cR (lastF (bts t) m) (k + 1)) (fun i _ => HST.out i))
            have hfi : (fx : Int) < 257 := by omega
            clear hB HPUT HST
            go_wp2_with fail
            go_roundw
            case rel => exact ⟨k + 1, by omega, by go_num, HPUT2, HG2.out⟩
            case measure => simp [intOf]; omega
          · obtain rfl : N = k := by omega
            have HCT := hB
            have hg8 := hgr
            obtain ⟨w8, rfl⟩ : ∃ x, x = wr := ⟨_, rfl⟩
            have HL8 := Lib.hid (HL6.out.keep hg8)
            have hgq8 := hgq.trans hg8
            clear hB hgr hlt hk HL6 hg8
            go_upto_region 19 with fail
            generalize hW9 : World.alloc w8 _ = w9
            obtain ⟨Zb, hZb⟩ : ∃ Z, w8.heap.size = Z := ⟨_, rfl⟩
            have hg9 : Gr w8 w9 := by rw [← hW9]; exact (Gr.refl _).alloc _
            have HB0 : Hid (FB 76 w9 Zb 257 (bR (lastF (bts t) m) N (0 + 1))) := Lib.hid (by
              rw [← hW9]
              refine ⟨_, Blk.new w8 _ _ hZb, fun i hi => ?_⟩
              have h0 : bR (lastF (bts t) m) N (0 + 1) i = 0 := by
                unfold bR
                split
                · rw [show i = 0 by omega, cntB_zero]; rfl
                · rfl
              rw [zero_257, h0]; simp [hi])
            rw [hZb]
            have HZb := Lib.hid hZb
            clear hW9 hZb
            go_wp2_with fail
            go_loopw [12] (fun z wr => ∃ j : Nat, j ≤ 256 ∧ z = .int .i64 ((j : Int) + 1) ∧ Hid (FB 76 wr Zb 257 (bR (lastF (bts t) m) N (j + 1))) ∧ Gr w8 wr) (fun z _ => 257 - (intOf z).toNat)
            case atStart => exact ⟨0, by omega, rfl, HB0, hg9⟩
            case round =>
              clear HB0 hg9
              obtain ⟨j, hj, rfl, hB, hgr⟩ := hrel
              by_cases hlt : j < 256
              · have hji : (j : Int) < 256 := by omega
                have hji2 : (j : Int) + 1 < 257 := by omega
                have hji3 : (j : Int) < 257 := by omega
                have c0 := hB.out.at (i := j) (by omega)
                have c1 := (HCT.out.keep hgr).at (i := j) (by omega)
                have c2 := hB.out.at (i := j + 1) (by omega)
                have f0 := hB.out.free (j + 1)
                have s0 := bR_small (lastF (bts t) m) N (j + 1) j
                have s1 := cR_small (lastF (bts t) m) N j
                have HST := Lib.hid (fun r => bR_step (lastF (bts t) m) N j r)
                have hgd : Gr wr wr.drew := (Gr.refl wr).drew
                have HPUT := Lib.hid ((hB.out.keep hgd).put (j + 1) (bR (lastF (bts t) m) N (j + 1) j + cR (lastF (bts t) m) N j))
                have HG2 := Lib.hid (Gr.setCell (hgr.trans hgd) (p := ⟨Zb, j + 1, none⟩) (Nat.le_of_eq HZb.out) (.int .i64 (bR (lastF (bts t) m) N (j + 1) j + cR (lastF (bts t) m) N j)))
                generalize bR (lastF (bts t) m) N (j + 1) j = u at c0 s0 HPUT HG2 HST
                generalize cR (lastF (bts t) m) N j = v at c1 s1 HPUT HG2 HST
                generalize bR (lastF (bts t) m) N (j + 1) (j + 1) = u2 at c2
                have HPUT2 := Lib.hid (HPUT.out.congr (f' := bR (lastF (bts t) m) N (j + 1 + 1)) (fun i _ => HST.out i))
                have g1 : IntKind.i64.wrap ((j : Int) + 1 - 1) = (j : Int) := by rw [show (j : Int) + 1 - 1 = (j : Int) by omega]; exact IntWalk.i64_in _ (by omega)
                have g1b : IntKind.i64.wrap (j : Int) = (j : Int) := IntWalk.i64_in _ (by omega)
                have g2 : (0 : Int) ≤ (j : Int) + 1 := by omega
                have g3 : ((j : Int) + 1).toNat = j + 1 := by omega
                have g4 : IntKind.i64.wrap (u + v) = u + v := IntWalk.i64_in _ (by omega)
                clear hB HPUT HST
                go_upto_region 22 with fail
                go_still_tail 11, (by kernel_rfl)
                change wpList _ _ _ _ _ wr.drew
                have c2d : wr.drew.cell? ⟨Zb, j + 1, none⟩ = some (.int .i64 u2) := c2
                have f0d : wr.drew.frozen? ⟨Zb, j + 1, none⟩ = false := f0
                generalize wr.drew = wd at c2d f0d HPUT2 HG2 ⊢
                clear c0 c1 c2 f0 g1 g1b g2 g3 g4 hgd
                go_wp2_with fail
                go_roundw
                case rel => exact ⟨j + 1, by omega, by go_num, HPUT2, HG2.out⟩
                case measure => simp [intOf]; omega
              · obtain rfl : j = 256 := by omega
                have HS0 : Hid (FB 76 wr Zb 257 (sR (lastF (bts t) m) N 0)) := Lib.hid (hB.out.congr (fun i hi => sR_zero _ _ hi))
                have hg10 := hgr
                clear hB hgr hlt hj
                obtain ⟨wb, rfl⟩ : ∃ x, x = wr := ⟨_, rfl⟩
                rw [show ((256 : Nat) : Int) + 1 = 257 from rfl]
                go_wp2_with fail
                go_loopw [13, 14] (fun v z wr => ∃ (k : Nat) (A : Option Addr) (c : Nat), k ≤ N ∧ z = .int .i64 (k : Int) ∧ v = .slice A k c ∧ Hid (wr.ownsRow w8.heap.size 3 1 (.slice A k c) k (flatE enc1 (nI ((List.range k).map (fstR (bts t) m))))) ∧ Hid (FB 76 wr Zb 257 (sR (lastF (bts t) m) N k)) ∧ Gr w8 wr) (fun _ z _ => N - (intOf z).toNat)
                case atStart => exact ⟨0, none, 0, Nat.zero_le _, rfl, rfl, Lib.hid (World.ownsRow_nil _ _ _ _), HS0, hg10⟩
                case round =>
                  clear HS0 hg10
                  obtain ⟨k, A, c, hk, rfl, rfl, hown, hS, hgr⟩ := hrel
                  by_cases hlt : k < N
                  · have hki : (k : Int) < (N : Int) := by omega
                    have x0 := (HL8.out.keep hgr).at hlt
                    rw [lasL_at _ _ hlt] at x0
                    have hfx := HFB.out k
                    have HST := Lib.hid (fun r => sR_step (lastF (bts t) m) N k r)
                    have hps : sR (lastF (bts t) m) N k (lastF (bts t) m k) = (fstR (bts t) m k : Int) := by
                      have := sR_pos (bts t) m (k := k) (by rw [HTL.out, HNN.out]; exact hlt)
                      rwa [HTL.out, HNN.out] at this
                    have hfl : fstR (bts t) m k < N := by
                      have := fstR_lt (bts t) m (r := k) (by rw [HTL.out, HNN.out]; exact hlt)
                      rwa [HTL.out, HNN.out] at this
                    have HLS : Hid ((List.range (k + 1)).map (fstR (bts t) m) = (List.range k).map (fstR (bts t) m) ++ [fstR (bts t) m k]) := Lib.hid (by simp [List.range_succ])
                    generalize lastF (bts t) m k = fx at x0 hfx HST hps
                    have c0 := hS.out.at (i := fx) (by omega)
                    rw [hps] at c0
                    have HPS := Lib.hid hps
                    generalize fstR (bts t) m k = fr at c0 hfl HLS HPS
                    have hfi : (fx : Int) < 257 := by omega
                    obtain ⟨hi, hz0, hz1, hz2⟩ := HI.out
                    clear hps
                    go_wp2_with (at_builtin; refine wpList_append_own _ rfl _ _ 23 rfl w8.heap.size 3 i0 _ 1 8 Try.underlying23 hi hz0 hz1 hz2 rfl (by decide) _ _ _ rfl (hown.out.alloc _) ⟨wr.heap.size, 0, none⟩ 1 1 [.int .i64 (fr : Int)] rfl rfl ?p1 ?p2 ?p3 ?p4 ?p5 ?_)
                    case p1 =>
                      intro t x ht
                      rw [Addr.add_lit]
                      exact alloc_new rfl (by rw [Nat.zero_add]; simpa using ht)
                    case p2 => intro x hx; rw [List.mem_singleton] at hx; subst hx; rfl
                    case p3 => unfold maxLen; omega
                    case p4 => omega
                    case p5 => have := hgr.size; simp; omega
                    intro v' w3 hown3 hgrow _
                    have hal : Gr wr (wr.alloc (.cells #[.int .i64 (fr : Int)] 3)) := (Gr.refl _).alloc _
                    have ho2 := hown.out.alloc (.cells #[.int .i64 (fr : Int)] 3)
                    have hg3 : Gr w8 w3 := Below.grown (hgr.trans hal) hgrow (hgr.trans hal).size (fun t ht => (ho2.lt t ht).1)
                    have hS3 := (hS.out.keep hal).grown hgrow ((hS.out.keep hal).apart ho2 (by decide))
                    obtain ⟨g3, c3, rfl, -⟩ := owns_shape hown3 (by omega)
                    have HO3 := Lib.hid (owns_app hown3)
                    have d0 := hS3.at (i := fx) (by omega)
                    rw [HPS.out] at d0
                    have d1 := hS3.free fx
                    have hgz : Zb ≠ g3 := fun e => (hS3.apart hown3 (by decide)) (by rw [e]; rfl)
                    have HO4 : Hid ((w3.setCell ⟨Zb, fx, none⟩ (.int .i64 ((fr : Int) + 1))).ownsRow w8.heap.size 3 1 (.slice (some ⟨g3, 0, none⟩) (k + 1) c3) (k + 1) (flatE enc1 (nI ((List.range (k + 1)).map (fstR (bts t) m))))) := Lib.hid (by
                      rw [HLS.out]
                      exact owns_other HO3.out _ (fun e => hgz (by injection e with e; exact e.symm)))
                    have HS4 : Hid (FB 76 (w3.setCell ⟨Zb, fx, none⟩ (.int .i64 ((fr : Int) + 1))) Zb 257 (sR (lastF (bts t) m) N (k + 1))) := Lib.hid ((hS3.put fx ((fr : Int) + 1)).congr (fun i _ => by rw [HST.out i, HPS.out]))
                    have HG4 := Lib.hid (hg3.setCell (p := ⟨Zb, fx, none⟩) (Nat.le_of_eq HZb.out) (.int .i64 ((fr : Int) + 1)))
                    clear hown3 hgrow hal ho2 hi hz0 hz1 hz2 hown hS hS3 c0 x0 HO3 hg3 hgr HST
                    go_wp2_with fail
                    go_roundw
                    case rel => exact ⟨k + 1, _, _, by omega, by go_num, rfl, HO4, HS4, HG4.out⟩
                    case measure => simp [intOf]; omega
                  · obtain rfl : N = k := by omega
                    obtain ⟨w10, rfl⟩ : ∃ x, x = wr := ⟨_, rfl⟩
                    obtain ⟨gF, cF, eF, -⟩ := owns_shape hown.out (by have := HNN.out; omega)
                    injection eF with eF1 eF2 eF3
                    subst eF1
                    have HFF : Hid (FB 3 w10 gF N (fun i => (fstR (bts t) m i : Int))) := Lib.hid ((owns_FB hown.out).congr (fun i hi => by
                      rw [List.getD_eq_getElem?_getD, List.getElem?_map, List.getElem?_range hi]; rfl))
                    have HL10 := Lib.hid (HL8.out.keep hgr)
                    have hgw10 := hgq8.trans hgr
                    have hmk := fun W => mk_bcF m hnb W
                    clear hown hS hgr hlt hk eF2 eF3 HL8 HCT
                    go_upto_region 31 with fail
                    generalize hW11 : World.alloc w10 _ = w11
                    obtain ⟨Zo, hZo⟩ : ∃ Z, w10.heap.size = Z := ⟨_, rfl⟩
                    have hg11 : Gr w10 w11 := by rw [← hW11]; exact (Gr.refl _).alloc _
                    have HOB : Hid (w11.ownsRow w10.heap.size 5 1 (.slice (some ⟨Zo, 0, none⟩) m m) m (flatE encB (List.replicate m 0))) := Lib.hid (by
                      rw [← hW11, ← hZo, ← bcF_list]
                      exact World.ownsRow_lit w10 (bcF m) m (Nat.le_refl _) (by unfold maxLen; omega) (by simp [bcF]))
                    rw [hZo]
                    have HZo := Lib.hid hZo
                    clear hW11 hZo hmk
                    have hn1 : IntKind.i64.wrap ((m : Int) - 1) = (m : Int) - 1 := IntWalk.i64_in _ (by omega)
                    go_wp2_with fail
                    go_loopw [17, 18] (fun a z wr => ∃ (k : Nat) (ob : List UInt8), k ≤ m ∧ z = .int .i64 ((k : Int) - 1) ∧ a = .int .i64 (bkR (bts t) m (m - k) : Int) ∧ Hid (ob.length = m) ∧ Hid (wr.ownsRow w10.heap.size 5 1 (.slice (some ⟨Zo, 0, none⟩) m m) m (flatE encB ob)) ∧ Hid (∀ i, k ≤ i → i < m → ob.getD i 0 = bkB (bts t) m i) ∧ Gr w10 wr) (fun _ z _ => (intOf z + 1).toNat)
                    case atStart => exact ⟨m, List.replicate m 0, Nat.le_refl _, by first | rfl | go_num, by rw [Nat.sub_self]; rfl, Lib.hid (List.length_replicate ..), HOB, Lib.hid (fun i h1 h2 => by omega), hg11⟩
                    case round =>
                      clear HOB hg11
                      obtain ⟨k, ob, hk, rfl, rfl, hol, hown, hob, hgr⟩ := hrel
                      by_cases hlt : 0 < k
                      · have hki : (0 : Int) ≤ (k : Int) - 1 := by omega
                        have hbl : bkR (bts t) m (m - k) < N := by
                          have := bkR_lt (bts t) m (m - k)
                          rw [HTL.out] at this
                          have := HNN.out; omega
                        have x0 := (HL10.out.keep hgr).at hbl
                        rw [lasL_at _ _ hbl] at x0
                        have y0 := (HFF.out.keep hgr).at hbl
                        have hfx := HFB.out (bkR (bts t) m (m - k))
                        have HNX : Hid (fstR (bts t) m (bkR (bts t) m (m - k)) = bkR (bts t) m (m - (k - 1))) := Lib.hid (by rw [show m - (k - 1) = (m - k) + 1 by omega]; rfl)
                        have HBB : Hid (bkB (bts t) m (k - 1) = UInt8.ofNat (lastF (bts t) m (bkR (bts t) m (m - k)) - 1)) := Lib.hid (by unfold bkB; rw [HTL.out, show m - 1 - (k - 1) = m - k by omega])
                        have HNO : Hid (lastF (bts t) m (bkR (bts t) m (m - k)) = 0 → resF (bts t) m m = none) := Lib.hid (fun h0 => by
                          cases hr : resF (bts t) m m with
                          | none => rfl
                          | some qq =>
                            obtain ⟨r0, bs⟩ := qq
                            exact absurd h0 ((bk_some (by rw [HTL.out]; exact hm) (by rw [HTL.out]; exact hr)).1 (m - k) (by rw [HTL.out]; omega)))
                        generalize lastF (bts t) m (bkR (bts t) m (m - k)) = fx at x0 hfx HBB HNO
                        generalize fstR (bts t) m (bkR (bts t) m (m - k)) = nx at y0 HNX
                        generalize bkR (bts t) m (m - k) = at_ at x0 y0 hbl
                        have hai : (at_ : Int) < (N : Int) := by omega
                        by_cases h0 : fx = 0
                        · have hv : resV t m = .tuple #[.string ⟨#[]⟩, .int .i64 70] := by unfold resV; rw [HSZ.out, HNO.out h0]
                          have HV := Lib.hid hv
                          have hgr5 := hgw10.trans hgr
                          subst h0
                          clear hv hown hob hol HNO
                          go_wp2_with fail
                          refine bodyPost_ret (v := .tuple #[.string ⟨#[]⟩, .int .i64 70]) ?_ ?_ ?_
                          · simp [results, Try.results39, go_sem]
                          · rfl
                          · exact ⟨by rw [HV.out], hgr5⟩
                        · obtain ⟨y, rfl⟩ : ∃ y, fx = y + 1 := ⟨fx - 1, by omega⟩
                          have hne : (((y + 1 : Nat) : Int) == 0) = false := beq_eq_false_iff_ne.2 (by omega)
                          have hy8 : y ≤ 255 := by omega
                          have hw1 : IntKind.i64.wrap (((y + 1 : Nat) : Int) - 1) = (y : Int) := by rw [show ((y + 1 : Nat) : Int) - 1 = (y : Int) by omega]; exact IntWalk.i64_in _ (by omega)
                          have HU : Hid ((UInt8.ofNat y).toNat = y) := Lib.hid (by rw [UInt8.toNat_ofNat']; omega)
                          rw [Nat.add_sub_cancel] at HBB
                          obtain ⟨j, hj⟩ : ∃ j, k = j + 1 := ⟨k - 1, by omega⟩
                          subst hj
                          rw [Nat.add_sub_cancel] at HNX HBB
                          have hj1 : ((j + 1 : Nat) : Int) - 1 = (j : Int) := by omega
                          have hjn : (j : Int) < (m : Int) := by omega
                          have c0 : wr.cell? ⟨Zo, j, none⟩ = some (.int .u8 ((ob.getD j 0).toNat : Int)) := by
                            rw [hown.out.cellAt j (by omega)]
                            have hx : ob[j]? = some (ob.getD j 0) := by rw [List.getD_eq_getElem?_getD, List.getElem?_eq_getElem (by rw [hol.out]; omega)]; rfl
                            have := flatE_get encB_len ob j _ hx 0 (by decide)
                            rwa [Nat.mul_one, Nat.add_zero] at this
                          have f0 := hown.out.frozenAt j
                          have HST := Lib.hid (hown.out.stored j (.int .u8 (y : Int))).1
                          have HO2 : Hid ((wr.setCell ⟨Zo, j, none⟩ (.int .u8 (y : Int))).ownsRow w10.heap.size 5 1 (.slice (some ⟨Zo, 0, none⟩) m m) m (flatE encB (ob.set j (UInt8.ofNat y)))) := Lib.hid (by rw [encB_set, HU.out]; exact HST.out)
                          have HG2 := Lib.hid (hgr.setCell (p := ⟨Zo, j, none⟩) (Nat.le_of_eq HZo.out) (.int .u8 (y : Int)))
                          have HOL : Hid ((ob.set j (UInt8.ofNat y)).length = m) := Lib.hid (by rw [List.length_set]; exact hol.out)
                          have HOB : Hid (∀ i, j ≤ i → i < m → (ob.set j (UInt8.ofNat y)).getD i 0 = bkB (bts t) m i) := Lib.hid (fun i h1 h2 => by
                            by_cases e : i = j
                            · subst e
                              rw [List.getD_eq_getElem?_getD, List.getElem?_set_self (by rw [hol.out]; exact h2), HBB.out]; rfl
                            · rw [List.getD_eq_getElem?_getD, List.getElem?_set_ne (by omega), ← List.getD_eq_getElem?_getD]
                              exact hob.out i (by omega) h2)
                          have y1 : (wr.setCell ⟨Zo, j, none⟩ (.int .u8 (y : Int))).cell? ⟨gF, at_, none⟩ = some (.int .i64 (nx : Int)) := (HFF.out.keep HG2.out).at hbl |>.trans (by
                            have := (HFF.out.keep hgr).at hbl
                            rw [y0] at this
                            exact this.symm)
                          generalize (ob.getD j 0).toNat = oldb at c0
                          generalize ob.set j (UInt8.ofNat y) = ob2 at HO2 HOL HOB
                          have hj2 : IntKind.i64.wrap ((j : Int) - 1) = (j : Int) - 1 := IntWalk.i64_in _ (by omega)
                          have hw8 : IntKind.u8.wrap (y : Int) = (y : Int) := by simp [IntKind.wrap, IntKind.bits, IntKind.signed]; omega
                          rw [hj1] at hki ⊢
                          clear hown hob hol HST HBB HNO hlt
                          go_wp2_with fail
                          go_roundw
                          case rel => exact ⟨j, ob2, by omega, by first | rfl | go_num, by rw [← HNX.out], HOL, HO2, HOB, HG2.out⟩
                          case measure => simp [intOf] <;> omega
                      · obtain rfl : k = 0 := by omega
                        have hcv := convB_any _ _ _ _ _ hol.out hown.out
                        have hbt : (⟨ob.toArray⟩ : ByteArray).size = m := by rw [size_mk]; exact hol.out
                        have HTU := Lib.hid (fun W => rTurn_any ⟨ob.toArray⟩ m W hbt (by omega))
                        have HOE : Hid (ob = (List.range m).map (bkB (bts t) m)) := Lib.hid (by
                          apply List.ext_getElem
                          · rw [hol.out, List.length_map, List.length_range]
                          · intro i h1 h2
                            have h3 := hob.out i (Nat.zero_le _) (by rw [← hol.out]; exact h1)
                            rw [List.getElem_map, List.getElem_range, ← h3, List.getD_eq_getElem?_getD, List.getElem?_eq_getElem h1]; rfl)
                        have hgr5 := hgw10.trans hgr
                        have HOL2 := Lib.hid hol.out
                        have hz1 : ((0 : Nat) : Int) - 1 = -1 := rfl
                        rw [hz1]
                        have HTU1 := Lib.hid (HTU.out wr)
                        clear hown hob hol hgr HTU hbt hz1 hlt hk
                        go_wp2_with (simp only [hcv])
                        refine HTU1.out.mono ?_
                        rintro e w12 ⟨o', ho', rfl, hg12⟩
                        rw [bts_mk] at ho'
                        rw [bts_mk]
                        have hgr6 := hgr5.trans hg12
                        obtain ⟨⟨u, M⟩, hu⟩ : ∃ r, turF ob (m :: o') (m + 1) = r := ⟨_, rfl⟩
                        rw [hu]
                        have hse : (⟨u.toArray⟩ : ByteArray).toList = u := by rw [ByteArray.toList_eq]
                        have hte : t.toList = bts t := by rw [ByteArray.toList_eq]; rfl
                        cases hres : resF (bts t) m m with
                        | none =>
                          have HV : Hid (resV t m = .tuple #[.string ⟨#[]⟩, .int .i64 70]) := Lib.hid (by unfold resV; rw [HSZ.out, hres])
                          have hnt := no_turn (t := bts t) (T := ob) (m := m) (by rw [HTL.out]; exact hres) ho' (by rw [HTL.out]; exact HOL2.out)
                          rw [HOL2.out, hu] at hnt
                          by_cases hub : u = bts t
                          · have hM : M ≠ m := fun e => hnt (by rw [hub, e])
                            have hMe : ((M : Int) == (m : Int)) = false := beq_eq_false_iff_ne.2 (by omega)
                            have hcmp : ((⟨u.toArray⟩ : ByteArray).toList == t.toList) = true := by rw [hse, hte, hub]; exact beq_self_eq_true _
                            clear hnt hub hu hres hse hte HTU1 hcv
                            generalize (⟨u.toArray⟩ : ByteArray) = ub at *
                            go_wp2_with fail
                            refine bodyPost_ret (v := .tuple #[.string ⟨#[]⟩, .int .i64 70]) ?_ ?_ ?_
                            · simp [results, Try.results39, go_sem]
                            · rfl
                            · exact ⟨by rw [HV.out], hgr6⟩
                          · have hcmp : ((⟨u.toArray⟩ : ByteArray).toList == t.toList) = false := by rw [hse, hte]; exact beq_eq_false_iff_ne.2 hub
                            clear hnt hub hu hres hse hte HTU1 hcv
                            generalize (⟨u.toArray⟩ : ByteArray) = ub at *
                            go_wp2_with fail
                            refine bodyPost_ret (v := .tuple #[.string ⟨#[]⟩, .int .i64 70]) ?_ ?_ ?_
                            · simp [results, Try.results39, go_sem]
                            · rfl
                            · exact ⟨by rw [HV.out], hgr6⟩
                        | some qq =>
                          obtain ⟨r0, bs⟩ := qq
                          have hbs := (bk_some (by rw [HTL.out]; exact hm) (by rw [HTL.out]; exact hres)).2
                          rw [HTL.out, ← HOE.out] at hbs
                          subst hbs
                          obtain ⟨o2, ho2, hbl, htb⟩ := turned_back (t := bts t) (m := m) (by rw [HTL.out]; exact hm) (by rw [HTL.out]; exact hres)
                          obtain rfl := ho'.one ho2
                          rw [HOL2.out, hu] at htb
                          injection htb with hb1 hb2
                          subst hb2
                          have HV : Hid (resV t M = .tuple #[.string ⟨bs.toArray⟩, .int .i64 0]) := Lib.hid (by unfold resV; rw [HSZ.out, hres])
                          have hcmp : ((⟨u.toArray⟩ : ByteArray).toList == t.toList) = true := by rw [hse, hte, hb1]; exact beq_self_eq_true _
                          clear hb1 hu hres hse hte HTU1 hcv ho' ho2 hbl
                          generalize (⟨u.toArray⟩ : ByteArray) = ub at *
                          generalize (⟨bs.toArray⟩ : ByteArray) = sb at *
                          go_wp2_with fail
                          refine bodyPost_ret (v := .tuple #[.string sb, .int .i64 0]) ?_ ?_ ?_
                          · simp [results, Try.results39, go_sem]
                          · rfl
                          · exact ⟨by rw [HV.out], hgr6⟩
      · have e1 : rwN m n = n + 1 := by unfold rwN; rw [if_neg (by omega)]
        have hmne : ((m : Int) == (n : Int)) = false := beq_eq_false_iff_ne.2 (by omega)
        rw [e1] at hown ⊢
        obtain ⟨wq, rfl⟩ : ∃ x, x = wr := ⟨_, rfl⟩
        have hgq := hgr
        obtain ⟨g6, c6, e6, -⟩ := owns_shape hown.out (by omega)
        injection e6 with e6 e7 e8
        subst e6
        have HL6 : Hid (FB 3 wq g6 (n + 1) (fun i => (((lasL (bts t) m (n + 1)).getD i 0 : Nat) : Int))) := Lib.hid (owns_FB hown.out)
        rw [HNN.out] at HL6 ⊢
        clear hown hgr e1 hlt hk e7 e8
        go_upto_region 13 with fail
        generalize hW7 : World.alloc wq _ = w7
        obtain ⟨Zc, hZc⟩ : ∃ Z, wq.heap.size = Z := ⟨_, rfl⟩
        have hg7 : Gr wq w7 := by rw [← hW7]; exact (Gr.refl _).alloc _
        have HC0 : Hid (FB 76 w7 Zc 257 (cR (lastF (bts t) m) 0)) := Lib.hid (by
          rw [← hW7]
          refine ⟨_, Blk.new wq _ _ hZc, fun i hi => ?_⟩
          rw [zero_257]; simp [hi, cR, cntE])
        rw [hZc]
        have HZc := Lib.hid hZc
        clear hW7 hZc
        go_wp2_with fail
        go_loopw [9] (fun z wr => ∃ k : Nat, k ≤ N ∧ z = .int .i64 (k : Int) ∧ Hid (FB 76 wr Zc 257 (cR (lastF (bts t) m) k)) ∧ Gr wq wr) (fun z _ => N - (intOf z).toNat)
        case atStart => exact ⟨0, Nat.zero_le _, rfl, HC0, hg7⟩
        case round =>
          clear HC0 hg7
          obtain ⟨k, hk, rfl, hB, hgr⟩ := hrel
          by_cases hlt : k < N
          · have hki : (k : Int) < (N : Int) := by omega
            have x0 := (HL6.out.keep hgr).at hlt
            rw [lasL_at _ _ hlt] at x0
            have hfx := HFB.out k
            have HST := Lib.hid (fun r => cR_step (lastF (bts t) m) k r)
            have hsm := cR_small (lastF (bts t) m) k (lastF (bts t) m k)
            generalize lastF (bts t) m k = fx at x0 hfx HST hsm
            have c0 := hB.out.at (i := fx) (by omega)
            have f0 := hB.out.free fx
            have HPUT := Lib.hid (hB.out.put fx (cR (lastF (bts t) m) k fx + 1))
            have HG2 := Lib.hid (Gr.setCell hgr (p := ⟨Zc, fx, none⟩) (Nat.le_of_eq HZc.out) (.int .i64 (cR (lastF (bts t) m) k fx + 1)))
            generalize cR (lastF (bts t) m) k fx = v at c0 hsm HPUT HG2 HST
            have HPUT2 := Lib.hid (HPUT.out.congr (f' := cR (lastF (bts t) m) (k + 1)) (fun i _ => HST.out i))
            have hfi : (fx : Int) < 257 := by omega
            clear hB HPUT HST
            go_wp2_with fail
            go_roundw
            case rel => exact ⟨k + 1, by omega, by go_num, HPUT2, HG2.out⟩
            case measure => simp [intOf]; omega
          · obtain rfl : N = k := by omega
            have HCT := hB
            have hg8 := hgr
            obtain ⟨w8, rfl⟩ : ∃ x, x = wr := ⟨_, rfl⟩
            have HL8 := Lib.hid (HL6.out.keep hg8)
            have hgq8 := hgq.trans hg8
            clear hB hgr hlt hk HL6 hg8
            go_upto_region 19 with fail
            generalize hW9 : World.alloc w8 _ = w9
            obtain ⟨Zb, hZb⟩ : ∃ Z, w8.heap.size = Z := ⟨_, rfl⟩
            have hg9 : Gr w8 w9 := by rw [← hW9]; exact (Gr.refl _).alloc _
            have HB0 : Hid (FB 76 w9 Zb 257 (bR (lastF (bts t) m) N (0 + 1))) := Lib.hid (by
              rw [← hW9]
              refine ⟨_, Blk.new w8 _ _ hZb, fun i hi => ?_⟩
              have h0 : bR (lastF (bts t) m) N (0 + 1) i = 0 := by
                unfold bR
                split
                · rw [show i = 0 by omega, cntB_zero]; rfl
                · rfl
              rw [zero_257, h0]; simp [hi])
            rw [hZb]
            have HZb := Lib.hid hZb
            clear hW9 hZb
            go_wp2_with fail
            go_loopw [12] (fun z wr => ∃ j : Nat, j ≤ 256 ∧ z = .int .i64 ((j : Int) + 1) ∧ Hid (FB 76 wr Zb 257 (bR (lastF (bts t) m) N (j + 1))) ∧ Gr w8 wr) (fun z _ => 257 - (intOf z).toNat)
            case atStart => exact ⟨0, by omega, rfl, HB0, hg9⟩
            case round =>
              clear HB0 hg9
              obtain ⟨j, hj, rfl, hB, hgr⟩ := hrel
              by_cases hlt : j < 256
              · have hji : (j : Int) < 256 := by omega
                have hji2 : (j : Int) + 1 < 257 := by omega
                have hji3 : (j : Int) < 257 := by omega
                have c0 := hB.out.at (i := j) (by omega)
                have c1 := (HCT.out.keep hgr).at (i := j) (by omega)
                have c2 := hB.out.at (i := j + 1) (by omega)
                have f0 := hB.out.free (j + 1)
                have s0 := bR_small (lastF (bts t) m) N (j + 1) j
                have s1 := cR_small (lastF (bts t) m) N j
                have HST := Lib.hid (fun r => bR_step (lastF (bts t) m) N j r)
                have hgd : Gr wr wr.drew := (Gr.refl wr).drew
                have HPUT := Lib.hid ((hB.out.keep hgd).put (j + 1) (bR (lastF (bts t) m) N (j + 1) j + cR (lastF (bts t) m) N j))
                have HG2 := Lib.hid (Gr.setCell (hgr.trans hgd) (p := ⟨Zb, j + 1, none⟩) (Nat.le_of_eq HZb.out) (.int .i64 (bR (lastF (bts t) m) N (j + 1) j + cR (lastF (bts t) m) N j)))
                generalize bR (lastF (bts t) m) N (j + 1) j = u at c0 s0 HPUT HG2 HST
                generalize cR (lastF (bts t) m) N j = v at c1 s1 HPUT HG2 HST
                generalize bR (lastF (bts t) m) N (j + 1) (j + 1) = u2 at c2
                have HPUT2 := Lib.hid (HPUT.out.congr (f' := bR (lastF (bts t) m) N (j + 1 + 1)) (fun i _ => HST.out i))
                have g1 : IntKind.i64.wrap ((j : Int) + 1 - 1) = (j : Int) := by rw [show (j : Int) + 1 - 1 = (j : Int) by omega]; exact IntWalk.i64_in _ (by omega)
                have g1b : IntKind.i64.wrap (j : Int) = (j : Int) := IntWalk.i64_in _ (by omega)
                have g2 : (0 : Int) ≤ (j : Int) + 1 := by omega
                have g3 : ((j : Int) + 1).toNat = j + 1 := by omega
                have g4 : IntKind.i64.wrap (u + v) = u + v := IntWalk.i64_in _ (by omega)
                clear hB HPUT HST
                go_upto_region 22 with fail
                go_still_tail 11, (by kernel_rfl)
                change wpList _ _ _ _ _ wr.drew
                have c2d : wr.drew.cell? ⟨Zb, j + 1, none⟩ = some (.int .i64 u2) := c2
                have f0d : wr.drew.frozen? ⟨Zb, j + 1, none⟩ = false := f0
                generalize wr.drew = wd at c2d f0d HPUT2 HG2 ⊢
                clear c0 c1 c2 f0 g1 g1b g2 g3 g4 hgd
                go_wp2_with fail
                go_roundw
                case rel => exact ⟨j + 1, by omega, by go_num, HPUT2, HG2.out⟩
                case measure => simp [intOf]; omega
              · obtain rfl : j = 256 := by omega
                have HS0 : Hid (FB 76 wr Zb 257 (sR (lastF (bts t) m) N 0)) := Lib.hid (hB.out.congr (fun i hi => sR_zero _ _ hi))
                have hg10 := hgr
                clear hB hgr hlt hj
                obtain ⟨wb, rfl⟩ : ∃ x, x = wr := ⟨_, rfl⟩
                rw [show ((256 : Nat) : Int) + 1 = 257 from rfl]
                go_wp2_with fail
                go_loopw [13, 14] (fun v z wr => ∃ (k : Nat) (A : Option Addr) (c : Nat), k ≤ N ∧ z = .int .i64 (k : Int) ∧ v = .slice A k c ∧ Hid (wr.ownsRow w8.heap.size 3 1 (.slice A k c) k (flatE enc1 (nI ((List.range k).map (fstR (bts t) m))))) ∧ Hid (FB 76 wr Zb 257 (sR (lastF (bts t) m) N k)) ∧ Gr w8 wr) (fun _ z _ => N - (intOf z).toNat)
                case atStart => exact ⟨0, none, 0, Nat.zero_le _, rfl, rfl, Lib.hid (World.ownsRow_nil _ _ _ _), HS0, hg10⟩
                case round =>
                  clear HS0 hg10
                  obtain ⟨k, A, c, hk, rfl, rfl, hown, hS, hgr⟩ := hrel
                  by_cases hlt : k < N
                  · have hki : (k : Int) < (N : Int) := by omega
                    have x0 := (HL8.out.keep hgr).at hlt
                    rw [lasL_at _ _ hlt] at x0
                    have hfx := HFB.out k
                    have HST := Lib.hid (fun r => sR_step (lastF (bts t) m) N k r)
                    have hps : sR (lastF (bts t) m) N k (lastF (bts t) m k) = (fstR (bts t) m k : Int) := by
                      have := sR_pos (bts t) m (k := k) (by rw [HTL.out, HNN.out]; exact hlt)
                      rwa [HTL.out, HNN.out] at this
                    have hfl : fstR (bts t) m k < N := by
                      have := fstR_lt (bts t) m (r := k) (by rw [HTL.out, HNN.out]; exact hlt)
                      rwa [HTL.out, HNN.out] at this
                    have HLS : Hid ((List.range (k + 1)).map (fstR (bts t) m) = (List.range k).map (fstR (bts t) m) ++ [fstR (bts t) m k]) := Lib.hid (by simp [List.range_succ])
                    generalize lastF (bts t) m k = fx at x0 hfx HST hps
                    have c0 := hS.out.at (i := fx) (by omega)
                    rw [hps] at c0
                    have HPS := Lib.hid hps
                    generalize fstR (bts t) m k = fr at c0 hfl HLS HPS
                    have hfi : (fx : Int) < 257 := by omega
                    obtain ⟨hi, hz0, hz1, hz2⟩ := HI.out
                    clear hps
                    go_wp2_with (at_builtin; refine wpList_append_own _ rfl _ _ 23 rfl w8.heap.size 3 i0 _ 1 8 Try.underlying23 hi hz0 hz1 hz2 rfl (by decide) _ _ _ rfl (hown.out.alloc _) ⟨wr.heap.size, 0, none⟩ 1 1 [.int .i64 (fr : Int)] rfl rfl ?q1 ?q2 ?q3 ?q4 ?q5 ?_)
                    case q1 =>
                      intro t x ht
                      rw [Addr.add_lit]
                      exact alloc_new rfl (by rw [Nat.zero_add]; simpa using ht)
                    case q2 => intro x hx; rw [List.mem_singleton] at hx; subst hx; rfl
                    case q3 => unfold maxLen; omega
                    case q4 => omega
                    case q5 => have := hgr.size; simp; omega
                    intro v' w3 hown3 hgrow _
                    have hal : Gr wr (wr.alloc (.cells #[.int .i64 (fr : Int)] 3)) := (Gr.refl _).alloc _
                    have ho2 := hown.out.alloc (.cells #[.int .i64 (fr : Int)] 3)
                    have hg3 : Gr w8 w3 := Below.grown (hgr.trans hal) hgrow (hgr.trans hal).size (fun t ht => (ho2.lt t ht).1)
                    have hS3 := (hS.out.keep hal).grown hgrow ((hS.out.keep hal).apart ho2 (by decide))
                    obtain ⟨g3, c3, rfl, -⟩ := owns_shape hown3 (by omega)
                    have HO3 := Lib.hid (owns_app hown3)
                    have d0 := hS3.at (i := fx) (by omega)
                    rw [HPS.out] at d0
                    have d1 := hS3.free fx
                    have hgz : Zb ≠ g3 := fun e => (hS3.apart hown3 (by decide)) (by rw [e]; rfl)
                    have HO4 : Hid ((w3.setCell ⟨Zb, fx, none⟩ (.int .i64 ((fr : Int) + 1))).ownsRow w8.heap.size 3 1 (.slice (some ⟨g3, 0, none⟩) (k + 1) c3) (k + 1) (flatE enc1 (nI ((List.range (k + 1)).map (fstR (bts t) m))))) := Lib.hid (by
                      rw [HLS.out]
                      exact owns_other HO3.out _ (fun e => hgz (by injection e with e; exact e.symm)))
                    have HS4 : Hid (FB 76 (w3.setCell ⟨Zb, fx, none⟩ (.int .i64 ((fr : Int) + 1))) Zb 257 (sR (lastF (bts t) m) N (k + 1))) := Lib.hid ((hS3.put fx ((fr : Int) + 1)).congr (fun i _ => by rw [HST.out i, HPS.out]))
                    have HG4 := Lib.hid (hg3.setCell (p := ⟨Zb, fx, none⟩) (Nat.le_of_eq HZb.out) (.int .i64 ((fr : Int) + 1)))
                    clear hown3 hgrow hal ho2 hi hz0 hz1 hz2 hown hS hS3 c0 x0 HO3 hg3 hgr HST
                    go_wp2_with fail
                    go_roundw
                    case rel => exact ⟨k + 1, _, _, by omega, by go_num, rfl, HO4, HS4, HG4.out⟩
                    case measure => simp [intOf]; omega
                  · obtain rfl : N = k := by omega
                    obtain ⟨w10, rfl⟩ : ∃ x, x = wr := ⟨_, rfl⟩
                    obtain ⟨gF, cF, eF, -⟩ := owns_shape hown.out (by have := HNN.out; omega)
                    injection eF with eF1 eF2 eF3
                    subst eF1
                    have HFF : Hid (FB 3 w10 gF N (fun i => (fstR (bts t) m i : Int))) := Lib.hid ((owns_FB hown.out).congr (fun i hi => by
                      rw [List.getD_eq_getElem?_getD, List.getElem?_map, List.getElem?_range hi]; rfl))
                    have HL10 := Lib.hid (HL8.out.keep hgr)
                    have hgw10 := hgq8.trans hgr
                    have hmk := fun W => mk_bcF n hnb W
                    clear hown hS hgr hlt hk eF2 eF3 HL8 HCT
                    go_upto_region 31 with fail
                    generalize hW11 : World.alloc w10 _ = w11
                    obtain ⟨Zo, hZo⟩ : ∃ Z, w10.heap.size = Z := ⟨_, rfl⟩
                    have hg11 : Gr w10 w11 := by rw [← hW11]; exact (Gr.refl _).alloc _
                    have HOB : Hid (w11.ownsRow w10.heap.size 5 1 (.slice (some ⟨Zo, 0, none⟩) n n) n (flatE encB (List.replicate n 0))) := Lib.hid (by
                      rw [← hW11, ← hZo, ← bcF_list]
                      exact World.ownsRow_lit w10 (bcF n) n (Nat.le_refl _) (by unfold maxLen; omega) (by simp [bcF]))
                    rw [hZo]
                    have HZo := Lib.hid hZo
                    clear hW11 hZo hmk
                    have hn1 : IntKind.i64.wrap ((n : Int) - 1) = (n : Int) - 1 := IntWalk.i64_in _ (by omega)
                    go_wp2_with fail
                    go_loopw [17, 18] (fun a z wr => ∃ (k : Nat) (ob : List UInt8), k ≤ n ∧ z = .int .i64 ((k : Int) - 1) ∧ a = .int .i64 (bkR (bts t) m (n - k) : Int) ∧ Hid (ob.length = n) ∧ Hid (wr.ownsRow w10.heap.size 5 1 (.slice (some ⟨Zo, 0, none⟩) n n) n (flatE encB ob)) ∧ Hid (∀ i, k ≤ i → i < n → ob.getD i 0 = bkB (bts t) m i) ∧ Gr w10 wr) (fun _ z _ => (intOf z + 1).toNat)
                    case atStart => exact ⟨n, List.replicate n 0, Nat.le_refl _, by first | rfl | go_num, by rw [Nat.sub_self]; rfl, Lib.hid (List.length_replicate ..), HOB, Lib.hid (fun i h1 h2 => by omega), hg11⟩
                    case round =>
                      clear HOB hg11
                      obtain ⟨k, ob, hk, rfl, rfl, hol, hown, hob, hgr⟩ := hrel
                      by_cases hlt : 0 < k
                      · have hki : (0 : Int) ≤ (k : Int) - 1 := by omega
                        have hbl : bkR (bts t) m (n - k) < N := by
                          have := bkR_lt (bts t) m (n - k)
                          rw [HTL.out] at this
                          have := HNN.out; omega
                        have x0 := (HL10.out.keep hgr).at hbl
                        rw [lasL_at _ _ hbl] at x0
                        have y0 := (HFF.out.keep hgr).at hbl
                        have hfx := HFB.out (bkR (bts t) m (n - k))
                        have HNX : Hid (fstR (bts t) m (bkR (bts t) m (n - k)) = bkR (bts t) m (n - (k - 1))) := Lib.hid (by rw [show n - (k - 1) = (n - k) + 1 by omega]; rfl)
                        have HBB : Hid (bkB (bts t) m (k - 1) = UInt8.ofNat (lastF (bts t) m (bkR (bts t) m (n - k)) - 1)) := Lib.hid (by unfold bkB; rw [HTL.out, show n - 1 - (k - 1) = n - k by omega])
                        have HNO : Hid (lastF (bts t) m (bkR (bts t) m (n - k)) = 0 → resF (bts t) m n = none) := Lib.hid (fun h0 => by
                          cases hr : resF (bts t) m n with
                          | none => rfl
                          | some qq =>
                            obtain ⟨r0, bs⟩ := qq
                            exact absurd h0 ((bk_some (by rw [HTL.out]; exact hm) (by rw [HTL.out]; exact hr)).1 (n - k) (by rw [HTL.out]; omega)))
                        generalize lastF (bts t) m (bkR (bts t) m (n - k)) = fx at x0 hfx HBB HNO
                        generalize fstR (bts t) m (bkR (bts t) m (n - k)) = nx at y0 HNX
                        generalize bkR (bts t) m (n - k) = at_ at x0 y0 hbl
                        have hai : (at_ : Int) < (N : Int) := by omega
                        by_cases h0 : fx = 0
                        · have hv : resV t m = .tuple #[.string ⟨#[]⟩, .int .i64 70] := by unfold resV; rw [HSZ.out, HNO.out h0]
                          have HV := Lib.hid hv
                          have hgr5 := hgw10.trans hgr
                          subst h0
                          clear hv hown hob hol HNO
                          go_wp2_with fail
                          refine bodyPost_ret (v := .tuple #[.string ⟨#[]⟩, .int .i64 70]) ?_ ?_ ?_
                          · simp [results, Try.results39, go_sem]
                          · rfl
                          · exact ⟨by rw [HV.out], hgr5⟩
                        · obtain ⟨y, rfl⟩ : ∃ y, fx = y + 1 := ⟨fx - 1, by omega⟩
                          have hne : (((y + 1 : Nat) : Int) == 0) = false := beq_eq_false_iff_ne.2 (by omega)
                          have hy8 : y ≤ 255 := by omega
                          have hw1 : IntKind.i64.wrap (((y + 1 : Nat) : Int) - 1) = (y : Int) := by rw [show ((y + 1 : Nat) : Int) - 1 = (y : Int) by omega]; exact IntWalk.i64_in _ (by omega)
                          have HU : Hid ((UInt8.ofNat y).toNat = y) := Lib.hid (by rw [UInt8.toNat_ofNat']; omega)
                          rw [Nat.add_sub_cancel] at HBB
                          obtain ⟨j, hj⟩ : ∃ j, k = j + 1 := ⟨k - 1, by omega⟩
                          subst hj
                          rw [Nat.add_sub_cancel] at HNX HBB
                          have hj1 : ((j + 1 : Nat) : Int) - 1 = (j : Int) := by omega
                          have hjn : (j : Int) < (n : Int) := by omega
                          have c0 : wr.cell? ⟨Zo, j, none⟩ = some (.int .u8 ((ob.getD j 0).toNat : Int)) := by
                            rw [hown.out.cellAt j (by omega)]
                            have hx : ob[j]? = some (ob.getD j 0) := by rw [List.getD_eq_getElem?_getD, List.getElem?_eq_getElem (by rw [hol.out]; omega)]; rfl
                            have := flatE_get encB_len ob j _ hx 0 (by decide)
                            rwa [Nat.mul_one, Nat.add_zero] at this
                          have f0 := hown.out.frozenAt j
                          have HST := Lib.hid (hown.out.stored j (.int .u8 (y : Int))).1
                          have HO2 : Hid ((wr.setCell ⟨Zo, j, none⟩ (.int .u8 (y : Int))).ownsRow w10.heap.size 5 1 (.slice (some ⟨Zo, 0, none⟩) n n) n (flatE encB (ob.set j (UInt8.ofNat y)))) := Lib.hid (by rw [encB_set, HU.out]; exact HST.out)
                          have HG2 := Lib.hid (hgr.setCell (p := ⟨Zo, j, none⟩) (Nat.le_of_eq HZo.out) (.int .u8 (y : Int)))
                          have HOL : Hid ((ob.set j (UInt8.ofNat y)).length = n) := Lib.hid (by rw [List.length_set]; exact hol.out)
                          have HOB : Hid (∀ i, j ≤ i → i < n → (ob.set j (UInt8.ofNat y)).getD i 0 = bkB (bts t) m i) := Lib.hid (fun i h1 h2 => by
                            by_cases e : i = j
                            · subst e
                              rw [List.getD_eq_getElem?_getD, List.getElem?_set_self (by rw [hol.out]; exact h2), HBB.out]; rfl
                            · rw [List.getD_eq_getElem?_getD, List.getElem?_set_ne (by omega), ← List.getD_eq_getElem?_getD]
                              exact hob.out i (by omega) h2)
                          have y1 : (wr.setCell ⟨Zo, j, none⟩ (.int .u8 (y : Int))).cell? ⟨gF, at_, none⟩ = some (.int .i64 (nx : Int)) := (HFF.out.keep HG2.out).at hbl |>.trans (by
                            have := (HFF.out.keep hgr).at hbl
                            rw [y0] at this
                            exact this.symm)
                          generalize (ob.getD j 0).toNat = oldb at c0
                          generalize ob.set j (UInt8.ofNat y) = ob2 at HO2 HOL HOB
                          have hj2 : IntKind.i64.wrap ((j : Int) - 1) = (j : Int) - 1 := IntWalk.i64_in _ (by omega)
                          have hw8 : IntKind.u8.wrap (y : Int) = (y : Int) := by simp [IntKind.wrap, IntKind.bits, IntKind.signed]; omega
                          rw [hj1] at hki ⊢
                          clear hown hob hol HST HBB HNO hlt
                          go_wp2_with fail
                          go_roundw
                          case rel => exact ⟨j, ob2, by omega, by first | rfl | go_num, by rw [← HNX.out], HOL, HO2, HOB, HG2.out⟩
                          case measure => simp [intOf] <;> omega
                      · obtain rfl : k = 0 := by omega
                        have hcv := convB_any _ _ _ _ _ hol.out hown.out
                        have hbt : (⟨ob.toArray⟩ : ByteArray).size = n := by rw [size_mk]; exact hol.out
                        have HTU := Lib.hid (fun W => rTurn_any ⟨ob.toArray⟩ n W hbt (by omega))
                        have HOE : Hid (ob = (List.range n).map (bkB (bts t) m)) := Lib.hid (by
                          apply List.ext_getElem
                          · rw [hol.out, List.length_map, List.length_range]
                          · intro i h1 h2
                            have h3 := hob.out i (Nat.zero_le _) (by rw [← hol.out]; exact h1)
                            rw [List.getElem_map, List.getElem_range, ← h3, List.getD_eq_getElem?_getD, List.getElem?_eq_getElem h1]; rfl)
                        have hgr5 := hgw10.trans hgr
                        have HOL2 := Lib.hid hol.out
                        have hz1 : ((0 : Nat) : Int) - 1 = -1 := rfl
                        rw [hz1]
                        have HTU1 := Lib.hid (HTU.out wr)
                        clear hown hob hol hgr HTU hbt hz1 hlt hk
                        go_wp2_with (simp only [hcv])
                        refine HTU1.out.mono ?_
                        rintro e w12 ⟨o', ho', rfl, hg12⟩
                        rw [bts_mk] at ho'
                        rw [bts_mk]
                        have hgr6 := hgr5.trans hg12
                        obtain ⟨⟨u, M⟩, hu⟩ : ∃ r, turF ob (n :: o') (n + 1) = r := ⟨_, rfl⟩
                        rw [hu]
                        have hse : (⟨u.toArray⟩ : ByteArray).toList = u := by rw [ByteArray.toList_eq]
                        have hte : t.toList = bts t := by rw [ByteArray.toList_eq]; rfl
                        cases hres : resF (bts t) m n with
                        | none =>
                          have HV : Hid (resV t m = .tuple #[.string ⟨#[]⟩, .int .i64 70]) := Lib.hid (by unfold resV; rw [HSZ.out, hres])
                          have hnt := no_turn (t := bts t) (T := ob) (m := m) (by rw [HTL.out]; exact hres) ho' (by rw [HTL.out]; exact HOL2.out)
                          rw [HOL2.out, hu] at hnt
                          by_cases hub : u = bts t
                          · have hM : M ≠ m := fun e => hnt (by rw [hub, e])
                            have hMe : ((M : Int) == (m : Int)) = false := beq_eq_false_iff_ne.2 (by omega)
                            have hcmp : ((⟨u.toArray⟩ : ByteArray).toList == t.toList) = true := by rw [hse, hte, hub]; exact beq_self_eq_true _
                            clear hnt hub hu hres hse hte HTU1 hcv
                            generalize (⟨u.toArray⟩ : ByteArray) = ub at *
                            go_wp2_with fail
                            refine bodyPost_ret (v := .tuple #[.string ⟨#[]⟩, .int .i64 70]) ?_ ?_ ?_
                            · simp [results, Try.results39, go_sem]
                            · rfl
                            · exact ⟨by rw [HV.out], hgr6⟩
                          · have hcmp : ((⟨u.toArray⟩ : ByteArray).toList == t.toList) = false := by rw [hse, hte]; exact beq_eq_false_iff_ne.2 hub
                            clear hnt hub hu hres hse hte HTU1 hcv
                            generalize (⟨u.toArray⟩ : ByteArray) = ub at *
                            go_wp2_with fail
                            refine bodyPost_ret (v := .tuple #[.string ⟨#[]⟩, .int .i64 70]) ?_ ?_ ?_
                            · simp [results, Try.results39, go_sem]
                            · rfl
                            · exact ⟨by rw [HV.out], hgr6⟩
                        | some qq =>
                          obtain ⟨r0, bs⟩ := qq
                          have hbs := (bk_some (by rw [HTL.out]; exact hm) (by rw [HTL.out]; exact hres)).2
                          rw [HTL.out, ← HOE.out] at hbs
                          subst hbs
                          obtain ⟨o2, ho2, hbl, htb⟩ := turned_back (t := bts t) (m := m) (by rw [HTL.out]; exact hm) (by rw [HTL.out]; exact hres)
                          obtain rfl := ho'.one ho2
                          rw [HOL2.out, hu] at htb
                          injection htb with hb1 hb2
                          subst hb2
                          have HV : Hid (resV t M = .tuple #[.string ⟨bs.toArray⟩, .int .i64 0]) := Lib.hid (by unfold resV; rw [HSZ.out, hres])
                          have hcmp : ((⟨u.toArray⟩ : ByteArray).toList == t.toList) = true := by rw [hse, hte, hb1]; exact beq_self_eq_true _
                          clear hb1 hu hres hse hte HTU1 hcv ho' ho2 hbl
                          generalize (⟨u.toArray⟩ : ByteArray) = ub at *
                          generalize (⟨bs.toArray⟩ : ByteArray) = sb at *
                          go_wp2_with fail
                          refine bodyPost_ret (v := .tuple #[.string sb, .int .i64 0]) ?_ ?_ ?_
                          · simp [results, Try.results39, go_sem]
                          · rfl
                          · exact ⟨by rw [HV.out], hgr6⟩

end Go.Proofs.Ytndmbjicflcpmaa
