/- Layer 7: Turn. -/
import Derived.Test.YtmcefcdnfngndaaFdU
import Derived.Maps.AppendAt
namespace Go.Proofs.Ytmcefcdnfngndaa
open Go.RowKit Go.Shelf
set_option linter.unusedSimpArgs false

theorem Try.infoFdB : (Try.prog.info? 5).map (fun i => (i.zero, i.size, i.bytes)) = some (some (.int .u8 0), 1, 1) := by kernel_rfl
/-- Bytes as they lie. -/
def encB (b : UInt8) : List Value := [.int .u8 (b.toNat : Int)]
theorem encB_len (b : UInt8) : (encB b).length = 1 := rfl
theorem encB_one (b : UInt8) : ∀ u ∈ encB b, u.oneCell' = true := by intro u hu; simp [encB] at hu; subst hu; rfl
/-- The last bytes of the rotations, and the mark, after k elements of the order with the end ahead. -/
def turF (T : List UInt8) (l : List Nat) : Nat → List UInt8 × Nat
  | 0 => ([], 0)
  | k + 1 => if l.getD k 0 = 0 then ((turF T l k).1, (turF T l k).1.length) else ((turF T l k).1 ++ [T.getD (l.getD k 0 - 1) 0], (turF T l k).2)
theorem turF_le (T : List UInt8) (l : List Nat) : ∀ k, (turF T l k).1.length ≤ k ∧ (turF T l k).2 ≤ k
  | 0 => by simp [turF]
  | k + 1 => by
    have := turF_le T l k
    simp only [turF]
    split
    · dsimp only; omega
    · rw [List.length_append, List.length_singleton]; omega
theorem convB_any (bs : List UInt8) (m : Nat) (v : Value) (w0 : Nat) (w : World) (hm : bs.length = m) (h : w.ownsRow w0 5 1 v m (flatE encB bs)) : (convert 61 9 v).run Try.prog w = .ok (.string ⟨bs.toArray⟩) w := by
  obtain ⟨A, c, rfl, -, hr, hA⟩ := own_row encB_len hm h
  cases A with
  | none =>
    have : m = 0 := by
      rcases h.2 with ⟨_, hz⟩ | ⟨g, cap, cur, hv, _⟩
      · exact hz
      · cases hv
    subst this
    have : bs = [] := List.eq_nil_of_length_eq_zero hm
    subst this
    rw [run_convert_bytes_string w 61 9 5 none 0 c Try.underlying61 Try.underlying5 Try.underlying9]
    rfl
  | some a =>
    have h2 := run_convert_bytes_back (P := Try.prog) w 61 9 5 a c bs Try.underlying61 Try.underlying5 Try.underlying9 (fun j hj => by
      obtain ⟨b', o', e, cj⟩ := hr j _ (List.getElem?_eq_getElem hj)
      obtain rfl := Option.some.inj e
      rw [Addr.add_lit]
      have := cj 0 _ rfl
      rwa [Nat.mul_one, Nat.add_zero] at this)
    rw [hm] at h2
    exact h2

theorem owns_FB {w : World} {base g n c : Nat} {l : List Nat} (h : w.ownsRow base 3 1 (.slice (some ⟨g, 0, none⟩) n c) n (flatE enc1 (nI l))) : FB 3 w g n (fun i => ((l.getD i 0 : Nat) : Int)) := by
  have hl : (flatE enc1 (nI l)).length = n * 1 := h.1
  rw [flatE_len enc1_len, nI_len] at hl
  have hc : ∀ i, i < n → w.cell? ⟨g, i, none⟩ = some (.int .i64 ((l.getD i 0 : Nat) : Int)) := fun i hi => by
    rw [h.cellAt i (by omega)]
    have hx : (nI l)[i]? = some ((l.getD i 0 : Nat) : Int) := by
      rw [← nI_at]; exact getD_of 0 (by rw [nI_len]; omega)
    have := flatE_get enc1_len (nI l) i _ hx 0 (by decide)
    rwa [Nat.mul_one, Nat.add_zero] at this
  rcases h.2 with ⟨h', _⟩ | ⟨g', cap', cur, h', _, hg, _⟩
  · simp at h'
  · simp only [Value.slice.injEq, Option.some.injEq, Addr.mk.injEq, and_true, true_and] at h'
    obtain ⟨rfl, rfl⟩ := h'
    exact ⟨cur, hg, fun i hi => ((show Blk w g 3 cur from hg).cell i).symm.trans (hc i hi)⟩
theorem FB.grown {t : TypeId} {w w' : World} {g n : Nat} {f : Nat → Int} {row : Option Nat} (h : FB t w g n f) (hg : w.grownBy w' row) (hne : some g ≠ row) : FB t w' g n f := by
  obtain ⟨cs, h1, h2⟩ := h
  exact ⟨cs, h1.grown hg hne, h2⟩
theorem FB.apart {t : TypeId} {w : World} {g n : Nat} {f : Nat → Int} {base : Nat} {e : TypeId} {size m : Nat} {v : Value} {xs : List Value} (h : FB t w g n f) (ho : w.ownsRow base e size v m xs) (hne : t ≠ e) : some g ≠ v.ownBlock := by
  obtain ⟨cs, h1, h2⟩ := h
  exact h1.apart ho hne

set_option maxRecDepth 1000000 in
set_option maxHeartbeats 4000000 in
theorem turn_no (s : ByteArray) (w : World) (hn : 4096 < s.size) : Calls Try.prog 23 #[.string s] w fun e w' => e = .returned (.tuple #[.string ⟨#[]⟩, .int .i64 0, .int .i64 2]) ∧ Gr w w' := by
  have HN := Lib.hid (fun W => new_no s W hn)
  clear hn
  go_enter Try.func23, Try.ntmps23
  have HN1 := Lib.hid (HN.out w)
  go_wp2_with fail
  refine HN1.out.mono ?_
  rintro e w2 ⟨rfl, hg2⟩
  clear HN1 HN
  go_upto_region 2 with fail
  generalize hW1 : World.alloc w2 _ = w3
  have hg3 : Gr w w3 := by rw [← hW1]; exact hg2.alloc _
  clear hW1
  go_wp2_with fail
  refine bodyPost_ret (v := .tuple #[.string ⟨#[]⟩, .int .i64 0, .int .i64 2]) ?_ ?_ ?_
  · simp [results, Try.results23, go_sem]
  · rfl
  · exact ⟨rfl, hg3⟩

/-- What Turn answers of a text in this order. -/
def turV (s : ByteArray) (o : List Nat) (n : Nat) : Value := .tuple #[.string ⟨(turF (bts s) (n :: o) (n + 1)).1.toArray⟩, .int .i64 ((turF (bts s) (n :: o) (n + 1)).2 : Int), .int .i64 0]
theorem bts_getD (s : ByteArray) {i : Nat} (h : i < s.size) : (bts s).getD i 0 = s[i] := by
  rw [List.getD_eq_getElem?_getD, List.getElem?_eq_getElem (by rw [bts_len]; exact h)]; rfl
set_option maxRecDepth 1000000 in
set_option maxHeartbeats 8000000 in
theorem turn_yes (s : ByteArray) (n : Nat) (w : World) (hn : s.size = n) (hnb : n ≤ 4096) : Calls Try.prog 23 #[.string s] w fun e w' => ∃ o, IsOrd (bts s) o ∧ e = .returned (turV s o n) ∧ Gr w w' := by
  have HNC := Lib.hid (fun W => new_yes s n W hn hnb)
  obtain ⟨i0, hi, hz0, hz1, hz2⟩ := info_parts Try.infoFdI
  obtain ⟨i1, ji, jz0, jz1, jz2⟩ := info_parts Try.infoFdB
  have HI := Lib.hid (And.intro hi (And.intro hz0 (And.intro hz1 hz2)))
  have HJ := Lib.hid (And.intro ji (And.intro jz0 (And.intro jz1 jz2)))
  clear hi hz0 hz1 hz2 ji jz0 jz1 jz2
  subst hn
  go_enter Try.func23, Try.ntmps23
  have HN1 := Lib.hid (HNC.out w)
  go_wp2_with fail
  refine HN1.out.mono ?_
  rintro e w2 ⟨o, G, V, rfl, hX, hg2⟩
  have HO := Lib.hid hX.ord
  have hol := hX.olen
  have HRO := Lib.hid hX.ro
  clear HN1 HNC hX
  go_upto_region 2 with fail
  generalize hW1 : World.alloc w2 _ = w3
  obtain ⟨X, hXX⟩ : ∃ X, w2.heap.size = X := ⟨_, rfl⟩
  rw [hXX]
  have HBX : Hid (Blk w3 X 25 #[.string s, .slice (some ⟨G, 0, none⟩) s.size s.size, .slice (some ⟨V, 0, none⟩) s.size s.size]) := Lib.hid (by rw [← hW1]; exact Blk.new w2 _ _ hXX)
  have hg3 : Gr w2 w3 := by rw [← hW1]; exact (Gr.refl _).alloc _
  have HR3 := Lib.hid (HRO.out.keep hg3)
  have hgr := hg2.trans hg3
  clear hW1 hXX HRO hg2 hg3
  go_upto_region 5 with fail
  generalize hW4 : World.alloc w3 _ = w4
  have hg4 : Gr w3 w4 := by rw [← hW4]; exact (Gr.refl _).alloc _
  have HOT : Hid (w4.ownsRow w.heap.size 5 1 (.slice (some ⟨w3.heap.size, 0, none⟩) 0 0) 0 []) := Lib.hid (by rw [← hW4]; exact World.ownsRow_lit w3 #[] 0 hgr.size (by unfold maxLen; omega) rfl)
  have HB4 := Lib.hid (HBX.out.keep hg4)
  have HR4 := Lib.hid (HR3.out.keep hg4)
  have hgr4 := hgr.trans hg4
  have z1 : (w4.alloc (.cells #[.int .i64 (s.size : Int)] 3)).cell? ⟨X, 1, none⟩ = some (.slice (some ⟨G, 0, none⟩) s.size s.size) := alloc_old (HB4.out.cell 1)
  have HLIT : Hid ((w4.alloc (.cells #[.int .i64 (s.size : Int)] 3)).ownsRow w.heap.size 3 1 (.slice (some ⟨w4.heap.size, 0, none⟩) 1 1) 1 [.int .i64 (s.size : Int)]) := Lib.hid (World.ownsRow_lit w4 #[.int .i64 (s.size : Int)] 1 hgr4.size (by unfold maxLen; omega) rfl)
  have HR5 := Lib.hid (HR4.out.keep ((Gr.refl w4).alloc (.cells #[.int .i64 (s.size : Int)] 3)))
  have hlo : (flatE enc1 (nI o)).length = s.size * 1 := by rw [flatE_len enc1_len, nI_len, hol]
  have hsz5 : w.heap.size ≤ (w4.alloc (.cells #[.int .i64 (s.size : Int)] 3)).heap.size := (hgr4.alloc _).size
  obtain ⟨hi, hz0, hz1, hz2⟩ := HI.out
  generalize w3.heap.size = Y at HOT ⊢
  clear hW4 hgr hg4 HBX HR3
  go_wp2_with (at_builtin; refine wpList_append_own_at _ (by rfl) (.tmp 22) (.tmp 24) 23 (by rfl) w.heap.size 3 i0 _ 1 8 Try.underlying23 hi hz0 hz1 hz2 rfl (by decide) (.slice (some ⟨w4.heap.size, 0, none⟩) 1 1) 1 [.int .i64 (s.size : Int)] (by rfl) HLIT.out ⟨G, 0, none⟩ s.size s.size (flatE enc1 (nI o)) (by rfl) hlo (Rd_news enc1_len (by decide) HR5.out) (oneCell_flat enc1_one _) (by unfold maxLen; omega) (by omega) hsz5 ?_)
  intro v5 w5 ho5 hgrow5 _ _
  have hg5 : Gr w w5 := Below.grown (hgr4.alloc _) hgrow5 hsz5 (fun t ht => (HLIT.out.lt t ht).1)
  have HOT5 : Hid (w5.ownsRow w.heap.size 5 1 (.slice (some ⟨Y, 0, none⟩) 0 0) 0 []) := Lib.hid ((HOT.out.alloc _).kept hgrow5 (Or.inr (fun e => by
    have h1 : some Y = some w4.heap.size := e
    have h2 := (HOT.out.lt Y rfl).2
    injection h1 with h1; omega)))
  obtain ⟨g5, c5, rfl, -⟩ := owns_shape ho5 (by omega)
  obtain ⟨m, hm⟩ : ∃ m, 1 + s.size = m := ⟨_, rfl⟩
  have HFL : Hid (FB 3 w5 g5 m (fun i => (((s.size :: o).getD i 0 : Nat) : Int))) := Lib.hid (owns_FB (c := c5) (base := w.heap.size) (by rw [← hm]; exact ho5))
  rw [hm]
  obtain ⟨l, hl⟩ : ∃ l, s.size :: o = l := ⟨_, rfl⟩
  have HLM : Hid (∀ k, k < m → l.getD k 0 ≤ s.size) := Lib.hid (fun k hk => by
    rw [← hl]
    cases k with
    | zero => exact Nat.le_refl _
    | succ k =>
      have : o.getD k 0 < (bts s).length := HO.out.getD_lt (by rw [bts_len]; omega)
      rw [bts_len] at this
      exact Nat.le_of_lt this)
  have HL := Lib.hid hl
  rw [hl] at HFL
  obtain ⟨T, hT⟩ : ∃ T, bts s = T := ⟨_, rfl⟩
  have HT := Lib.hid hT
  have HM := Lib.hid hm
  have hm4 : m ≤ 4097 := by omega
  clear ho5 hgrow5 HLIT HR5 hlo hsz5 HR4 HOT z1 hgr4 HB4 hl hT hm hi hz0 hz1 hz2 HI
  go_wp2_with fail
  go_loopw [7, 8, 27] (fun v q z wr => ∃ k : Nat, k ≤ m ∧ z = .int .i64 (k : Int) ∧ q = .int .i64 ((turF T l k).2 : Int) ∧ Hid (wr.ownsRow w.heap.size 5 1 v (turF T l k).1.length (flatE encB (turF T l k).1)) ∧ Hid (FB 3 wr g5 m (fun i => ((l.getD i 0 : Nat) : Int))) ∧ Gr w wr) (fun _ _ z _ => m - (intOf z).toNat)
  case atStart => exact ⟨0, Nat.zero_le _, rfl, rfl, HOT5, HFL, hg5⟩
  case round =>
    clear HOT5 HFL hg5
    obtain ⟨k, hk, rfl, rfl, hown, hF, hgr⟩ := hrel
    obtain ⟨A7, c7, rfl, -⟩ := own_row encB_len rfl hown.out
    by_cases hlt : k < m
    · have x0 := hF.out.at hlt
      have hxl := HLM.out k hlt
      have hki : (k : Int) < (m : Int) := by omega
      have htl := turF_le T l k
      by_cases hx : l.getD k 0 = 0
      · have HE : Hid (turF T l (k + 1) = ((turF T l k).1, (turF T l k).1.length)) := Lib.hid (by simp only [turF]; rw [if_pos hx])
        rw [hx] at x0
        generalize turF T l k = r at hown htl HE ⊢
        obtain ⟨r1, r2⟩ := r
        dsimp only at hown htl HE ⊢
        clear hx hxl
        go_wp2_with fail
        go_roundw
        case rel => exact ⟨k + 1, by omega, by go_num, by rw [HE.out], by rw [HE.out]; exact hown, hF, hgr⟩
        case measure => simp [intOf]; omega
      · have hxs : l.getD k 0 - 1 < s.size := by omega
        have HTD : Hid (T.getD (l.getD k 0 - 1) 0 = s[l.getD k 0 - 1]) := Lib.hid (by rw [← HT.out]; exact bts_getD s hxs)
        have HE : Hid (turF T l (k + 1) = ((turF T l k).1 ++ [s[l.getD k 0 - 1]], (turF T l k).2)) := Lib.hid (by simp only [turF]; rw [if_neg hx, HTD.out])
        have x1 : (((l.getD k 0 : Nat) : Int) == 0) = false := beq_eq_false_iff_ne.2 (by omega)
        have hwr : IntKind.i64.wrap (((l.getD k 0 : Nat) : Int) - 1) = ((l.getD k 0 - 1 : Nat) : Int) := by rw [show ((l.getD k 0 : Nat) : Int) - 1 = ((l.getD k 0 - 1 : Nat) : Int) by omega]; exact IntWalk.i64_in _ (by omega)
        clear HTD
        generalize l.getD k 0 - 1 = y at hxs HE hwr
        generalize l.getD k 0 = x at x0 hxl hx x1 hwr
        have hyi : (y : Int) < (s.size : Int) := by omega
        generalize hby : s[y] = by_ at HE
        generalize turF T l k = r at hown htl HE ⊢
        obtain ⟨r1, r2⟩ := r
        dsimp only at hown htl HE ⊢
        obtain ⟨L, hL⟩ : ∃ L, r1.length = L := ⟨_, rfl⟩
        rw [hL] at hown htl ⊢
        have HL2 := Lib.hid hL
        obtain ⟨ji, jz0, jz1, jz2⟩ := HJ.out
        clear hx hxl hL
        go_wp2_with (at_builtin; refine wpList_append_own _ rfl _ _ 61 rfl w.heap.size 5 i1 _ 1 1 Try.underlying61 ji jz0 jz1 jz2 rfl (by decide) _ _ _ rfl (hown.out.alloc _) ⟨wr.heap.size, 0, none⟩ 1 1 [.int .u8 (by_.toNat : Int)] rfl rfl ?a1 ?a2 ?a3 ?a4 ?a5 ?_)
        case a1 =>
          intro t x ht
          rw [Addr.add_lit]
          exact alloc_new rfl (by rw [Nat.zero_add]; simpa using ht)
        case a2 => intro x hx; rw [List.mem_singleton] at hx; subst hx; rfl
        case a3 => unfold maxLen; omega
        case a4 => omega
        case a5 => have := hgr.size; simp; omega
        intro v' w3 hown3 hgrow _
        have hal : Gr wr (wr.alloc (.cells #[.int .u8 (by_.toNat : Int)] 5)) := (Gr.refl _).alloc _
        have ho2 := hown.out.alloc (.cells #[.int .u8 (by_.toNat : Int)] 5)
        have hg3 : Gr w w3 := Below.grown (hgr.trans hal) hgrow (hgr.trans hal).size (fun t ht => (ho2.lt t ht).1)
        have HF3 := Lib.hid ((hF.out.keep hal).grown hgrow ((hF.out.keep hal).apart ho2 (by decide)))
        have HO3 : Hid (w3.ownsRow w.heap.size 5 1 v' (L + 1) (flatE encB (r1 ++ [by_]))) := Lib.hid (by rw [flatE_snoc]; exact hown3)
        have HLN : Hid ((r1 ++ [by_]).length = L + 1) := Lib.hid (by rw [List.length_append, List.length_singleton, HL2.out])
        clear hown3 hgrow hal ho2 ji jz0 jz1 jz2 hown hF x0 hby
        go_wp2_with fail
        go_roundw
        case rel => exact ⟨k + 1, by omega, by go_num, by rw [HE.out], by rw [HE.out]; dsimp only; rw [HLN.out]; exact HO3, HF3, hg3⟩
        case measure => simp [intOf]; omega
    · obtain rfl : m = k := by omega
      have hcv := convB_any _ _ _ _ _ rfl hown.out
      have HR : Hid (turV s o s.size = .tuple #[.string ⟨(turF T l m).1.toArray⟩, .int .i64 ((turF T l m).2 : Int), .int .i64 0]) := Lib.hid (by
        unfold turV; rw [HT.out, HL.out, show s.size + 1 = m by have := HM.out; omega])
      go_wp2_with (simp only [hcv])
      refine bodyPost_ret (v := .tuple #[.string ⟨(turF T l m).1.toArray⟩, .int .i64 ((turF T l m).2 : Int), .int .i64 0]) ?_ ?_ ?_
      · simp [results, Try.results23, go_sem]
      · rfl
      · exact ⟨o, HO.out, by rw [HR.out], hgr⟩

end Go.Proofs.Ytmcefcdnfngndaa
