/- Layer 3: the positions that are chosen.
Layer 3: the suspects.
Layer 3: the suspects of a damaged word. -/
import Derived.Test.YtpnkpejnahhajaaGreatBc7
import Derived.Deep.CutRange
import Derived.Deep.AppendLies
namespace Go.Proofs.YtpnkpejnahhajaaGreat
open Go.RowKit
set_option linter.unusedSimpArgs false

theorem Tryz.infoIntL : (Tryz.prog.info? 3).map (fun i => (i.zero, i.size, i.bytes)) = some (some (.int .i64 0), 1, 8) := by kernel_rfl
theorem flat_nats_snoc (is : List Nat) (i : Nat) : flatE enc1 (nats (is ++ [i])) = flatE enc1 (nats is) ++ [.int .i64 (i : Int)] := by
  unfold nats; rw [List.map_append, flatE_app]; simp [flatE, enc1]
set_option maxRecDepth 100000 in
set_option maxHeartbeats 4000000 in
theorem positions_one {D T : Nat} {Aw As : Option Addr} {n wc p sc : Nat} {ws ss : List G} {L : Nat → Bool} {k : Nat} (cap0 : Value) (f : Nat → Bool) (w : World) (h : Dmg w D T Aw As n wc p sc ws ss L k)
    (hf : ∀ (i : Nat) (W : World), Gr w W → i < n → Calls Tryz.prog 132 #[.int .i64 (i : Int), cap0] W fun e w' => e = .returned (.bool (f i)) ∧ Gr W w') :
    Calls Tryz.prog 131 #[.pointer (some ⟨D, 0, none⟩), .func (.func 132) #[] #[cap0]] w fun e w' => ∃ B m c, e = .returned (.slice B m c) ∧ ((List.range n).filter f).length = m ∧ Ints w' B (nats ((List.range n).filter f)) ∧ Gr w w' := by
  obtain ⟨i0, hi0, hz0, hz1, hz2⟩ := info_parts Tryz.infoIntL
  have HF := Lib.hid hf
  have c1 := (h.keep ((Gr.refl w).alloc (.cells #[] 3))).c1
  have hn2 := h.n2
  clear hf h
  go_enter Tryz.func131, Tryz.ntmps131
  go_wp2_with fail
  have hstart : (w.alloc (.cells #[] 3)).ownsRow w.heap.size 3 1 (.slice (some ⟨w.heap.size, 0, none⟩) 0 0) 0 [] := World.ownsRow_made w #[] 0 (Nat.le_refl _) (Nat.zero_le _) (by simp)
  have hg0 : Gr w (w.alloc (.cells #[] 3)) := (Gr.refl _).alloc _
  go_loopw [5, 13] (fun v z wr => ∃ j m : Nat, j ≤ n ∧ z = .int .i64 j ∧ m ≤ j ∧ Hid (((List.range j).filter f).length = m) ∧ Hid (wr.ownsRow w.heap.size 3 1 v m (flatE enc1 (nats ((List.range j).filter f)))) ∧ Hid (Gr w wr)) (fun _ z _ => n - (intOf z).toNat)
  case atStart => exact ⟨0, 0, Nat.zero_le _, rfl, Nat.zero_le _, Lib.hid rfl, Lib.hid hstart, Lib.hid hg0⟩
  case round =>
    obtain ⟨j, m, hj, rfl, hmj, hml, hown, hg⟩ := hrel
    by_cases hlt : j < n
    · have HC := Lib.hid (HF.out j wr hg.out hlt)
      have HR : Hid ((List.range (j + 1)).filter f = (List.range j).filter f ++ if f j then [j] else []) := Lib.hid (by
        rw [List.range_succ, List.filter_append]; simp [List.filter_cons])
      go_wp2_with fail
      refine HC.out.mono ?_
      rintro e w1 ⟨rfl, hb⟩
      have hgw := hg.out.trans hb
      have hown2 := Lib.hid (owns_gr hown.out hb)
      have hsz := hgw.size
      rcases hfj : f j with _ | _
      · rw [hfj] at HR
        have HR' : Hid ((List.range (j + 1)).filter f = (List.range j).filter f) := Lib.hid (by rw [HR.out]; simp)
        go_wp2_with fail
        go_roundw
        case rel => exact ⟨j + 1, m, by omega, by go_num, by omega, by rw [HR'.out]; exact hml, by rw [HR'.out]; exact hown2, Lib.hid hgw⟩
        case measure => simp [intOf]; omega
      · rw [hfj] at HR
        have HR' : Hid ((List.range (j + 1)).filter f = (List.range j).filter f ++ [j]) := Lib.hid (by rw [HR.out]; simp)
        go_wp2_with (at_builtin; refine wpList_append_own _ rfl _ _ 26 rfl w.heap.size 3 i0 _ 1 8 Tryz.underlying26 hi0 hz0 hz1 hz2 rfl (by decide) _ _ _ rfl (hown2.out.alloc _) ⟨w1.heap.size, 0, none⟩ 1 1 [.int .i64 (j : Int)] rfl rfl ?a1 ?a2 ?a3 ?a4 ?a5 ?_)
        case a1 =>
          intro t u ht
          rw [Addr.add_lit]
          exact alloc_new rfl (by rw [Nat.zero_add]; simpa using ht)
        case a2 => intro u hu; obtain rfl := List.mem_singleton.1 hu; rfl
        case a3 => unfold maxLen; omega
        case a4 => omega
        case a5 => simp; omega
        intro v' w2 hown' hgrow _
        have hga : Gr w (w1.alloc _) := hgw.alloc (.cells #[.int .i64 (j : Int)] 3)
        have hgb : Gr w w2 := Below.grown hga hgrow hga.size (fun t ht => (hown2.out.lt t ht).1)
        have HO2 := Lib.hid hown'
        clear hown' hgrow hga
        go_wp2_with fail
        go_roundw
        case rel => exact ⟨j + 1, m + 1, by omega, by go_num, by omega, Lib.hid (by rw [HR'.out, List.length_append, hml.out]; rfl), Lib.hid (by
          rw [HR'.out, flat_nats_snoc]
          exact HO2.out), Lib.hid hgb⟩
        case measure => simp [intOf]; omega
    · have hjm : j = n := by omega
      have hlt' : ¬ ((j : Int) < (n : Int)) := by omega
      rw [hjm] at hown hml
      obtain ⟨B, c, hv, -, hrd, -⟩ := own_row (k := 1) (fun _ => rfl) (by rw [nats_len, hml.out]) hown.out
      subst hv
      go_wp2_with fail
      try rw [Exit.noGoto_ret]
      go_ret
      exact ⟨_, _, ⟨_, rfl⟩, hml.out, hrd, hg.out⟩
/-- A row of the call's own, given back: its block is new. -/
theorem own_row2 {α : Type} {enc : α → List Value} {k : Nat} (hk : ∀ x, (enc x).length = k) {w1 : World} {base : Nat} {t : TypeId} {v : Value} {n : Nat} {xs : List α} (hn : xs.length = n) (h : w1.ownsRow base t k v n (flatE enc xs)) :
    ∃ A c, v = .slice A n c ∧ Rd k enc w1 A xs ∧ ∀ b o, A = some ⟨b, o, none⟩ → base ≤ b := by
  rcases h.2 with ⟨rfl, hz⟩ | ⟨g, cap, cur, rfl, hb, _, hnc, _⟩
  · have hq' : xs = [] := List.eq_nil_of_length_eq_zero (by rw [hn]; exact hz)
    subst hq'
    exact ⟨none, 0, by rw [hz], Rd_nil _ _, fun b o e => by cases e⟩
  · exact ⟨some ⟨g, 0, none⟩, cap, rfl, Rd_of_owns hk hn h, fun b o e => by obtain ⟨rfl, rfl⟩ : g = b ∧ 0 = o := by simpa using e
                                                                            exact hb⟩
set_option maxRecDepth 100000 in
set_option maxHeartbeats 4000000 in
theorem positions_two {D T : Nat} {Aw As : Option Addr} {n wc p sc : Nat} {ws ss : List G} {L : Nat → Bool} {k : Nat} (cap0 cap1 : Value) (f : Nat → Bool) (w : World) (h : Dmg w D T Aw As n wc p sc ws ss L k)
    (hf : ∀ (i : Nat) (W : World), Gr w W → i < n → Calls Tryz.prog 134 #[.int .i64 (i : Int), cap0, cap1] W fun e w' => e = .returned (.bool (f i)) ∧ Gr W w') :
    Calls Tryz.prog 131 #[.pointer (some ⟨D, 0, none⟩), .func (.func 134) #[] #[cap0, cap1]] w fun e w' => ∃ B m c, e = .returned (.slice B m c) ∧ ((List.range n).filter f).length = m ∧ Ints w' B (nats ((List.range n).filter f)) ∧ (∀ b o, B = some ⟨b, o, none⟩ → w.heap.size ≤ b) ∧ Gr w w' := by
  obtain ⟨i0, hi0, hz0, hz1, hz2⟩ := info_parts Tryz.infoIntL
  have HF := Lib.hid hf
  have c1 := (h.keep ((Gr.refl w).alloc (.cells #[] 3))).c1
  have hn2 := h.n2
  clear hf h
  go_enter Tryz.func131, Tryz.ntmps131
  go_wp2_with fail
  have hstart : (w.alloc (.cells #[] 3)).ownsRow w.heap.size 3 1 (.slice (some ⟨w.heap.size, 0, none⟩) 0 0) 0 [] := World.ownsRow_made w #[] 0 (Nat.le_refl _) (Nat.zero_le _) (by simp)
  have hg0 : Gr w (w.alloc (.cells #[] 3)) := (Gr.refl _).alloc _
  go_loopw [5, 13] (fun v z wr => ∃ j m : Nat, j ≤ n ∧ z = .int .i64 j ∧ m ≤ j ∧ Hid (((List.range j).filter f).length = m) ∧ Hid (wr.ownsRow w.heap.size 3 1 v m (flatE enc1 (nats ((List.range j).filter f)))) ∧ Hid (Gr w wr)) (fun _ z _ => n - (intOf z).toNat)
  case atStart => exact ⟨0, 0, Nat.zero_le _, rfl, Nat.zero_le _, Lib.hid rfl, Lib.hid hstart, Lib.hid hg0⟩
  case round =>
    obtain ⟨j, m, hj, rfl, hmj, hml, hown, hg⟩ := hrel
    by_cases hlt : j < n
    · have HC := Lib.hid (HF.out j wr hg.out hlt)
      have HR : Hid ((List.range (j + 1)).filter f = (List.range j).filter f ++ if f j then [j] else []) := Lib.hid (by
        rw [List.range_succ, List.filter_append]; simp [List.filter_cons])
      go_wp2_with fail
      refine HC.out.mono ?_
      rintro e w1 ⟨rfl, hb⟩
      have hgw := hg.out.trans hb
      have hown2 := Lib.hid (owns_gr hown.out hb)
      have hsz := hgw.size
      rcases hfj : f j with _ | _
      · rw [hfj] at HR
        have HR' : Hid ((List.range (j + 1)).filter f = (List.range j).filter f) := Lib.hid (by rw [HR.out]; simp)
        go_wp2_with fail
        go_roundw
        case rel => exact ⟨j + 1, m, by omega, by go_num, by omega, by rw [HR'.out]; exact hml, by rw [HR'.out]; exact hown2, Lib.hid hgw⟩
        case measure => simp [intOf]; omega
      · rw [hfj] at HR
        have HR' : Hid ((List.range (j + 1)).filter f = (List.range j).filter f ++ [j]) := Lib.hid (by rw [HR.out]; simp)
        go_wp2_with (at_builtin; refine wpList_append_own _ rfl _ _ 26 rfl w.heap.size 3 i0 _ 1 8 Tryz.underlying26 hi0 hz0 hz1 hz2 rfl (by decide) _ _ _ rfl (hown2.out.alloc _) ⟨w1.heap.size, 0, none⟩ 1 1 [.int .i64 (j : Int)] rfl rfl ?a1 ?a2 ?a3 ?a4 ?a5 ?_)
        case a1 =>
          intro t u ht
          rw [Addr.add_lit]
          exact alloc_new rfl (by rw [Nat.zero_add]; simpa using ht)
        case a2 => intro u hu; obtain rfl := List.mem_singleton.1 hu; rfl
        case a3 => unfold maxLen; omega
        case a4 => omega
        case a5 => simp; omega
        intro v' w2 hown' hgrow _
        have hga : Gr w (w1.alloc _) := hgw.alloc (.cells #[.int .i64 (j : Int)] 3)
        have hgb : Gr w w2 := Below.grown hga hgrow hga.size (fun t ht => (hown2.out.lt t ht).1)
        have HO2 := Lib.hid hown'
        clear hown' hgrow hga
        go_wp2_with fail
        go_roundw
        case rel => exact ⟨j + 1, m + 1, by omega, by go_num, by omega, Lib.hid (by rw [HR'.out, List.length_append, hml.out]; rfl), Lib.hid (by
          rw [HR'.out, flat_nats_snoc]
          exact HO2.out), Lib.hid hgb⟩
        case measure => simp [intOf]; omega
    · have hjm : j = n := by omega
      have hlt' : ¬ ((j : Int) < (n : Int)) := by omega
      rw [hjm] at hown hml
      obtain ⟨B, c, hv, hrd, hnew⟩ := own_row2 (k := 1) (fun _ => rfl) (by rw [nats_len, hml.out]) hown.out
      subst hv
      have HNW := Lib.hid hnew
      clear hnew
      go_wp2_with fail
      try rw [Exit.noGoto_ret]
      go_ret
      exact ⟨_, _, ⟨_, rfl⟩, hml.out, hrd, HNW.out, hg.out⟩
end Go.Proofs.YtpnkpejnahhajaaGreat

namespace Go.Proofs.YtpnkpejnahhajaaGreat
open Go.RowKit
set_option linter.unusedSimpArgs false

set_option maxHeartbeats 2000000 in
theorem suspect1_any {D T : Nat} {Aw As : Option Addr} {n wc p sc : Nat} {ws ss : List G} {L : Nat → Bool} {k : Nat} (S i : Nat) (w : World) (h : Dmg w D T Aw As n wc p sc ws ss L k) (hs : w.cell? ⟨S, 0, none⟩ = some (.pointer (some ⟨D, 0, none⟩))) (hi : i < n) :
    Calls Tryz.prog 132 #[.int .i64 (i : Int), .pointer (some ⟨S, 0, none⟩)] w fun e w' => e = .returned (.bool (L i)) ∧ Gr w w' := by
  have hn2 := h.n2
  have c3 := h.c3 i (by omega)
  have h0 : (0 : Int) ≤ (i : Int) := by omega
  have h1 : (i : Int) < 255 := by omega
  have h2 : i < 255 := by omega
  generalize L i = z at c3 ⊢
  clear h
  go_enter Tryz.func132, Tryz.ntmps132
  go_wp2_with fail
  go_ret
  exact ⟨rfl, Gr.refl _⟩
set_option maxRecDepth 100000 in
set_option maxHeartbeats 2000000 in
theorem suspect2_any {D T : Nat} {Aw As : Option Addr} {n wc p sc : Nat} {ws ss : List G} {L : Nat → Bool} {k : Nat} (S U i : Nat) (A : Option Addr) (m mc : Nat) (q : List G) (w : World) (h : Dmg w D T Aw As n wc p sc ws ss L k) (hs : w.cell? ⟨S, 0, none⟩ = some (.pointer (some ⟨D, 0, none⟩))) (hu : w.cell? ⟨U, 0, none⟩ = some (.slice A m mc)) (hi : i < n) (hm : q.length = m) (hl : m ≤ 1048576) (hq : Byts w A q) :
    Calls Tryz.prog 134 #[.int .i64 (i : Int), .pointer (some ⟨S, 0, none⟩), .pointer (some ⟨U, 0, none⟩)] w fun e w' => e = .returned (.bool (L i || decide (val q (plc n i) = g0))) ∧ Gr w w' := by
  have hn2 := h.n2
  have c0 := h.c0
  have c3 := h.c3 i (by omega)
  have h0 : (0 : Int) ≤ (i : Int) := by omega
  have h1 : (i : Int) < 255 := by omega
  have h2 : i < 255 := by omega
  have HP := Lib.hid (fun W' (g : Gr w W') => place_any i W' (h.keep g) hi)
  have HV := Lib.hid (fun W' (g : Gr w W') => value_any T A m mc q (plc n i) W' (h.tabs.keep g) hm hl (hq.keep g))
  have ta := g_zero_test (val q (plc n i))
  generalize L i = z at c3 ⊢
  generalize plc n i = x at HP HV ta ⊢
  generalize val q x = y at HV ta ⊢
  generalize decide (y = g0) = t at ta ⊢
  have KS : Hid (∀ W', Gr w W' → (Gr w W' ∧ W'.cell? ⟨S, 0, none⟩ = some (.pointer (some ⟨D, 0, none⟩)) ∧ W'.cell? ⟨U, 0, none⟩ = some (.slice A m mc) ∧ W'.cell? ⟨D, 0, none⟩ = some (.pointer (some ⟨T, 0, none⟩)) ∧ W'.cell? ⟨D, 3 + i, none⟩ = some (.bool z))) := Lib.hid (fun W' g => ⟨g, g.keep hs, g.keep hu, g.keep c0, g.keep c3⟩)
  clear h hq
  cases z with
  | true =>
    go_enter Tryz.func134, Tryz.ntmps134
    go_wp2_with fail
    go_quiet (fail)
    go_wp2_with fail
    go_ret
    exact ⟨by simp, (Gr.refl _).drewN _⟩
  | false =>
    go_enter Tryz.func134, Tryz.ntmps134
    go_wp2_with fail
    go_region_law (first | (go_simp; go_at_call 106; refine (HP.out _ (by first | exact (Gr.refl _).drew | exact Gr.refl _)).mono ?_; rintro e w1 ⟨rfl, hg1⟩; have s1 := hg1.keep hs; have u1 := hg1.keep hu; have d1 := hg1.keep c0; have d3 := hg1.keep c3) | (go_simp; go_at_call 109; refine (HV.out _ ((Gr.refl _).drew.trans hg1)).mono ?_; rintro e w2 ⟨rfl, hg2⟩))
    all_goals
      go_wp2_with fail
      go_ret
      exact ⟨by rw [Bool.false_or]; rfl, ((Gr.refl _).drew.trans hg1).trans hg2⟩
end Go.Proofs.YtpnkpejnahhajaaGreat

namespace Go.Proofs.YtpnkpejnahhajaaGreat
open Go.RowKit
set_option linter.unusedSimpArgs false

def posL (n : Nat) (f : Nat → Bool) : List Nat := (List.range n).filter f
def knownL (n : Nat) (L : Nat → Bool) : List G := rootP ((posL n L).map (plc n))
def leftL (n p k : Nat) (L : Nat → Bool) (ss : List G) : List G := (List.range (p - k)).map fun t => dsum (knownL n L) (sq ss) (k + t)
def unkL (n p k : Nat) (L : Nat → Bool) (ss : List G) : List G := (bmL (sq (leftL n p k L ss)) (p - k)).now
def susF (n p k : Nat) (L : Nat → Bool) (ss : List G) (i : Nat) : Bool := L i || decide (val (unkL n p k L ss) (plc n i) = g0)
theorem posL_lt {n : Nat} {f : Nat → Bool} : ∀ i ∈ posL n f, i < n := fun i hi => by
  unfold posL at hi
  have := (List.mem_filter.1 hi).1
  simpa using this

set_option maxRecDepth 100000 in
set_option maxHeartbeats 4000000 in
theorem suspects_any {D T : Nat} {Aw As : Option Addr} {n wc p sc : Nat} {ws ss : List G} {L : Nat → Bool} {k : Nat} (w : World) (h : Dmg w D T Aw As n wc p sc ws ss L k) (hk : (posL n L).length = k) (hkp : k ≤ p) :
    Calls Tryz.prog 103 #[.pointer (some ⟨D, 0, none⟩)] w fun e w' => ∃ B m c, e = .returned (.slice B m c) ∧ (posL n (susF n p k L ss)).length = m ∧ Ints w' B (nats (posL n (susF n p k L ss))) ∧ (∀ b o, B = some ⟨b, o, none⟩ → w.heap.size ≤ b) ∧ Gr w w' := by
  obtain ⟨i0, hi0, hz0, hz1, hz2⟩ := info_parts Tryz.infoByte
  have HI0 := Lib.hid (And.intro hi0 (And.intro hz0 (And.intro hz1 hz2)))
  have HK := Lib.hid hk
  have HD := Lib.hid h
  have hn2 := h.n2
  have hp2 := h.p2
  have hk2 := h.k2
  have hDl : D < w.heap.size := World.block_lt_of_cell? w _ h.c0
  clear hk h hi0 hz0 hz1 hz2
  go_enter Tryz.func103, Tryz.ntmps103
  go_wp2_with fail
  obtain ⟨w0, hw0⟩ : ∃ w0, w.alloc (.cells #[.pointer (some ⟨D, 0, none⟩)] 138) = w0 := ⟨_, rfl⟩
  have hg0 : Gr w w0 := by rw [← hw0]; exact (Gr.refl _).alloc _
  have hB0 : Blk w0 w.heap.size 138 #[.pointer (some ⟨D, 0, none⟩)] := by rw [← hw0]; exact Blk.new _ _ _ rfl
  rw [hw0]
  clear hw0
  generalize w.heap.size = S at hB0 ⊢
  have HB0 := Lib.hid hB0
  have HG0 := Lib.hid hg0
  clear hB0 hg0
  refine (positions_one (.pointer (some ⟨S, 0, none⟩)) L w0 (HD.out.keep HG0.out) (fun i W hg hi => suspect1_any S i W (HD.out.keep (HG0.out.trans hg)) ((HB0.out.keep hg).cell 0) hi)).mono ?_
  rintro e w1 ⟨B, m, c, rfl, hm, hI, hg1⟩
  have hmk : m = k := by rw [← hm]; exact HK.out
  have HI1 : Hid (Ints w1 B (nats (posL n L))) := Lib.hid hI
  have HG1 := Lib.hid (HG0.out.trans hg1)
  have HB1 := Lib.hid (HB0.out.keep hg1)
  rw [hmk]
  clear hI hm hmk hg1 HB0 HG0 m
  have s0 := HB1.out.cell 0
  have d0 := (HD.out.keep HG1.out).c0
  go_wp2_with fail
  have HPL := Lib.hid (fun W (hg : Gr w1 W) => places_any B k c (posL n L) W (HD.out.keep (HG1.out.trans hg)) HK.out hk2 posL_lt (HI1.out.keep hg))
  have HWR := Lib.hid (fun W (hg : Gr w1 W) (A : Option Addr) (cc : Nat) (hA : Byts W A ((posL n L).map (plc n))) => withRoots_any T A k cc ((posL n L).map (plc n)) W (HD.out.keep (HG1.out.trans hg)).tabs (by rw [List.length_map, HK.out]) (by omega) hA)
  go_cut [4] from 4 to 18 (fun v wx => ∃ g, v = .slice (some ⟨g, 0, none⟩) (k + 1) (k + 1) ∧ Hid (Row wx g 0 (knownL n L)) ∧ Hid (Gr w1 wx))
  case first =>
    go_region_law (first | (go_simp; go_at_call 104; refine (HPL.out _ (by first | exact (Gr.refl _).drew | exact Gr.refl _)).mono ?_; rintro e w2 ⟨B2, c2, rfl, hB2, hg2⟩; have s1 := hg2.keep s0; have d1 := hg2.keep d0) | (go_simp; go_at_call 94; refine (HWR.out _ ((Gr.refl _).drew.trans hg2) _ _ hB2).mono ?_; rintro e w3 ⟨g3, rfl, hg3', hR3, hg3⟩))
    all_goals
      go_wp2_with fail
      go_meet
      exact ⟨g3, rfl, Lib.hid hR3, Lib.hid (((Gr.refl _).drew.trans hg2).trans hg3)⟩
  case rest =>
    obtain ⟨g4, rfl, HR4, hg4⟩ := hcut
    have HB4 := Lib.hid (HB1.out.keep hg4.out)
    have HG4 := Lib.hid (HG1.out.trans hg4.out)
    clear HPL HWR s0 d0 hg4 HB1 HG1 HI1
    have s0 := (HB4.out.alloc (.cells #[] 5)).cell 0
    have d4 := (HD.out.keep (HG4.out.alloc (.cells #[] 5))).c4
    go_wp2_with fail
    have hstart : (wc.alloc (.cells #[] 5)).ownsRow wc.heap.size 5 1 (.slice (some ⟨wc.heap.size, 0, none⟩) 0 0) 0 [] := World.ownsRow_made wc #[] 0 (Nat.le_refl _) (Nat.zero_le _) (by simp)
    have hg5 : Gr wc (wc.alloc (.cells #[] 5)) := (Gr.refl _).alloc _
    clear s0 d4
    obtain ⟨hi0, hz0, hz1, hz2⟩ := HI0.out
    have HLL : Hid ((leftL n p k L ss).length = p - k) := Lib.hid (by simp [leftL])
    obtain ⟨lf, hlf⟩ : ∃ lf, leftL n p k L ss = lf := ⟨_, rfl⟩
    have HLF := Lib.hid hlf
    rw [hlf] at HLL
    clear hlf
    go_loopw [5, 6] (fun v z wr => ∃ j : Nat, k + j ≤ p ∧ z = .int .i64 ((k + j : Nat) : Int) ∧ Hid (wr.ownsRow wc.heap.size 5 1 v j (flatE encG (lf.take j))) ∧ Hid (Gr wc wr)) (fun _ z _ => p - (intOf z).toNat)
    case atStart => exact ⟨0, by omega, by rw [Nat.add_zero], Lib.hid hstart, Lib.hid hg5⟩
    case round =>
      obtain ⟨j, hj, rfl, hown, hg⟩ := hrel
      have hgw := HG4.out.trans hg.out
      have s0 := (HB4.out.keep hg.out).cell 0
      have d0 := (HD.out.keep hgw).c0
      have d2 := (HD.out.keep hgw).c2
      have hsz := hg.out.size
      by_cases hlt : k + j < p
      · have hjl : j < lf.length := by have := HLL.out; omega
        have HTK : Hid (lf.take (j + 1) = lf.take j ++ [dsum (knownL n L) (sq ss) (k + j)]) := Lib.hid (by
          rw [List.take_add_one, getD_of g0 hjl, Option.toList_some]
          congr 1
          rw [← HLF.out]
          unfold leftL
          rw [List.getD_eq_getElem?_getD, List.getElem?_map, List.getElem?_range (by omega)]
          rfl)
        have HCB := Lib.hid (fun W (h : Gr wr W) (cc mc : Nat) => combine_any T (some ⟨g4, 0, none⟩) As (k + 1) cc p mc (knownL n L) ss (k + j) W (HD.out.keep (hgw.trans h)).tabs (by unfold knownL; rw [rootP_len, List.length_map, HK.out]) HD.out.sl (HR4.out.keep (hg.out.trans h)).pts (HD.out.keep (hgw.trans h)).syns (by omega) hlt (by omega))
        have hjp : (((k + j : Nat) : Int)) < (p : Int) := by omega
        generalize hz : ((k + j : Nat) : Int) = at_ at HCB hjp ⊢
        have hnx : IntKind.i64.wrap (at_ + 1) = ((k + (j + 1) : Nat) : Int) := by rw [← hz, IntWalk.i64_in _ (by omega)]; omega
        generalize dsum (knownL n L) (sq ss) (k + j) = x at HCB HTK
        have hmea : p - (((k + (j + 1) : Nat) : Int)).toNat < p - at_.toNat := by omega
        clear hz
        go_wp2_with fail
        go_region_law (first | (go_simp; go_at_call 107; refine (HCB.out _ (by first | exact (Gr.refl _).drew | exact Gr.refl _) _ _).mono ?_; rintro e w2 ⟨rfl, hg2⟩; have hg2' : Gr wr w2 := (Gr.refl _).drew.trans hg2) | (refine step_append_lies _ (by rfl) (.tmp 33) (.tmp 45) 59 (by rfl) wc.heap.size 5 i0 _ 1 1 Tryz.underlying59 hi0 hz0 hz1 hz2 rfl (by decide) u5 j (flatE encG (lf.take j)) (by rfl) (owns_gr hown.out (hg2'.alloc _)) ⟨w2.heap.size, 0, none⟩ 1 1 [.int .u8 (x.v : Int)] (by rfl) rfl (World.news_of_block (heap_alloc_new _ _)) (by intro u hu; obtain rfl := List.mem_singleton.1 hu; rfl) (by decide) (by unfold maxLen; omega) (by omega) (by have := hg2'.size; simp; omega) _ rfl ?_; intro g' cap' w5 hown' hgrow _ _))
        all_goals
          have hgn : Gr wc w5 := Below.grown (hg.out.trans (hg2'.alloc _)) hgrow (by have := hg2'.size; simp; omega) (fun t ht => (hown.out.lt t ht).1)
          have hon : w5.ownsRow wc.heap.size 5 1 (.slice (some ⟨g', 0, none⟩) (j + 1) cap') (j + 1) (flatE encG (lf.take (j + 1))) := by
            rw [HTK.out, flatE_snoc]; exact hown'
          have HGN := Lib.hid hgn
          have HON := Lib.hid hon
          clear hgn hon hown' hgrow
          go_wp2_with fail
          go_roundw
          case rel => exact ⟨j + 1, by omega, by first | rfl | rw [hnx], HON, HGN⟩
          case measure => first | exact hmea | (simp [intOf]; omega)
      · have hjp : k + j = p := by omega
        have hlt' : ¬ (((k + j : Nat) : Int) < (p : Int)) := by omega
        have hje : j = lf.length := by rw [HLL.out]; omega
        rw [hje, List.take_length] at hown
        obtain ⟨B5, c5, hv, -, hrd, -⟩ := own_row encG_len rfl hown.out
        rw [← hje] at hv
        subst hv
        have HRD : Hid (Byts wr B5 lf) := Lib.hid hrd
        have HJ : Hid (lf.length = j) := Lib.hid hje.symm
        have HJPK : Hid (j = p - k) := Lib.hid (by rw [hje]; exact HLL.out)
        have hj300 : j ≤ 64 := by omega
        clear hown hrd hje hjp
        generalize hz : ((k + j : Nat) : Int) = at_ at hlt' ⊢
        clear hz
        go_wp2_with fail
        refine (recurrence_any T B5 j c5 lf wr (HD.out.keep hgw).tabs HJ.out HRD.out (Nat.le_trans hj300 (by decide))).mono ?_
        rintro e w6 ⟨g6, c6, rfl, hg6', hR6, hg6⟩
        have HUN : Hid ((bmL (sq lf) j).now = unkL n p k L ss) := Lib.hid (by unfold unkL; rw [HLF.out, HJPK.out])
        rw [HUN.out] at hR6 ⊢
        obtain ⟨un, hun⟩ : ∃ un, (unkL n p k L ss).length = un := ⟨_, rfl⟩
        have hul : un ≤ j + 1 := by
          have := bm_len (s := sq lf) j
          rw [← hun, ← HUN.out]; omega
        rw [hun]
        have hgz := hgw.trans hg6
        have s6 := (HB4.out.keep (hg.out.trans hg6)).cell 0
        clear s0 d0 d2
        obtain ⟨w7, hw7⟩ : ∃ w7, w6.alloc (.cells #[.slice (some ⟨g6, 0, none⟩) un c6] 59) = w7 := ⟨_, rfl⟩
        have hg7 : Gr w6 w7 := by rw [← hw7]; exact (Gr.refl _).alloc _
        have HU7 : Hid (Blk w7 w6.heap.size 59 #[.slice (some ⟨g6, 0, none⟩) un c6]) := Lib.hid (by rw [← hw7]; exact Blk.new _ _ _ rfl)
        have s7 := hg7.keep s6
        have HG7 := Lib.hid (hgz.trans hg7)
        have HB7 := Lib.hid (HB4.out.keep ((hg.out.trans hg6).trans hg7))
        have HR7 := Lib.hid (hR6.keep hg7)
        have HUL := Lib.hid hun
        have hu2 : un ≤ 1048576 := by omega
        go_wp2_with fail
        refine (positions_two (.pointer (some ⟨S, 0, none⟩)) (.pointer (some ⟨w6.heap.size, 0, none⟩)) (susF n p k L ss) w7 (HD.out.keep HG7.out) (fun i W hg hi => suspect2_any S w6.heap.size i (some ⟨g6, 0, none⟩) un c6 (unkL n p k L ss) W (HD.out.keep (HG7.out.trans hg)) ((HB7.out.keep hg).cell 0) ((HU7.out.keep hg).cell 0) hi HUL.out hu2 (HR7.out.keep hg).pts)).mono ?_
        rintro e w8 ⟨B8, m8, c8, rfl, hm8, hI8, hn8, hg8⟩
        have HN8 : Hid (∀ b o, B8 = some ⟨b, o, none⟩ → w.heap.size ≤ b) := Lib.hid (fun b o e => Nat.le_trans HG7.out.size (hn8 b o e))
        clear hn8
        go_wp2_with fail
        try rw [Exit.noGoto_ret]
        go_ret
        first
        | exact ⟨_, _, _, rfl, hm8, hI8, HN8.out, HG7.out.trans hg8⟩
        | exact ⟨_, _, ⟨_, rfl⟩, hm8, hI8, HN8.out, HG7.out.trans hg8⟩
        | exact ⟨_, m8, hm8, ⟨_, rfl⟩, hI8, HN8.out, HG7.out.trans hg8⟩
end Go.Proofs.YtpnkpejnahhajaaGreat
