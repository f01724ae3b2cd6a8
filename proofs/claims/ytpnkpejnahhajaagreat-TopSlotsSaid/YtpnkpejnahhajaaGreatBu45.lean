/- The corners of a hull: the function itself. -/
import Derived.Test.YtpnkpejnahhajaaGreatBu44
namespace Go.Proofs.YtpnkpejnahhajaaGreat
open Go.RowKit
set_option linter.unusedSimpArgs false

def sdL (ps : List (Int × Int)) : List (Int × Int) := ddL (srtL ps)
def cornersL (ps : List (Int × Int)) : List (Int × Int) :=
  if (sdL ps).length = 1 then sdL ps else (chainL (sdL ps)).dropLast ++ (chainL (sdL ps).reverse).dropLast

theorem ddT_mem (ps : List (Int × Int)) : ∀ r, r ≤ ps.length → ∀ x ∈ ddT ps r, x ∈ ps
  | 0, _, x, h => by simp [ddT] at h
  | r + 1, hr, x, h => by
    unfold ddT at h
    split at h
    · exact ddT_mem ps r (by omega) x h
    · rcases List.mem_append.1 h with h | h
      · exact ddT_mem ps r (by omega) x h
      · simp only [List.mem_singleton] at h
        subst h
        exact List.mem_of_getElem? (getD_of (0, 0) (by omega))
theorem ddT_pos (ps : List (Int × Int)) : ∀ r, 0 < r → 1 ≤ (ddT ps r).length
  | 1, _ => by simp [ddT]
  | r + 2, _ => by
    have := ddT_pos ps (r + 1) (by omega)
    unfold ddT
    split
    · exact this
    · simp
theorem sdL_mem (ps : List (Int × Int)) : ∀ x ∈ sdL ps, x ∈ ps := fun x hx => by
  have := ddT_mem (srtL ps) _ (Nat.le_refl _) x hx
  exact (List.mergeSort_perm ps _).mem_iff.1 this
theorem sdL_len (ps : List (Int × Int)) : (sdL ps).length ≤ ps.length := by
  have h := ddT_le (srtL ps) (srtL ps).length
  have e : (srtL ps).length = ps.length := List.length_mergeSort _
  unfold sdL ddL
  omega
theorem sdL_pos (ps : List (Int × Int)) (h : 1 ≤ ps.length) : 1 ≤ (sdL ps).length :=
  ddT_pos (srtL ps) _ (by rw [show (srtL ps).length = ps.length from List.length_mergeSort _]; omega)
theorem popR_pos (p : Int × Int) : ∀ l, 1 ≤ l.length → 1 ≤ (popR p l).length
  | [], h => by simp at h
  | [_], _ => by simp [popR]
  | b :: a :: r, _ => by
    have := popR_pos p (a :: r) (by simp)
    unfold popR; split
    · simp
    · exact this
theorem chainR_two : ∀ (ps st : List (Int × Int)), 2 ≤ ps.length ∨ (1 ≤ ps.length ∧ 1 ≤ st.length) ∨ (ps = [] ∧ 2 ≤ st.length) → 2 ≤ (chainR st ps).length
  | [], st, h => by rcases h with h | h | h <;> simp [chainR] at * <;> omega
  | p :: ps, st, h => by
    unfold chainR
    apply chainR_two
    rcases Nat.lt_or_ge ps.length 1 with hp | hp
    · have : ps = [] := List.length_eq_zero_iff.1 (by omega)
      subst this
      right; right
      refine ⟨rfl, ?_⟩
      have := popR_pos p st (by rcases h with h | h | h <;> simp at h <;> omega)
      simp; omega
    · right; left
      exact ⟨hp, by simp⟩
theorem chainR_le : ∀ (ps st : List (Int × Int)), (chainR st ps).length ≤ st.length + ps.length
  | [], st => by simp [chainR]
  | p :: ps, st => by
    unfold chainR
    have := chainR_le ps (p :: popR p st)
    have := popR_len p st
    simp at *; omega
theorem chainL_two (ps : List (Int × Int)) (h : 2 ≤ ps.length) : 2 ≤ (chainL ps).length := by
  unfold chainL; rw [List.length_reverse]; exact chainR_two ps [] (Or.inl h)
theorem chainL_le (ps : List (Int × Int)) : (chainL ps).length ≤ ps.length := by
  unfold chainL; rw [List.length_reverse]; have := chainR_le ps []; simpa using this
theorem Cos_all {ps : List (Int × Int)} (h : AllCo ps) : Cos ps := fun k => by
  rcases Nat.lt_or_ge k ps.length with hk | hk
  · exact h _ (List.mem_of_getElem? (getD_of (0, 0) hk))
  · rw [List.getD_eq_getElem?_getD, List.getElem?_eq_none hk]
    unfold Co; simp
theorem all_Cos {ps : List (Int × Int)} (h : Cos ps) : AllCo ps := fun p hp => by
  obtain ⟨i, hi⟩ := List.mem_iff_getElem?.1 hp
  have := h i
  rwa [List.getD_eq_getElem?_getD, hi] at this
theorem sdL_co {ps : List (Int × Int)} (h : Cos ps) : Cos (sdL ps) := Cos_all fun p hp => all_Cos h p (sdL_mem ps p hp)
theorem rev_co {ps : List (Int × Int)} (h : Cos ps) : Cos ps.reverse := Cos_all fun p hp => all_Cos h p (List.mem_reverse.1 hp)
theorem Own.dropLast {w : World} {g o : Nat} {ps : List (Int × Int)} (h : Own w g o ps) : Own w g o ps.dropLast := by
  rcases List.eq_nil_or_concat ps with rfl | ⟨l, a, rfl⟩
  · exact h
  · rw [List.concat_eq_append] at h ⊢
    rw [List.dropLast_concat]; exact h.front
theorem Own.other {w w' : World} {g g' o : Nat} {ps : List (Int × Int)} (h : Own w g o ps) (hb : Gb g' w w') (hn : g ≠ g') : Own w' g o ps := fun i hi => by
  obtain ⟨⟨h1, h2⟩, h3, h4⟩ := h i hi
  have hlt : g < w.heap.size := World.block_lt_of_cell? w ⟨g, o + i * 2, none⟩ h1
  have hf : ∀ j, w'.frozen? ⟨g, j, none⟩ = w.frozen? ⟨g, j, none⟩ := fun j => World.frozen?_of_block (hb.block g hlt (fun e => hn (by injection e)))
  exact ⟨⟨(hb.cell hlt hn).trans h1, (hb.cell hlt hn).trans h2⟩, (hf _).trans h3, (hf _).trans h4⟩
theorem Room.other {w w' : World} {g g' o m : Nat} (h : Room w g o m) (hb : Gb g' w w') (hn : g ≠ g') (hlt : g < w.heap.size) : Room w' g o m := fun j hj => by
  obtain ⟨h1, h2⟩ := h j hj
  exact ⟨by rw [hb.cell hlt hn]; exact h1, (World.frozen?_of_block (hb.block g hlt (fun e => hn (by injection e)))).trans h2⟩

theorem mk_room (n : Nat) (hl : n ≤ 4096) (w : World) : (Instr.makeSlice 70 (.int .i64 (2 * (n : Int))) (.int .i64 (2 * (n : Int)))).run Tryz.prog w =
    .ok (.slice (some ⟨w.heap.size, 0, none⟩) (2 * n) (2 * n)) (w.alloc (.cells (madeCells #[.int .i64 0, .int .i64 0] (2 * n * 2)) 108)) := by
  obtain ⟨i0, hi, hz0, hz1, hz2⟩ := info_parts Tryz.info23
  have h := run_make (P := Tryz.prog) w 70 108 i0 _ Tryz.underlying70 hi hz0 .i64 .i64 (2 * (n : Int)) (2 * (n : Int)) (by omega) (by omega) (by rw [hz2]; omega) (by omega)
  rw [hz1, show (2 * (n : Int)).toNat = 2 * n by omega] at h
  exact h

def CornersPost (ps : List (Int × Int)) (w : World) (e : Ending) (w' : World) : Prop :=
  ∃ g c, e = .returned (.slice (some ⟨g, 0, none⟩) (cornersL ps).length c) ∧ (cornersL ps).length ≤ c ∧ w.heap.size ≤ g ∧ Own w' g 0 (cornersL ps) ∧ Gr w w'

set_option maxRecDepth 100000 in
set_option maxHeartbeats 1000000 in
theorem corners_any (A : Option Addr) (n c : Nat) (ps : List (Int × Int)) (w : World) (hn : ps.length = n) (hl : n ≤ 512) (h0 : 1 ≤ n) (hp : Pts w A ps) (hv : Cos ps) :
    Calls Tryz.prog 50 #[.slice A n c] w (CornersPost ps w) := by
  obtain ⟨b, off, rfl, -⟩ := Pts_at hp (k := 0) (by omega)
  have HC := Lib.hid (clone_any b off n c ps w hn hl h0 hp)
  have HN := Lib.hid hn
  have HV := Lib.hid (sdL_co hv)
  clear hn hp hv
  go_enter Tryz.func50, Tryz.ntmps50
  go_wp2_with fail
  refine HC.out.mono ?_
  rintro e w1 ⟨g, c1, rfl, hc1, hg, hO1, hg1⟩
  have hgl : g < w1.heap.size := World.block_lt_of_cell? w1 ⟨g, 0 + 0 * 2, none⟩ (hO1 0 (by have := HN.out; omega)).1.1
  have HS := Lib.hid (sort_any g c1 ps w1 (by rw [HN.out]; exact hl) hO1 hgl)
  clear HC hO1
  go_wp2_with fail
  refine HS.out.mono ?_
  rintro e w2 ⟨rfl, hO2, hb2⟩
  have hlen : (srtL ps).length = ps.length := List.length_mergeSort _
  have HD := compact_any g 0 ps.length c1 (srtL ps) w2 hlen (by rw [HN.out]; exact hl) hc1 hO2
  have HD := Lib.hid HD
  clear HS hO2 hlen
  go_wp2_with fail
  refine HD.out.mono ?_
  rintro e w3 ⟨rfl, hO3, hb3⟩
  have hg3 : Gr w w3 := (hb2.trans hb3).gr hg1 hg
  have hpos : 1 ≤ (sdL ps).length := sdL_pos ps (by rw [HN.out]; exact h0)
  have hle : (sdL ps).length ≤ 512 := by have := sdL_len ps; rw [HN.out] at this; omega
  have hlec : (sdL ps).length ≤ c1 := by have := sdL_len ps; omega
  have hO3' : Own w3 g 0 (sdL ps) := hO3
  rw [show ddL (srtL ps) = sdL ps from rfl]
  have HCL : Hid (cornersL ps = if (sdL ps).length = 1 then sdL ps else (chainL (sdL ps)).dropLast ++ (chainL (sdL ps).reverse).dropLast) := Lib.hid rfl
  have hgl3 : g < w3.heap.size := World.block_lt_of_cell? w3 ⟨g, 0 + 0 * 2, none⟩ (hO3' 0 (by omega)).1.1
  clear HD hO3 hb2 hb3
  generalize sdL ps = s at hO3' HV HCL hpos hle hlec ⊢
  obtain ⟨m, hm⟩ : ∃ m, s.length = m := ⟨_, rfl⟩
  rw [hm] at hpos hle hlec ⊢
  have HM := Lib.hid hm
  have HO3 := Lib.hid hO3'
  clear hm hO3'
  by_cases h1 : m = 1
  · subst h1
    go_wp2_with fail
    go_ret
    have e : cornersL ps = s := by rw [HCL.out, if_pos HM.out]
    refine ⟨g, c1, ?_, ?_, hg, ?_, hg3⟩
    · rw [e, HM.out]; rfl
    · rw [e, HM.out]; exact hlec
    · rw [e]; exact HO3.out
  · have e1 : ((m : Int) == 1) = false := by simp; omega
    have hm2 : 2 ≤ m := by omega
    have hmk := fun w => mk_room m (by omega) w
    go_wp2_with fail
    generalize hW : World.alloc w3 _ = W
    obtain ⟨r, hr⟩ : ∃ r, w3.heap.size = r := ⟨_, rfl⟩
    have hWg : Gr w3 W := by rw [← hW]; exact (Gr.refl _).alloc _
    have hBk : Blk W r 108 (madeCells #[.int .i64 0, .int .i64 0] (2 * m * 2)) := by rw [← hW, ← hr]; exact heap_alloc_new w3 _
    have hgr : g ≠ r := by omega
    have hwr : w.heap.size ≤ r := by rw [← hr]; exact hg3.size
    have hR1 : Room W r 0 m := fun j hj => ⟨by rw [hBk.cell, Array.getElem?_eq_getElem (by rw [size_madeCells]; omega)]; rfl, hBk.free _⟩
    have hR2 : Room W r (m * 2) m := fun j hj => ⟨by rw [hBk.cell, Array.getElem?_eq_getElem (by rw [size_madeCells]; omega)]; rfl, hBk.free _⟩
    have hrl : r < W.heap.size := hBk.lt
    have hOs := HO3.out.keep hWg
    have hgW := hg3.trans hWg
    have HCH := Lib.hid (chain_any r 0 g 0 m c1 m s W HM.out hle (Nat.le_refl _) (by omega) hOs.pts HV.out hR1 hrl hgr)
    have HR2 := Lib.hid hR2
    have HOS := Lib.hid hOs
    rw [hr]
    clear hW hBk hR1 hR2 hOs hmk hr
    refine HCH.out.mono ?_
    rintro e w4 ⟨rfl, hOl, hOut⟩
    have hgl4 : g < w4.heap.size := Nat.lt_of_lt_of_le (Nat.lt_of_lt_of_le hgl3 hWg.size) hOut.1.size
    have hrl4 : r < w4.heap.size := Nat.lt_of_lt_of_le hrl hOut.1.size
    have hRV := reverse_any g c1 s w4 (by rw [HM.out]; exact hle) (HOS.out.other hOut.1 hgr) hgl4
    rw [HM.out] at hRV
    have HRV := Lib.hid hRV
    have hRm4 : Room w4 r (m * 2) m := fun j hj => by
      obtain ⟨h1, h2⟩ := HR2.out j hj
      exact ⟨by rw [hOut.2.1 _ (Or.inr (by omega))]; exact h1, (hOut.2.2 _).trans h2⟩
    have HRM := Lib.hid hRm4
    have hg4 : Gr w w4 := hOut.1.gr hgW hwr
    have HOL := Lib.hid hOl
    clear hRV hRm4 HCH HR2 HOS hOut hOl
    go_wp2_with fail
    refine HRV.out.mono ?_
    rintro e w5 ⟨rfl, hOr, hb5⟩
    have HCH2 := Lib.hid (chain_any r (m * 2) g 0 m c1 m s.reverse w5 (by rw [List.length_reverse]; exact HM.out) hle (Nat.le_refl _) (by omega) hOr.pts (rev_co HV.out) (HRM.out.other hb5 (Ne.symm hgr) hrl4) (Nat.lt_of_lt_of_le hrl4 hb5.size) hgr)
    have HOL5 := Lib.hid (HOL.out.other hb5 (Ne.symm hgr))
    have hg5 : Gr w w5 := hb5.gr hg4 hg
    have hl1 : 2 ≤ (chainL s).length := chainL_two s (by rw [HM.out]; exact hm2)
    have hl2 : 2 ≤ (chainL s.reverse).length := chainL_two _ (by rw [List.length_reverse, HM.out]; exact hm2)
    have hl3 : (chainL s).length ≤ m := by have := chainL_le s; rw [HM.out] at this; exact this
    have hl4 : (chainL s.reverse).length ≤ m := by have := chainL_le s.reverse; rw [List.length_reverse, HM.out] at this; exact this
    have HCL2 : Hid (cornersL ps = (chainL s).dropLast ++ (chainL s.reverse).dropLast) := Lib.hid (by rw [HCL.out, if_neg (by rw [HM.out]; exact h1)])
    clear HRV hOr HRM HOL hb5 HCL
    have hmm : (m : Int) ≤ 2 * (m : Int) := by omega
    go_wp2_with fail
    rw [show 2 * m - m = m by omega]
    refine HCH2.out.mono ?_
    rintro e w6 ⟨rfl, hOu, hOut⟩
    have HLO : Hid (Own w6 r 0 (chainL s).dropLast) := Lib.hid (by
      have h := HOL5.out
      refine Own.dropLast (fun i hi => ?_)
      obtain ⟨⟨h1, h2⟩, h3, h4⟩ := h i hi
      exact ⟨⟨(hOut.2.1 _ (Or.inl (by omega))).trans h1, (hOut.2.1 _ (Or.inl (by omega))).trans h2⟩, (hOut.2.2 _).trans h3, (hOut.2.2 _).trans h4⟩)
    have HUP := Lib.hid hOu.dropLast
    have hg6 : Gr w w6 := hOut.1.gr hg5 hwr
    clear HCH2 HOL5 hOu hOut
    generalize hlo : chainL s = lo at hl1 hl3 HCL2 HLO ⊢
    generalize hup : chainL s.reverse = up at hl2 hl4 HCL2 HUP ⊢
    obtain ⟨L1, hL1⟩ : ∃ L, lo.length = L := ⟨_, rfl⟩
    obtain ⟨L2, hL2⟩ : ∃ L, up.length = L := ⟨_, rfl⟩
    rw [hL1] at hl1 hl3 ⊢
    rw [hL2] at hl2 hl4 ⊢
    have HL1 := Lib.hid hL1
    have HL2 := Lib.hid hL2
    clear hlo hup hL1 hL2
    have i1 : IntKind.i64.wrap ((L1 : Int) - 1) = (L1 : Int) - 1 := IntWalk.i64_in _ (by omega)
    have i2 : IntKind.i64.wrap ((L2 : Int) - 1) = (L2 : Int) - 1 := IntWalk.i64_in _ (by omega)
    have i3 : ((L1 : Int) - 1).toNat = L1 - 1 := by omega
    have i4 : ((L2 : Int) - 1).toNat = L2 - 1 := by omega
    have i5 : (1 : Int) ≤ (L1 : Int) := by omega
    have i6 : (1 : Int) ≤ (L2 : Int) := by omega
    have i7 : (0 : Int) ≤ (L1 : Int) - 1 := by omega
    have i8 : (0 : Int) ≤ (L2 : Int) - 1 := by omega
    have i9 : (L1 : Int) - 1 ≤ (m : Int) := by omega
    have i10 : (L2 : Int) - 1 ≤ (m : Int) := by omega
    go_wp2_with fail
    refine wp_region_held_drew (S := (fun W' => Gr w6 W')) ?_ ?_ (fun hHeld => ?_)
    · kernel_rfl
    · ((try dsimp only); ((try go_split_ands); (repeat' apply And.intro) <;> (repeat (first | assumption | (exact Gr.refl _) | (refine Gr.drew ?_) | (refine Gr.alloc ?_ _) | (refine alloc_old ?_) | (refine Gr.keep (by assumption) ?_) | (refine Gr.trans ?_ (by assumption))))))
    refine take_in (i := 0) (v := ?_) (d := (some 37)) rfl rfl ?_ ?_ ?_ ?_ ?_ ?_ ?_ ?_
    rotate_left
    · kernel_rfl
    · kernel_rfl
    · kernel_rfl
    · (intro _ _ _ hq; exact hq)
    · rfl
    · (intro _w hSw; (try dsimp only at hSw); go_simp; try with_reducible rfl)
    · assumption
    try simp only [Act.put, List.setIfInBounds_toArray, List.set_cons_zero, List.set_cons_succ]
    refine take_in (i := 1) (v := ?_) (d := (some 38)) rfl rfl ?_ ?_ ?_ ?_ ?_ ?_ ?_ ?_
    rotate_left
    · kernel_rfl
    · kernel_rfl
    · kernel_rfl
    · (intro _ _ _ hq; exact hq)
    · rfl
    · (intro _w hSw; (try dsimp only at hSw); go_simp; try with_reducible rfl)
    · assumption
    try simp only [Act.put, List.setIfInBounds_toArray, List.set_cons_zero, List.set_cons_succ]
    refine take_in (i := 2) (v := ?_) (d := (some 39)) rfl rfl ?_ ?_ ?_ ?_ ?_ ?_ ?_ ?_
    rotate_left
    · kernel_rfl
    · kernel_rfl
    · kernel_rfl
    · (intro _ _ _ hq; exact hq)
    · rfl
    · (intro _w hSw; (try dsimp only at hSw); go_simp; try with_reducible rfl)
    · assumption
    try simp only [Act.put, List.setIfInBounds_toArray, List.set_cons_zero, List.set_cons_succ]
    refine take_in (i := 3) (v := ?_) (d := (some 40)) rfl rfl ?_ ?_ ?_ ?_ ?_ ?_ ?_ ?_
    rotate_left
    · kernel_rfl
    · kernel_rfl
    · kernel_rfl
    · (intro _ _ _ hq; exact hq)
    · rfl
    · (intro _w hSw; (try dsimp only at hSw); go_simp; try with_reducible rfl)
    · assumption
    try simp only [Act.put, List.setIfInBounds_toArray, List.set_cons_zero, List.set_cons_succ]
    refine take_in (i := 4) (v := ?_) (d := (some 41)) rfl rfl ?_ ?_ ?_ ?_ ?_ ?_ ?_ ?_
    rotate_left
    · kernel_rfl
    · kernel_rfl
    · kernel_rfl
    · (intro _ _ _ hq; exact hq)
    · rfl
    · (intro _w hSw; (try dsimp only at hSw); go_simp; try with_reducible rfl)
    · assumption
    try simp only [Act.put, List.setIfInBounds_toArray, List.set_cons_zero, List.set_cons_succ]
    refine take_in (i := 5) (v := ?_) (d := (some 42)) rfl rfl ?_ ?_ ?_ ?_ ?_ ?_ ?_ ?_
    rotate_left
    · kernel_rfl
    · kernel_rfl
    · kernel_rfl
    · (intro _ _ _ hq; exact hq)
    · rfl
    · (intro _w hSw; (try dsimp only at hSw); go_simp; try with_reducible rfl)
    · assumption
    try simp only [Act.put, List.setIfInBounds_toArray, List.set_cons_zero, List.set_cons_succ]
    refine take_in (i := 6) (v := ?_) (d := (some 43)) rfl rfl ?_ ?_ ?_ ?_ ?_ ?_ ?_ ?_
    rotate_left
    · kernel_rfl
    · kernel_rfl
    · kernel_rfl
    · (intro _ _ _ hq; exact hq)
    · rfl
    · (intro _w hSw; (try dsimp only at hSw); go_simp; try with_reducible rfl)
    · assumption
    try simp only [Act.put, List.setIfInBounds_toArray, List.set_cons_zero, List.set_cons_succ]
    refine take_in (i := 7) (v := ?_) (d := (some 44)) rfl rfl ?_ ?_ ?_ ?_ ?_ ?_ ?_ ?_
    rotate_left
    · kernel_rfl
    · kernel_rfl
    · kernel_rfl
    · (intro _ _ _ hq; exact hq)
    · rfl
    · (intro _w hSw; (try dsimp only at hSw); go_simp; try with_reducible rfl)
    · assumption
    try simp only [Act.put, List.setIfInBounds_toArray, List.set_cons_zero, List.set_cons_succ]
    refine take_in (i := 8) (v := ?_) (d := (some 45)) rfl rfl ?_ ?_ ?_ ?_ ?_ ?_ ?_ ?_
    rotate_left
    · kernel_rfl
    · kernel_rfl
    · kernel_rfl
    · (intro _ _ _ hq; exact hq)
    · rfl
    · (intro _w hSw; (try dsimp only at hSw); go_simp; try with_reducible rfl)
    · assumption
    try simp only [Act.put, List.setIfInBounds_toArray, List.set_cons_zero, List.set_cons_succ]
    refine take_in (i := 9) (v := ?_) (d := (some 46)) rfl rfl ?_ ?_ ?_ ?_ ?_ ?_ ?_ ?_
    rotate_left
    · kernel_rfl
    · kernel_rfl
    · kernel_rfl
    · (intro _ _ _ hq; exact hq)
    · rfl
    · (intro _w hSw; (try dsimp only at hSw); go_simp; try with_reducible rfl)
    · assumption
    try simp only [Act.put, List.setIfInBounds_toArray, List.set_cons_zero, List.set_cons_succ]
    refine wpAnyH_ready (rs := [10]) ?_ ?_ ?_
    · kernel_rfl
    · simp
    refine (AllReadyH.cons rfl (fun K hK => ?_) AllReadyH.nil)
    go_simp
    refine hK.out _ _ ?_ (fun hHeld => ?_)
    · ((try dsimp only); ((try go_split_ands); (repeat' apply And.intro) <;> (repeat (first | assumption | (exact Gr.refl _) | (refine Gr.drew ?_) | (refine Gr.alloc ?_ _) | (refine alloc_old ?_) | (refine Gr.keep (by assumption) ?_) | (refine Gr.trans ?_ (by assumption))))))
    clear hK K
    try simp only [Act.put, List.setIfInBounds_toArray, List.set_cons_zero, List.set_cons_succ]
    refine wpAnyH_ready (rs := [11]) ?_ ?_ ?_
    · kernel_rfl
    · simp
    refine (AllReadyH.cons rfl (fun K hK => ?_) AllReadyH.nil)
    go_simp
    first | (go_at_call 87; refine (concat_any w6.heap.size r 0 r (m * 2) (L1 - 1) (L2 - 1) m m lo.dropLast up.dropLast _ (by rw [List.length_dropLast, HL1.out]) (by rw [List.length_dropLast, HL2.out]) (by omega) (by omega) (by omega) ?_ ?_ ?_ ?_).mono ?_; (exact alloc_new (by first | rfl | simp) rfl); (exact alloc_new (by first | rfl | simp) rfl); (exact HLO.out.pts.keep (by (repeat (first | exact Gr.refl _ | assumption | (refine Gr.drew ?_) | (refine Gr.drewN ?_ _) | (refine Gr.alloc ?_ _) | (refine Gr.trans ?_ (by assumption)))))); (exact HUP.out.pts.keep (by (repeat (first | exact Gr.refl _ | assumption | (refine Gr.drew ?_) | (refine Gr.drewN ?_ _) | (refine Gr.alloc ?_ _) | (refine Gr.trans ?_ (by assumption)))))); rintro e w7 ⟨gc, cc, rfl, hcc, hgc, hOc, hgw⟩)
    refine hK.out _ _ ?_ (fun hHeld => ?_)
    · ((try dsimp only); ((try go_split_ands); (repeat' apply And.intro) <;> (repeat (first | assumption | (exact Gr.refl _) | (refine Gr.drew ?_) | (refine Gr.alloc ?_ _) | (refine alloc_old ?_) | (refine Gr.keep (by assumption) ?_) | (refine Gr.trans ?_ (by assumption))))))
    clear hK K
    try simp only [Act.put, List.setIfInBounds_toArray, List.set_cons_zero, List.set_cons_succ]
    refine take_in (i := 12) (v := ?_) (d := (some 2)) rfl rfl ?_ ?_ ?_ ?_ ?_ ?_ ?_ ?_
    rotate_left
    · kernel_rfl
    · kernel_rfl
    · kernel_rfl
    · (intro _ _ _ hq; exact hq)
    · rfl
    · (intro _w hSw; (try dsimp only at hSw); go_simp; try with_reducible rfl)
    · assumption
    try simp only [Act.put, List.setIfInBounds_toArray, List.set_cons_zero, List.set_cons_succ]
    refine wpAnyH_done ?_ ?_ _
    · kernel_rfl
    rotate_left
    go_wp2_with fail
    go_ret
    have e : cornersL ps = lo.dropLast ++ up.dropLast := HCL2.out
    have e2 : (cornersL ps).length = lo.dropLast.length + up.dropLast.length := by rw [e, List.length_append]
    refine ⟨gc, cc, ?_, ?_, ?_, by rw [e]; exact hOc, hg6.trans hHeld⟩
    · rw [e2, List.length_dropLast, List.length_dropLast]; rfl
    · rw [e2]; exact hcc
    · have h6 := hg6.size
      simp at hgc
      omega

end Go.Proofs.YtpnkpejnahhajaaGreat
