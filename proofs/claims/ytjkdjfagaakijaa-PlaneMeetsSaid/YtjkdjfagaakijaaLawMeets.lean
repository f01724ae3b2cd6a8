/- The law PlaneMeets as a walk. -/
import Derived.Test.YtjkdjfagaakijaaSet
import Derived.Test.YtjkdjfagaakijaaWidest
import Derived.Test.YtjkdjfagaakijaaSepAny
import Derived.Test.YtjkdjfagaakijaaRSet
import Derived.Deep.AppendLies
import Derived.Deep.CutRange
namespace Go.Proofs.Ytjkdjfagaakijaa
open Go.RowKit
set_option linter.unusedSimpArgs false

theorem all_vldM {l : List (Int × Int)} (h : AllCo l) : (l.all fun p => vld p.1 p.2) = true :=
  List.all_eq_true.2 fun p hp => (vld_iff _ _).2 (h p hp)
theorem owns_baseM {w : World} {base base' : Nat} {e : TypeId} {size n : Nat} {v : Value} {xs : List Value} (h : w.ownsRow base e size v n xs) (hb : base' ≤ base) : w.ownsRow base' e size v n xs := by
  obtain ⟨h1, h2⟩ := h
  refine ⟨h1, ?_⟩
  rcases h2 with h | ⟨g, c, cur, hv, hg, r⟩
  · exact .inl h
  · exact .inr ⟨g, c, cur, hv, by omega, r⟩
/-- The mirror image on the other side of far. -/
def mir (f : Int) (p : Int × Int) : Int × Int := (2 * f + 1 - p.1, p.2)
theorem mir_apart {xs : List (Int × Int)} {f : Int} (h1 : 1 ≤ xs.length) (hf : ∀ i, i < xs.length → (xs.getD i (0, 0)).1 ≤ f) : (sepT (cornersL xs) (cornersL (xs.map (mir f)))).m = false := by
  refine sep_apart h1 (by rw [List.length_map]; exact h1) (2, 0) (2 * f + 1) (fun p hp => ?_) (fun p hp => ?_)
  · obtain ⟨i, hi, rfl⟩ := mem_at hp
    have := hf i hi
    unfold pr
    dsimp only
    omega
  · obtain ⟨q, hq, rfl⟩ := List.mem_map.1 hp
    obtain ⟨i, hi, rfl⟩ := mem_at hq
    have := hf i hi
    unfold pr mir
    dsimp only
    omega

set_option maxRecDepth 100000 in
set_option maxHeartbeats 16000000 in
theorem lawMeets_any (A : Option Addr) (n c : Nat) (ps : List (Int × Int)) (B : Option Addr) (n' c' : Nat) (qs : List (Int × Int)) (w : World) (hn : ps.length = n) (hl : n ≤ 8796093022208) (hp : Pts w A ps) (hn' : qs.length = n') (hl' : n' ≤ 8796093022208) (hp' : Pts w B qs) :
    Calls Try.prog 8 #[.slice A n c, .slice B n' c'] w fun e w' => e = .returned (.bool true) ∧ Gr w w' := by
  have HSA := Lib.hid (fun W (hW : Gr w W) => set_any A n c 30 ps W hn hl (by omega) (by omega) (hp.keep hW))
  have HSB := Lib.hid (fun W (hW : Gr w W) => set_any B n' c' 30 qs W hn' hl' (by omega) (by omega) (hp'.keep hW))
  have hxl := setL_len ps 30 (by omega)
  have hyl := setL_len qs 30 (by omega)
  have hxc := setL_co ps 30
  have hyc := setL_co qs 30
  generalize setL ps 30 = xs at HSA hxl hxc
  generalize setL qs 30 = ys at HSB hyl hyc
  have hx0 := at_mem (ps := xs) (i := 0) (by omega)
  have hbc : AllCo (ys ++ [xs.getD 0 (0, 0)]) := fun p hp => by
    rcases List.mem_append.1 hp with h | h
    · exact hyc p h
    · rw [List.mem_singleton.1 h]; exact hxc _ hx0
  have HK1 := Lib.hid (sep_share (A := xs) (B := ys ++ [xs.getD 0 (0, 0)]) hx0 (by simp) (cornersL_co (Cos_all hxc)) (cornersL_co (Cos_all hbc)))
  have HK2 := Lib.hid (fun f (h : ∀ i, i < xs.length → (xs.getD i (0, 0)).1 ≤ f) => mir_apart (by omega : 1 ≤ xs.length) h)
  have HI1 := Lib.hid (corners_idem xs (by omega))
  have HI2 := Lib.hid (corners_idem ys (by omega))
  have hl1 := cornersL_len xs (by omega)
  have hl2 := cornersL_len ys (by omega)
  have HVH1 := Lib.hid (all_vldM (all_Cos (cornersL_co (Cos_all hxc))))
  have HVH2 := Lib.hid (all_vldM (all_Cos (cornersL_co (Cos_all hyc))))
  have hp0 := hxc _ hx0
  obtain ⟨q1, hq1⟩ : ∃ q, xs.length = q := ⟨_, rfl⟩
  obtain ⟨q2, hq2⟩ : ∃ q, ys.length = q := ⟨_, rfl⟩
  have HBL : Hid ((ys ++ [xs.getD 0 (0, 0)]).length = q2 + 1) := Lib.hid (by simp [hq2])
  rw [hq1] at hxl hl1 HK2
  rw [hq2] at hyl hl2
  have HX := Lib.hid hq1
  have HY := Lib.hid hq2
  have HXC := Lib.hid hxc
  have HVX := Lib.hid (all_vldM hxc)
  have HVY := Lib.hid (all_vldM hyc)
  have HVB := Lib.hid (all_vldM hbc)
  obtain ⟨H1, hH1⟩ : ∃ H, cornersL xs = H := ⟨_, rfl⟩
  obtain ⟨H2, hH2⟩ : ∃ H, cornersL ys = H := ⟨_, rfl⟩
  rw [hH1] at hl1 HVH1 HI1
  rw [hH2] at hl2 HVH2 HI2
  have HE1 := Lib.hid hH1
  have HE2 := Lib.hid hH2
  obtain ⟨r1, hr1⟩ : ∃ r, H1.length = r := ⟨_, rfl⟩
  obtain ⟨r2, hr2⟩ : ∃ r, H2.length = r := ⟨_, rfl⟩
  rw [hr1] at hl1
  rw [hr2] at hl2
  have HL1 := Lib.hid hr1
  have HL2 := Lib.hid hr2
  have HS1 : Hid ((decide (1 ≤ r1 ∧ r1 ≤ 512) && H1.all fun p => vld p.1 p.2) = true) := Lib.hid (by rw [HVH1.out, decide_eq_true (by omega)]; rfl)
  have HS2 : Hid ((decide (1 ≤ r2 ∧ r2 ≤ 512) && H2.all fun p => vld p.1 p.2) = true) := Lib.hid (by rw [HVH2.out, decide_eq_true (by omega)]; rfl)
  obtain ⟨m0, hm0⟩ : ∃ m, (sepT H1 H2).m = m := ⟨_, rfl⟩
  have HM0 : Hid ((sepT (cornersL xs) (cornersL ys)).m = m0) := Lib.hid (by rw [hH1, hH2, hm0])
  have HM1 : Hid ((sepT (cornersL H1) (cornersL H2)).m = m0) := Lib.hid (by rw [HI1.out, HI2.out, hm0])
  clear hn hl hp hn' hl' hp' hx0 hbc hxc hyc hq1 hq2 hH1 hH2 hr1 hr2 hm0
  go_enter Try.func8, Try.ntmps8
  go_wp2_with fail
  refine (HSA.out _ (by (repeat (first | exact Gr.refl _ | assumption | (refine Gr.drew ?_) | (refine Gr.drewN ?_ _) | (refine Gr.alloc ?_ _) | (refine Gr.trans ?_ (by assumption)))))).mono ?_
  rintro e w1 ⟨g1, c1, rfl, hc1, hg1, hO1, hb1⟩
  rw [HX.out] at hc1 hO1 ⊢
  go_wp2_with fail
  refine (HSB.out _ (by (repeat (first | exact Gr.refl _ | assumption | (refine Gr.drew ?_) | (refine Gr.drewN ?_ _) | (refine Gr.alloc ?_ _) | (refine Gr.trans ?_ (by assumption)))))).mono ?_
  rintro e w2 ⟨g2, c2, rfl, hc2, hg2, hO2, hb2⟩
  rw [HY.out] at hc2 hO2 ⊢
  have HO1 := Lib.hid ((Own_of HX.out hO1).keep hb2)
  have HO2 := Lib.hid (Own_of HY.out hO2)
  have hgw := hb1.trans hb2
  obtain ⟨i0, hi, hz0, hz1, hz2⟩ := info_parts Try.info23
  obtain ⟨⟨p0, p1⟩, -, -⟩ := HO1.out 0 (by have := HX.out; omega)
  have HB0 : Hid (ys ++ [xs.getD 0 (0, 0)] = ys ++ [((xs.getD 0 (0, 0)).1, (xs.getD 0 (0, 0)).2)]) := Lib.hid rfl
  replace p0 : w2.cell? ⟨g1, 0, none⟩ = some (.int .i64 (xs.getD 0 (0, 0)).1) := p0
  replace p1 : w2.cell? ⟨g1, 1, none⟩ = some (.int .i64 (xs.getD 0 (0, 0)).2) := p1
  generalize (xs.getD 0 (0, 0)).1 = x0 at p0 HB0
  generalize (xs.getD 0 (0, 0)).2 = y0 at p1 HB0
  clear hg1 hO1 hb1 hg2 hO2 hb2 hp0
  have HSB2 : Hid (∀ W, Gr w2 W → Calls Try.prog 21 #[.slice B n' c', .int .i64 30] W (SetPost ys W)) := Lib.hid (fun W hW => HSB.out W (hgw.trans hW))
  have hq1p : 0 < q1 := by omega
  clear HSB HSA
  have KS : Hid (∀ W', Gr w2 W' → (Gr w2 W' ∧ W'.cell? ⟨g1, 0, none⟩ = some (.int .i64 x0) ∧ W'.cell? ⟨g1, 1, none⟩ = some (.int .i64 y0))) := Lib.hid (fun W' h => ⟨h, h.keep p0, h.keep p1⟩)
  have HFL : Hid (flat2 (ys ++ [xs.getD 0 (0, 0)]) = flat2 ys ++ [.int .i64 x0, .int .i64 y0]) := Lib.hid (by rw [HB0.out, flat2_snoc])
  generalize ys ++ [xs.getD 0 (0, 0)] = bs at HK1 HBL HVB HFL
  clear HB0
  go_wp2_with fail
  go_cut [7] from 28 to 34 (fun v wx => ∃ g4 c4 : Nat, v = .slice (some ⟨g4, 0, none⟩) (q2 + 1) c4 ∧ Gr w2 wx ∧ Own wx g4 0 bs)
  case first =>
    refine wp_region_held_drew (S := (fun W' => Gr w2 W' ∧ W'.cell? ⟨g1, 0, none⟩ = some (.int .i64 x0) ∧ W'.cell? ⟨g1, 1, none⟩ = some (.int .i64 y0))) ?_ ?_ (fun hHeld => ?_)
    · kernel_rfl
    · ((try dsimp only); (first | (refine KS.out _ ?_; (repeat (first | exact Gr.refl _ | exact hHeld.1 | exact HG4.out | (refine Gr.drew ?_) | (refine Gr.alloc ?_ _) | (refine Gr.trans ?_ (by assumption)))); done)))
    refine take_in (i := 0) (v := ?_) (d := (some 28)) rfl rfl ?_ ?_ ?_ ?_ ?_ ?_ ?_ ?_
    rotate_left
    · kernel_rfl
    · kernel_rfl
    · kernel_rfl
    · (intro _ _ _ hq; exact hq)
    · rfl
    · (intro _w hSw; (try dsimp only at hSw); go_simp; try with_reducible rfl)
    · assumption
    try simp only [Act.put, List.setIfInBounds_toArray, List.set_cons_zero, List.set_cons_succ]
    refine take_in (i := 2) (v := ?_) (d := (some 30)) rfl rfl ?_ ?_ ?_ ?_ ?_ ?_ ?_ ?_
    rotate_left
    · kernel_rfl
    · kernel_rfl
    · kernel_rfl
    · (intro _ _ _ hq; exact hq)
    · rfl
    · (intro _w hSw; (try dsimp only at hSw); go_simp; try with_reducible rfl)
    · assumption
    try simp only [Act.put, List.setIfInBounds_toArray, List.set_cons_zero, List.set_cons_succ]
    refine take_in (i := 3) (v := ?_) (d := (some 31)) rfl rfl ?_ ?_ ?_ ?_ ?_ ?_ ?_ ?_
    rotate_left
    · kernel_rfl
    · kernel_rfl
    · kernel_rfl
    · (intro _ _ _ hq; exact hq)
    · rfl
    · (intro _w hSw; (try dsimp only at hSw); go_simp; try with_reducible rfl)
    · assumption
    try simp only [Act.put, List.setIfInBounds_toArray, List.set_cons_zero, List.set_cons_succ]
    refine take_in (i := 4) (v := ?_) (d := (some 32)) rfl rfl ?_ ?_ ?_ ?_ ?_ ?_ ?_ ?_
    rotate_left
    · kernel_rfl
    · kernel_rfl
    · kernel_rfl
    · (intro _ _ _ hq; exact hq)
    · rfl
    · (intro _w hSw; (try dsimp only at hSw); go_simp; try with_reducible rfl)
    · assumption
    try simp only [Act.put, List.setIfInBounds_toArray, List.set_cons_zero, List.set_cons_succ]
    refine wpAnyH_ready (rs := [1, 5]) ?_ ?_ ?_
    · kernel_rfl
    · simp
    refine (AllReadyH.cons rfl (fun K hK => ?_) (AllReadyH.cons rfl (fun K hK => ?_) AllReadyH.nil))
    go_simp
    first | (go_at_call 21; (with_reducible refine (HSB2.out _ (by (repeat (first | exact Gr.refl _ | assumption | (refine Gr.drew ?_) | (refine Gr.drewN ?_ _) | (refine Gr.alloc ?_ _) | (refine Gr.trans ?_ (by assumption)))))).mono ?_); rintro e w3 ⟨g3, c3, rfl, hc3, -, hO3, hb3⟩; rw [HY.out] at hc3 hO3 ⊢; have HO3 := Lib.hid (owns_baseM hO3 (show w2.heap.size ≤ _ from Gr.size (by (repeat (first | exact Gr.refl _ | assumption | (refine Gr.drew ?_) | (refine Gr.drewN ?_ _) | (refine Gr.alloc ?_ _) | (refine Gr.trans ?_ (by assumption))))))); clear hO3) | (refine step_append_lies _ (by rfl) (.tmp 29) (.tmp 33) 22 (by rfl) w2.heap.size 40 i0 _ 2 16 Try.underlying22 hi hz0 hz1 hz2 rfl (by decide) (.slice (some ⟨g3, 0, none⟩) q2 c3) q2 (flat2 ys) (by rfl) (owns_gr HO3.out (by (repeat (first | exact Gr.refl _ | assumption | (refine Gr.drew ?_) | (refine Gr.drewN ?_ _) | (refine Gr.alloc ?_ _) | (refine Gr.trans ?_ (by assumption)))))) ⟨w3.heap.size, 0, none⟩ 1 1 [.int .i64 x0, .int .i64 y0] (by rfl) rfl (World.news_of_block (heap_alloc_new _ _)) (by intro u hu; simp at hu; rcases hu with rfl | rfl <;> rfl) (by decide) (by unfold maxLen; omega) (by omega) (Gr.size (by (repeat (first | exact Gr.refl _ | assumption | (refine Gr.drew ?_) | (refine Gr.drewN ?_ _) | (refine Gr.alloc ?_ _) | (refine Gr.trans ?_ (by assumption)))))) _ rfl ?_; intro g4 c4 w4 hO4 hgrow _ _; have hg4 : Gr w2 w4 := Below.grown (by (repeat (first | exact Gr.refl _ | assumption | (refine Gr.drew ?_) | (refine Gr.drewN ?_ _) | (refine Gr.alloc ?_ _) | (refine Gr.trans ?_ (by assumption))))) hgrow (Gr.size (by (repeat (first | exact Gr.refl _ | assumption | (refine Gr.drew ?_) | (refine Gr.drewN ?_ _) | (refine Gr.alloc ?_ _) | (refine Gr.trans ?_ (by assumption)))))) (fun t ht => ((owns_gr HO3.out (by (repeat (first | exact Gr.refl _ | assumption | (refine Gr.drew ?_) | (refine Gr.drewN ?_ _) | (refine Gr.alloc ?_ _) | (refine Gr.trans ?_ (by assumption)))))).lt t ht).1); have HG4 := Lib.hid hg4; have HO4 := Lib.hid hO4; clear hO4 hgrow hg4; go_simp) | (refine step_append_lies _ (by rfl) (.tmp 29) (.tmp 33) 22 (by rfl) w2.heap.size 40 i0 _ 2 16 Try.underlying22 hi hz0 hz1 hz2 rfl (by decide) (.slice (some ⟨g3, 0, none⟩) q2 c3) q2 (flat2 ys) (by rfl) (owns_gr HO3.out (by (repeat (first | exact Gr.refl _ | assumption | (refine Gr.drew ?_) | (refine Gr.drewN ?_ _) | (refine Gr.alloc ?_ _) | (refine Gr.trans ?_ (by assumption)))))) ⟨w2.heap.size, 0, none⟩ 1 1 [.int .i64 x0, .int .i64 y0] (by rfl) rfl (World.news_of_block (Blk.keep (w := (w2.alloc (.cells #[.int .i64 x0, .int .i64 y0] 40)).drew) (heap_alloc_new _ _) hb3)) (by intro u hu; simp at hu; rcases hu with rfl | rfl <;> rfl) (by decide) (by unfold maxLen; omega) (by omega) (Gr.size (by (repeat (first | exact Gr.refl _ | assumption | (refine Gr.drew ?_) | (refine Gr.drewN ?_ _) | (refine Gr.alloc ?_ _) | (refine Gr.trans ?_ (by assumption)))))) _ rfl ?_; intro g4 c4 w4 hO4 hgrow _ _; have hg4 : Gr w2 w4 := Below.grown (by (repeat (first | exact Gr.refl _ | assumption | (refine Gr.drew ?_) | (refine Gr.drewN ?_ _) | (refine Gr.alloc ?_ _) | (refine Gr.trans ?_ (by assumption))))) hgrow (Gr.size (by (repeat (first | exact Gr.refl _ | assumption | (refine Gr.drew ?_) | (refine Gr.drewN ?_ _) | (refine Gr.alloc ?_ _) | (refine Gr.trans ?_ (by assumption)))))) (fun t ht => ((owns_gr HO3.out (by (repeat (first | exact Gr.refl _ | assumption | (refine Gr.drew ?_) | (refine Gr.drewN ?_ _) | (refine Gr.alloc ?_ _) | (refine Gr.trans ?_ (by assumption)))))).lt t ht).1); have HG4 := Lib.hid hg4; have HO4 := Lib.hid hO4; clear hO4 hgrow hg4; go_simp)
    refine hK.out _ _ ?_ (fun hHeld => ?_)
    · ((try dsimp only); (first | (refine KS.out _ ?_; (repeat (first | exact Gr.refl _ | exact hHeld.1 | exact HG4.out | (refine Gr.drew ?_) | (refine Gr.alloc ?_ _) | (refine Gr.trans ?_ (by assumption)))); done)))
    clear hK K
    try simp only [Act.put, List.setIfInBounds_toArray, List.set_cons_zero, List.set_cons_succ]
    refine wpAnyH_ready (rs := [5]) ?_ ?_ ?_
    · kernel_rfl
    · simp
    refine (AllReadyH.cons rfl (fun K hK => ?_) AllReadyH.nil)
    go_simp
    refine hK.out _ _ ?_ (fun hHeld => ?_)
    · ((try dsimp only); (first | (refine KS.out _ ?_; (repeat (first | exact Gr.refl _ | exact hHeld.1 | exact HG4.out | (refine Gr.drew ?_) | (refine Gr.alloc ?_ _) | (refine Gr.trans ?_ (by assumption)))); done)))
    clear hK K
    try simp only [Act.put, List.setIfInBounds_toArray, List.set_cons_zero, List.set_cons_succ]
    refine wpAnyH_ready (rs := [6]) ?_ ?_ ?_
    · kernel_rfl
    · simp
    refine (AllReadyH.cons rfl (fun K hK => ?_) AllReadyH.nil)
    first | (go_at_call 21; (with_reducible refine (HSB2.out _ (by (repeat (first | exact Gr.refl _ | assumption | (refine Gr.drew ?_) | (refine Gr.drewN ?_ _) | (refine Gr.alloc ?_ _) | (refine Gr.trans ?_ (by assumption)))))).mono ?_); rintro e w3 ⟨g3, c3, rfl, hc3, -, hO3, hb3⟩; rw [HY.out] at hc3 hO3 ⊢; have HO3 := Lib.hid (owns_baseM hO3 (show w2.heap.size ≤ _ from Gr.size (by (repeat (first | exact Gr.refl _ | assumption | (refine Gr.drew ?_) | (refine Gr.drewN ?_ _) | (refine Gr.alloc ?_ _) | (refine Gr.trans ?_ (by assumption))))))); clear hO3) | (refine step_append_lies _ (by rfl) (.tmp 29) (.tmp 33) 22 (by rfl) w2.heap.size 40 i0 _ 2 16 Try.underlying22 hi hz0 hz1 hz2 rfl (by decide) (.slice (some ⟨g3, 0, none⟩) q2 c3) q2 (flat2 ys) (by rfl) (owns_gr HO3.out (by (repeat (first | exact Gr.refl _ | assumption | (refine Gr.drew ?_) | (refine Gr.drewN ?_ _) | (refine Gr.alloc ?_ _) | (refine Gr.trans ?_ (by assumption)))))) ⟨w3.heap.size, 0, none⟩ 1 1 [.int .i64 x0, .int .i64 y0] (by rfl) rfl (World.news_of_block (heap_alloc_new _ _)) (by intro u hu; simp at hu; rcases hu with rfl | rfl <;> rfl) (by decide) (by unfold maxLen; omega) (by omega) (Gr.size (by (repeat (first | exact Gr.refl _ | assumption | (refine Gr.drew ?_) | (refine Gr.drewN ?_ _) | (refine Gr.alloc ?_ _) | (refine Gr.trans ?_ (by assumption)))))) _ rfl ?_; intro g4 c4 w4 hO4 hgrow _ _; have hg4 : Gr w2 w4 := Below.grown (by (repeat (first | exact Gr.refl _ | assumption | (refine Gr.drew ?_) | (refine Gr.drewN ?_ _) | (refine Gr.alloc ?_ _) | (refine Gr.trans ?_ (by assumption))))) hgrow (Gr.size (by (repeat (first | exact Gr.refl _ | assumption | (refine Gr.drew ?_) | (refine Gr.drewN ?_ _) | (refine Gr.alloc ?_ _) | (refine Gr.trans ?_ (by assumption)))))) (fun t ht => ((owns_gr HO3.out (by (repeat (first | exact Gr.refl _ | assumption | (refine Gr.drew ?_) | (refine Gr.drewN ?_ _) | (refine Gr.alloc ?_ _) | (refine Gr.trans ?_ (by assumption)))))).lt t ht).1); have HG4 := Lib.hid hg4; have HO4 := Lib.hid hO4; clear hO4 hgrow hg4; go_simp) | (refine step_append_lies _ (by rfl) (.tmp 29) (.tmp 33) 22 (by rfl) w2.heap.size 40 i0 _ 2 16 Try.underlying22 hi hz0 hz1 hz2 rfl (by decide) (.slice (some ⟨g3, 0, none⟩) q2 c3) q2 (flat2 ys) (by rfl) (owns_gr HO3.out (by (repeat (first | exact Gr.refl _ | assumption | (refine Gr.drew ?_) | (refine Gr.drewN ?_ _) | (refine Gr.alloc ?_ _) | (refine Gr.trans ?_ (by assumption)))))) ⟨w2.heap.size, 0, none⟩ 1 1 [.int .i64 x0, .int .i64 y0] (by rfl) rfl (World.news_of_block (Blk.keep (w := (w2.alloc (.cells #[.int .i64 x0, .int .i64 y0] 40)).drew) (heap_alloc_new _ _) hb3)) (by intro u hu; simp at hu; rcases hu with rfl | rfl <;> rfl) (by decide) (by unfold maxLen; omega) (by omega) (Gr.size (by (repeat (first | exact Gr.refl _ | assumption | (refine Gr.drew ?_) | (refine Gr.drewN ?_ _) | (refine Gr.alloc ?_ _) | (refine Gr.trans ?_ (by assumption)))))) _ rfl ?_; intro g4 c4 w4 hO4 hgrow _ _; have hg4 : Gr w2 w4 := Below.grown (by (repeat (first | exact Gr.refl _ | assumption | (refine Gr.drew ?_) | (refine Gr.drewN ?_ _) | (refine Gr.alloc ?_ _) | (refine Gr.trans ?_ (by assumption))))) hgrow (Gr.size (by (repeat (first | exact Gr.refl _ | assumption | (refine Gr.drew ?_) | (refine Gr.drewN ?_ _) | (refine Gr.alloc ?_ _) | (refine Gr.trans ?_ (by assumption)))))) (fun t ht => ((owns_gr HO3.out (by (repeat (first | exact Gr.refl _ | assumption | (refine Gr.drew ?_) | (refine Gr.drewN ?_ _) | (refine Gr.alloc ?_ _) | (refine Gr.trans ?_ (by assumption)))))).lt t ht).1); have HG4 := Lib.hid hg4; have HO4 := Lib.hid hO4; clear hO4 hgrow hg4; go_simp)
    refine hK.out _ _ ?_ (fun hHeld => ?_)
    · ((try dsimp only); (first | (refine KS.out _ ?_; (repeat (first | exact Gr.refl _ | exact hHeld.1 | exact HG4.out | (refine Gr.drew ?_) | (refine Gr.alloc ?_ _) | (refine Gr.trans ?_ (by assumption)))); done)))
    clear hK K
    try simp only [Act.put, List.setIfInBounds_toArray, List.set_cons_zero, List.set_cons_succ]
    refine take_in (i := 7) (v := ?_) (d := (some 7)) rfl rfl ?_ ?_ ?_ ?_ ?_ ?_ ?_ ?_
    rotate_left
    · kernel_rfl
    · kernel_rfl
    · kernel_rfl
    · (intro _ _ _ hq; exact hq)
    · rfl
    · (intro _w hSw; (try dsimp only at hSw); go_simp; try with_reducible rfl)
    · assumption
    try simp only [Act.put, List.setIfInBounds_toArray, List.set_cons_zero, List.set_cons_succ]
    refine wpAnyH_done ?_ ?_ _
    · kernel_rfl
    rotate_left
    go_simp
    refine hK.out _ _ ?_ (fun hHeld => ?_)
    · ((try dsimp only); (first | (refine KS.out _ ?_; (repeat (first | exact Gr.refl _ | exact hHeld.1 | exact HG4.out | (refine Gr.drew ?_) | (refine Gr.alloc ?_ _) | (refine Gr.trans ?_ (by assumption)))); done)))
    clear hK K
    try simp only [Act.put, List.setIfInBounds_toArray, List.set_cons_zero, List.set_cons_succ]
    refine wpAnyH_ready (rs := [1]) ?_ ?_ ?_
    · kernel_rfl
    · simp
    refine (AllReadyH.cons rfl (fun K hK => ?_) AllReadyH.nil)
    go_simp
    first | (go_at_call 21; (with_reducible refine (HSB2.out _ (by (repeat (first | exact Gr.refl _ | assumption | (refine Gr.drew ?_) | (refine Gr.drewN ?_ _) | (refine Gr.alloc ?_ _) | (refine Gr.trans ?_ (by assumption)))))).mono ?_); rintro e w3 ⟨g3, c3, rfl, hc3, -, hO3, hb3⟩; rw [HY.out] at hc3 hO3 ⊢; have HO3 := Lib.hid (owns_baseM hO3 (show w2.heap.size ≤ _ from Gr.size (by (repeat (first | exact Gr.refl _ | assumption | (refine Gr.drew ?_) | (refine Gr.drewN ?_ _) | (refine Gr.alloc ?_ _) | (refine Gr.trans ?_ (by assumption))))))); clear hO3) | (refine step_append_lies _ (by rfl) (.tmp 29) (.tmp 33) 22 (by rfl) w2.heap.size 40 i0 _ 2 16 Try.underlying22 hi hz0 hz1 hz2 rfl (by decide) (.slice (some ⟨g3, 0, none⟩) q2 c3) q2 (flat2 ys) (by rfl) (owns_gr HO3.out (by (repeat (first | exact Gr.refl _ | assumption | (refine Gr.drew ?_) | (refine Gr.drewN ?_ _) | (refine Gr.alloc ?_ _) | (refine Gr.trans ?_ (by assumption)))))) ⟨w3.heap.size, 0, none⟩ 1 1 [.int .i64 x0, .int .i64 y0] (by rfl) rfl (World.news_of_block (heap_alloc_new _ _)) (by intro u hu; simp at hu; rcases hu with rfl | rfl <;> rfl) (by decide) (by unfold maxLen; omega) (by omega) (Gr.size (by (repeat (first | exact Gr.refl _ | assumption | (refine Gr.drew ?_) | (refine Gr.drewN ?_ _) | (refine Gr.alloc ?_ _) | (refine Gr.trans ?_ (by assumption)))))) _ rfl ?_; intro g4 c4 w4 hO4 hgrow _ _; have hg4 : Gr w2 w4 := Below.grown (by (repeat (first | exact Gr.refl _ | assumption | (refine Gr.drew ?_) | (refine Gr.drewN ?_ _) | (refine Gr.alloc ?_ _) | (refine Gr.trans ?_ (by assumption))))) hgrow (Gr.size (by (repeat (first | exact Gr.refl _ | assumption | (refine Gr.drew ?_) | (refine Gr.drewN ?_ _) | (refine Gr.alloc ?_ _) | (refine Gr.trans ?_ (by assumption)))))) (fun t ht => ((owns_gr HO3.out (by (repeat (first | exact Gr.refl _ | assumption | (refine Gr.drew ?_) | (refine Gr.drewN ?_ _) | (refine Gr.alloc ?_ _) | (refine Gr.trans ?_ (by assumption)))))).lt t ht).1); have HG4 := Lib.hid hg4; have HO4 := Lib.hid hO4; clear hO4 hgrow hg4; go_simp) | (refine step_append_lies _ (by rfl) (.tmp 29) (.tmp 33) 22 (by rfl) w2.heap.size 40 i0 _ 2 16 Try.underlying22 hi hz0 hz1 hz2 rfl (by decide) (.slice (some ⟨g3, 0, none⟩) q2 c3) q2 (flat2 ys) (by rfl) (owns_gr HO3.out (by (repeat (first | exact Gr.refl _ | assumption | (refine Gr.drew ?_) | (refine Gr.drewN ?_ _) | (refine Gr.alloc ?_ _) | (refine Gr.trans ?_ (by assumption)))))) ⟨w2.heap.size, 0, none⟩ 1 1 [.int .i64 x0, .int .i64 y0] (by rfl) rfl (World.news_of_block (Blk.keep (w := (w2.alloc (.cells #[.int .i64 x0, .int .i64 y0] 40)).drew) (heap_alloc_new _ _) hb3)) (by intro u hu; simp at hu; rcases hu with rfl | rfl <;> rfl) (by decide) (by unfold maxLen; omega) (by omega) (Gr.size (by (repeat (first | exact Gr.refl _ | assumption | (refine Gr.drew ?_) | (refine Gr.drewN ?_ _) | (refine Gr.alloc ?_ _) | (refine Gr.trans ?_ (by assumption)))))) _ rfl ?_; intro g4 c4 w4 hO4 hgrow _ _; have hg4 : Gr w2 w4 := Below.grown (by (repeat (first | exact Gr.refl _ | assumption | (refine Gr.drew ?_) | (refine Gr.drewN ?_ _) | (refine Gr.alloc ?_ _) | (refine Gr.trans ?_ (by assumption))))) hgrow (Gr.size (by (repeat (first | exact Gr.refl _ | assumption | (refine Gr.drew ?_) | (refine Gr.drewN ?_ _) | (refine Gr.alloc ?_ _) | (refine Gr.trans ?_ (by assumption)))))) (fun t ht => ((owns_gr HO3.out (by (repeat (first | exact Gr.refl _ | assumption | (refine Gr.drew ?_) | (refine Gr.drewN ?_ _) | (refine Gr.alloc ?_ _) | (refine Gr.trans ?_ (by assumption)))))).lt t ht).1); have HG4 := Lib.hid hg4; have HO4 := Lib.hid hO4; clear hO4 hgrow hg4; go_simp)
    refine hK.out _ _ ?_ (fun hHeld => ?_)
    · ((try dsimp only); (first | (refine KS.out _ ?_; (repeat (first | exact Gr.refl _ | exact hHeld.1 | exact HG4.out | (refine Gr.drew ?_) | (refine Gr.alloc ?_ _) | (refine Gr.trans ?_ (by assumption)))); done)))
    clear hK K
    try simp only [Act.put, List.setIfInBounds_toArray, List.set_cons_zero, List.set_cons_succ]
    refine wpAnyH_ready (rs := [6]) ?_ ?_ ?_
    · kernel_rfl
    · simp
    refine (AllReadyH.cons rfl (fun K hK => ?_) AllReadyH.nil)
    first | (go_at_call 21; (with_reducible refine (HSB2.out _ (by (repeat (first | exact Gr.refl _ | assumption | (refine Gr.drew ?_) | (refine Gr.drewN ?_ _) | (refine Gr.alloc ?_ _) | (refine Gr.trans ?_ (by assumption)))))).mono ?_); rintro e w3 ⟨g3, c3, rfl, hc3, -, hO3, hb3⟩; rw [HY.out] at hc3 hO3 ⊢; have HO3 := Lib.hid (owns_baseM hO3 (show w2.heap.size ≤ _ from Gr.size (by (repeat (first | exact Gr.refl _ | assumption | (refine Gr.drew ?_) | (refine Gr.drewN ?_ _) | (refine Gr.alloc ?_ _) | (refine Gr.trans ?_ (by assumption))))))); clear hO3) | (refine step_append_lies _ (by rfl) (.tmp 29) (.tmp 33) 22 (by rfl) w2.heap.size 40 i0 _ 2 16 Try.underlying22 hi hz0 hz1 hz2 rfl (by decide) (.slice (some ⟨g3, 0, none⟩) q2 c3) q2 (flat2 ys) (by rfl) (owns_gr HO3.out (by (repeat (first | exact Gr.refl _ | assumption | (refine Gr.drew ?_) | (refine Gr.drewN ?_ _) | (refine Gr.alloc ?_ _) | (refine Gr.trans ?_ (by assumption)))))) ⟨w3.heap.size, 0, none⟩ 1 1 [.int .i64 x0, .int .i64 y0] (by rfl) rfl (World.news_of_block (heap_alloc_new _ _)) (by intro u hu; simp at hu; rcases hu with rfl | rfl <;> rfl) (by decide) (by unfold maxLen; omega) (by omega) (Gr.size (by (repeat (first | exact Gr.refl _ | assumption | (refine Gr.drew ?_) | (refine Gr.drewN ?_ _) | (refine Gr.alloc ?_ _) | (refine Gr.trans ?_ (by assumption)))))) _ rfl ?_; intro g4 c4 w4 hO4 hgrow _ _; have hg4 : Gr w2 w4 := Below.grown (by (repeat (first | exact Gr.refl _ | assumption | (refine Gr.drew ?_) | (refine Gr.drewN ?_ _) | (refine Gr.alloc ?_ _) | (refine Gr.trans ?_ (by assumption))))) hgrow (Gr.size (by (repeat (first | exact Gr.refl _ | assumption | (refine Gr.drew ?_) | (refine Gr.drewN ?_ _) | (refine Gr.alloc ?_ _) | (refine Gr.trans ?_ (by assumption)))))) (fun t ht => ((owns_gr HO3.out (by (repeat (first | exact Gr.refl _ | assumption | (refine Gr.drew ?_) | (refine Gr.drewN ?_ _) | (refine Gr.alloc ?_ _) | (refine Gr.trans ?_ (by assumption)))))).lt t ht).1); have HG4 := Lib.hid hg4; have HO4 := Lib.hid hO4; clear hO4 hgrow hg4; go_simp) | (refine step_append_lies _ (by rfl) (.tmp 29) (.tmp 33) 22 (by rfl) w2.heap.size 40 i0 _ 2 16 Try.underlying22 hi hz0 hz1 hz2 rfl (by decide) (.slice (some ⟨g3, 0, none⟩) q2 c3) q2 (flat2 ys) (by rfl) (owns_gr HO3.out (by (repeat (first | exact Gr.refl _ | assumption | (refine Gr.drew ?_) | (refine Gr.drewN ?_ _) | (refine Gr.alloc ?_ _) | (refine Gr.trans ?_ (by assumption)))))) ⟨w2.heap.size, 0, none⟩ 1 1 [.int .i64 x0, .int .i64 y0] (by rfl) rfl (World.news_of_block (Blk.keep (w := (w2.alloc (.cells #[.int .i64 x0, .int .i64 y0] 40)).drew) (heap_alloc_new _ _) hb3)) (by intro u hu; simp at hu; rcases hu with rfl | rfl <;> rfl) (by decide) (by unfold maxLen; omega) (by omega) (Gr.size (by (repeat (first | exact Gr.refl _ | assumption | (refine Gr.drew ?_) | (refine Gr.drewN ?_ _) | (refine Gr.alloc ?_ _) | (refine Gr.trans ?_ (by assumption)))))) _ rfl ?_; intro g4 c4 w4 hO4 hgrow _ _; have hg4 : Gr w2 w4 := Below.grown (by (repeat (first | exact Gr.refl _ | assumption | (refine Gr.drew ?_) | (refine Gr.drewN ?_ _) | (refine Gr.alloc ?_ _) | (refine Gr.trans ?_ (by assumption))))) hgrow (Gr.size (by (repeat (first | exact Gr.refl _ | assumption | (refine Gr.drew ?_) | (refine Gr.drewN ?_ _) | (refine Gr.alloc ?_ _) | (refine Gr.trans ?_ (by assumption)))))) (fun t ht => ((owns_gr HO3.out (by (repeat (first | exact Gr.refl _ | assumption | (refine Gr.drew ?_) | (refine Gr.drewN ?_ _) | (refine Gr.alloc ?_ _) | (refine Gr.trans ?_ (by assumption)))))).lt t ht).1); have HG4 := Lib.hid hg4; have HO4 := Lib.hid hO4; clear hO4 hgrow hg4; go_simp)
    refine hK.out _ _ ?_ (fun hHeld => ?_)
    · ((try dsimp only); (first | (refine KS.out _ ?_; (repeat (first | exact Gr.refl _ | exact hHeld.1 | exact HG4.out | (refine Gr.drew ?_) | (refine Gr.alloc ?_ _) | (refine Gr.trans ?_ (by assumption)))); done)))
    clear hK K
    try simp only [Act.put, List.setIfInBounds_toArray, List.set_cons_zero, List.set_cons_succ]
    refine take_in (i := 7) (v := ?_) (d := (some 7)) rfl rfl ?_ ?_ ?_ ?_ ?_ ?_ ?_ ?_
    rotate_left
    · kernel_rfl
    · kernel_rfl
    · kernel_rfl
    · (intro _ _ _ hq; exact hq)
    · rfl
    · (intro _w hSw; (try dsimp only at hSw); go_simp; try with_reducible rfl)
    · assumption
    try simp only [Act.put, List.setIfInBounds_toArray, List.set_cons_zero, List.set_cons_succ]
    refine wpAnyH_done ?_ ?_ _
    · kernel_rfl
    rotate_left
    all_goals
      go_wp2_with fail
      go_meet
      exact ⟨g4, c4, rfl, HG4.out, Own_of HBL.out (by rw [HFL.out]; exact HO4.out)⟩
  case rest =>
    obtain ⟨g4, c4, rfl, hg4, hO4⟩ := hcut
    have HP1 := Lib.hid (HO1.out.keep hg4)
    have HP2 := Lib.hid (HO2.out.keep hg4)
    have HP4 := Lib.hid hO4
    have hgw4 := hgw.trans hg4
    clear hgw hg4 hO4 HO1 HO2 KS p0 p1 HFL HSB2
    go_wp2_with fail
    refine (Separate_m (some ⟨g1, 0, none⟩) (some ⟨g4, 0, none⟩) q1 c1 (q2 + 1) c4 xs bs true _ HX.out HBL.out (by omega) (by omega) (by omega) (by omega) HP1.out.pts HP4.out.pts HVX.out HVB.out HK1.out).mono ?_
    rintro e w5 ⟨ux, uy, ud, uu, uv, ut, rfl, -, hb5⟩
    go_wp2_with fail
    generalize hW6 : World.alloc w5 _ = w6
    obtain ⟨hb6, hB6⟩ := box7a hW6
    have HBU := Lib.hid hB6
    have HQ1 := Lib.hid (HP1.out.keep (hb5.trans hb6))
    have HQ2 := Lib.hid (HP2.out.keep (hb5.trans hb6))
    have hgw6 := (hgw4.trans hb5).trans hb6
    clear hW6 hB6 hb6 hb5 HP1 HP2 HP4 HK1 HBL HVB hgw4
    generalize w5.heap.size = U at HBU ⊢
    go_loopw [10, 11] (fun f i wr => ∃ k : Nat, ∃ F : Int, k ≤ q1 ∧ f = .int .i64 F ∧ i = .int .i64 k ∧ (0 ≤ F ∧ F ≤ 4096) ∧ Hid (∀ i, i < k → (xs.getD i (0, 0)).1 ≤ F) ∧ w6 = wr) (fun _ i _ => q1 - (intOf i).toNat)
    case atStart => exact ⟨0, 0, Nat.zero_le _, rfl, rfl, by omega, Lib.hid (fun i h => by omega), rfl⟩
    case round =>
      obtain ⟨k, F, hk, rfl, rfl, hF, hmx, rfl⟩ := hrel
      by_cases hlt : k < q1
      · obtain ⟨⟨d0, d1⟩, -, -⟩ := HQ1.out k (by have := HX.out; omega)
        rw [Nat.zero_add] at d0 d1
        have hck := HXC.out _ (at_mem (ps := xs) (i := k) (by have := HX.out; omega))
        have HMX := Lib.hid (fun G (h1 : F ≤ G) (h2 : (xs.getD k (0, 0)).1 ≤ G) i (hi : i < k + 1) => show (xs.getD i (0, 0)).1 ≤ G by
          rcases Nat.lt_succ_iff_lt_or_eq.1 hi with j | rfl
          · have := hmx.out i j; omega
          · exact h2)
        generalize (xs.getD k (0, 0)).1 = x at d0 hck HMX
        have hcx := hck.1
        unfold Co at hcx
        clear hck d1 hk
        go_wp2_with fail
        go_roundw
        case rel => exact ⟨k + 1, max F x, by omega, rfl, by go_num, by omega, Lib.hid (HMX.out _ (by omega) (by omega)), by trivial⟩
        case measure => simp [intOf]; omega
      · obtain rfl : k = q1 := by omega
        have HAP := Lib.hid (HK2.out F hmx.out)
        clear HK2 hmx hk
        go_wp2_with fail
        obtain ⟨i0, hi, hz0, hz1, hz2⟩ := info_parts Try.info23
        go_loopw [12, 13] (fun v z wr => ∃ j : Nat, j ≤ k ∧ z = .int .i64 j ∧ Hid (wr.ownsRow w6.heap.size 40 2 v j (flat2 ((xs.take j).map (mir F)))) ∧ Hid (Gr w6 wr)) (fun _ z _ => k - (intOf z).toNat)
        case atStart => exact ⟨0, Nat.zero_le _, rfl, Lib.hid (World.ownsRow_nil w6 _ _ _), Lib.hid (Gr.refl _)⟩
        case round =>
          obtain ⟨j, hj, rfl, hown, hg⟩ := hrel
          by_cases hlt2 : j < k
          · have HTK : Hid ((xs.take (j + 1)).map (mir F) = (xs.take j).map (mir F) ++ [mir F (xs.getD j (0, 0))]) := Lib.hid (by
              rw [List.take_add_one, getD_of (0, 0) (by have := HX.out; omega)]; simp)
            obtain ⟨⟨d0, d1⟩, -, -⟩ := (HQ1.out.keep hg.out) j (by have := HX.out; omega)
            rw [Nat.zero_add] at d0 d1
            have hca := HXC.out _ (at_mem (ps := xs) (i := j) (by have := HX.out; omega))
            generalize xs.getD j (0, 0) = a at d0 d1 hca HTK
            obtain ⟨a1, a2⟩ := a
            dsimp only at d0 d1 hca
            unfold Co at hca
            have hsz := hg.out.size
            have e1 : IntKind.i64.wrap (2 * F) = 2 * F := IntWalk.i64_in _ (by omega)
            have e2 : IntKind.i64.wrap (2 * F + 1) = 2 * F + 1 := IntWalk.i64_in _ (by omega)
            have e3 : IntKind.i64.wrap (2 * F + 1 - a1) = 2 * F + 1 - a1 := IntWalk.i64_in _ (by omega)
            go_wp2_with fail
            go_region_law (refine step_append_lies _ (by rfl) (.tmp 60) (.tmp 76) 22 (by rfl) w6.heap.size 40 i0 _ 2 16 Try.underlying22 hi hz0 hz1 hz2 rfl (by decide) u12 j (flat2 ((xs.take j).map (mir F))) (by rfl) (owns_gr hown.out (((Gr.refl _).alloc _).drew)) ⟨wr.heap.size, 0, none⟩ 1 1 [.int .i64 (2 * F + 1 - a1), .int .i64 a2] (by rfl) rfl (World.news_of_block (heap_alloc_new _ _)) (by intro u hu; simp at hu; rcases hu with rfl | rfl <;> rfl) (by decide) (by unfold maxLen; omega) (by omega) (by simp; omega) _ rfl ?_; intro g' cap' w8 hown' hgrow _ _)
            all_goals
              have hgn : Gr w6 w8 := Below.grown (hg.out.trans (((Gr.refl _).alloc _).drew)) hgrow (by simp; omega) (fun t ht => (hown.out.lt t ht).1)
              have hon : w8.ownsRow w6.heap.size 40 2 (.slice (some ⟨g', 0, none⟩) (j + 1) cap') (j + 1) (flat2 ((xs.take (j + 1)).map (mir F))) := by
                rw [HTK.out, flat2_snoc]; exact hown'
              have HGN := Lib.hid hgn
              have HON := Lib.hid hon
              clear hgn hon hown' hgrow
              go_wp2_with fail
              go_roundw
              case rel => exact ⟨j + 1, by omega, by go_num, HON, HGN⟩
              case measure => simp [intOf]; omega
          · have hjk : j = k := by omega
            rw [hjk, List.take_of_length_le (by rw [HX.out]; exact Nat.le_refl _)] at hown
            have hlt' : ¬ ((j : Int) < (k : Int)) := by omega
            have HML : Hid ((xs.map (mir F)).length = k) := Lib.hid (by rw [List.length_map, HX.out])
            obtain ⟨g5, c5, hvv⟩ : ∃ v0 v1, u12 = .slice (some ⟨v0, 0, none⟩) k v1 := by
              rcases hown.out.2 with ⟨_, hz⟩ | ⟨gv, cv, _, hv, _⟩
              · omega
              · exact ⟨gv, cv, hv⟩
            subst hvv
            have HOM : Hid (Own wr g5 0 (xs.map (mir F))) := Lib.hid (Own_of HML.out hown.out)
            generalize xs.map (mir F) = ms at HML HOM HAP
            have HR1 := Lib.hid (HQ1.out.keep hg.out)
            have HR2 := Lib.hid (HQ2.out.keep hg.out)
            have hgW := hgw6.trans hg.out
            have d0 := (HBU.out.keep hg.out).cell 0
            clear hown hg HQ1 HQ2 HBU hgw6
            go_wp2_with fail
            clear d0 hlt'
            rcases hvM : (ms.all fun p => vld p.1 p.2) with _ | _
            · refine (rValids_any (some ⟨g5, 0, none⟩) k c5 ms _ HML.out (by omega) HOM.out.pts _ hvM).mono ?_
              rintro e wi ⟨rfl, hgR⟩
              clear hvM
              go_wp2_with fail
              refine (Hull_yes (some ⟨g1, 0, none⟩) k c1 xs _ HX.out (by omega) (by omega) (HR1.out.keep hgR).pts HVX.out).mono ?_
              rintro e wh ⟨gh, ch, rfl, hch, -, hOh, hbh⟩
              rw [HE1.out] at hOh hch ⊢
              rw [HL1.out] at hch ⊢
              have HOh := Lib.hid hOh
              clear hOh
              go_wp2_with fail
              refine (Hull_yes (some ⟨g2, 0, none⟩) q2 c2 ys _ HY.out (by omega) (by omega) (HR2.out.keep (hgR.trans hbh)).pts HVY.out).mono ?_
              rintro e wk ⟨gk, ck, rfl, hck, -, hOk, hbk⟩
              rw [HE2.out] at hOk hck ⊢
              rw [HL2.out] at hck ⊢
              have HOk := Lib.hid hOk
              clear hOk
              go_wp2_with fail
              refine (rSet_any (some ⟨gh, 0, none⟩) r1 ch H1 _ HL1.out (by omega) (HOh.out.keep hbk).pts true HS1.out).mono ?_
              rintro e wl ⟨rfl, hbl⟩
              go_wp2_with fail
              refine (rSet_any (some ⟨gk, 0, none⟩) r2 ck H2 _ HL2.out (by omega) (HOk.out.keep hbl).pts true HS2.out).mono ?_
              rintro e wm ⟨rfl, hbm⟩
              go_wp2_with fail
              refine (Separate_m (some ⟨g1, 0, none⟩) (some ⟨g2, 0, none⟩) k c1 q2 c2 xs ys m0 _ HX.out HY.out (by omega) (by omega) (by omega) (by omega) (HR1.out.keep ((((hgR.trans hbh).trans hbk).trans hbl).trans hbm)).pts (HR2.out.keep ((((hgR.trans hbh).trans hbk).trans hbl).trans hbm)).pts HVX.out HVY.out HM0.out).mono ?_
              rintro e wn ⟨vx, vy, vd, vu, vv, vt, rfl, -, hbn⟩
              go_wp2_with fail
              generalize hWo : World.alloc wn _ = wo
              obtain ⟨hbo, hBo⟩ := box7a hWo
              have HBo := Lib.hid hBo
              clear hWo hBo
              generalize wn.heap.size = V at HBo ⊢
              refine (Separate_m (some ⟨gh, 0, none⟩) (some ⟨gk, 0, none⟩) r1 ch r2 ck H1 H2 m0 _ HL1.out HL2.out (by omega) (by omega) (by omega) (by omega) (HOh.out.keep ((((hbk.trans hbl).trans hbm).trans hbn).trans hbo)).pts (HOk.out.keep (((hbl.trans hbm).trans hbn).trans hbo)).pts HVH1.out HVH2.out HM1.out).mono ?_
              rintro e wp ⟨tx, ty, td, tu, tv, tt, rfl, -, hbp⟩
              go_upto_region 26 with fail
              generalize hWq : World.alloc wp _ = wq
              obtain ⟨hbq, hBq⟩ := box7a hWq
              have HBq := Lib.hid hBq
              obtain ⟨⟨r0, -, -, -, -, -, -⟩, -⟩ := Blk7 (HBo.out.keep (hbp.trans hbq))
              obtain ⟨⟨s0, -, -, -, -, -, -⟩, -⟩ := Blk7 HBq.out
              clear hWq hBq
              generalize wp.heap.size = X at s0 ⊢
              have hgF : Gr w wq := (((((((((hgW.trans hgR).trans hbh).trans hbk).trans hbl).trans hbm).trans hbn).trans hbo).trans hbp).trans hbq)
              cases m0
              all_goals
                go_wp2_with fail
                refine (awake_any _).mono ?_
                rintro e wz ⟨rfl, hbz⟩
                go_wp2_with fail
                go_ret
                exact ⟨rfl, hgF.trans hbz⟩
            · have HVM := Lib.hid hvM
              clear hvM
              refine (rValids_any (some ⟨g5, 0, none⟩) k c5 ms _ HML.out (by omega) HOM.out.pts _ HVM.out).mono ?_
              rintro e wi ⟨rfl, hgV⟩
              go_wp2_with fail
              refine (Separate_m (some ⟨g1, 0, none⟩) (some ⟨g5, 0, none⟩) k c1 k c5 xs ms false _ HX.out HML.out (by omega) (by omega) (by omega) (by omega) (HR1.out.keep hgV).pts (HOM.out.keep hgV).pts HVX.out HVM.out HAP.out).mono ?_
              rintro e wj ⟨ax, ay, ad, au, av, at_, rfl, -, hbj⟩
              go_upto_region 18 with fail
              generalize hWt : World.alloc wj _ = wt
              obtain ⟨hbt, hBt⟩ := box7a hWt
              obtain ⟨⟨a0, -, -, -, -, -, -⟩, -⟩ := Blk7 hBt
              have hgR := (hgV.trans hbj).trans hbt
              clear hWt hBt hbt hbj hgV
              generalize wj.heap.size = T at a0 ⊢
              go_wp2_with fail
              clear a0
              refine (Hull_yes (some ⟨g1, 0, none⟩) k c1 xs _ HX.out (by omega) (by omega) (HR1.out.keep hgR).pts HVX.out).mono ?_
              rintro e wh ⟨gh, ch, rfl, hch, -, hOh, hbh⟩
              rw [HE1.out] at hOh hch ⊢
              rw [HL1.out] at hch ⊢
              have HOh := Lib.hid hOh
              clear hOh
              go_wp2_with fail
              refine (Hull_yes (some ⟨g2, 0, none⟩) q2 c2 ys _ HY.out (by omega) (by omega) (HR2.out.keep (hgR.trans hbh)).pts HVY.out).mono ?_
              rintro e wk ⟨gk, ck, rfl, hck, -, hOk, hbk⟩
              rw [HE2.out] at hOk hck ⊢
              rw [HL2.out] at hck ⊢
              have HOk := Lib.hid hOk
              clear hOk
              go_wp2_with fail
              refine (rSet_any (some ⟨gh, 0, none⟩) r1 ch H1 _ HL1.out (by omega) (HOh.out.keep hbk).pts true HS1.out).mono ?_
              rintro e wl ⟨rfl, hbl⟩
              go_wp2_with fail
              refine (rSet_any (some ⟨gk, 0, none⟩) r2 ck H2 _ HL2.out (by omega) (HOk.out.keep hbl).pts true HS2.out).mono ?_
              rintro e wm ⟨rfl, hbm⟩
              go_wp2_with fail
              refine (Separate_m (some ⟨g1, 0, none⟩) (some ⟨g2, 0, none⟩) k c1 q2 c2 xs ys m0 _ HX.out HY.out (by omega) (by omega) (by omega) (by omega) (HR1.out.keep ((((hgR.trans hbh).trans hbk).trans hbl).trans hbm)).pts (HR2.out.keep ((((hgR.trans hbh).trans hbk).trans hbl).trans hbm)).pts HVX.out HVY.out HM0.out).mono ?_
              rintro e wn ⟨vx, vy, vd, vu, vv, vt, rfl, -, hbn⟩
              go_wp2_with fail
              generalize hWo : World.alloc wn _ = wo
              obtain ⟨hbo, hBo⟩ := box7a hWo
              have HBo := Lib.hid hBo
              clear hWo hBo
              generalize wn.heap.size = V at HBo ⊢
              refine (Separate_m (some ⟨gh, 0, none⟩) (some ⟨gk, 0, none⟩) r1 ch r2 ck H1 H2 m0 _ HL1.out HL2.out (by omega) (by omega) (by omega) (by omega) (HOh.out.keep ((((hbk.trans hbl).trans hbm).trans hbn).trans hbo)).pts (HOk.out.keep (((hbl.trans hbm).trans hbn).trans hbo)).pts HVH1.out HVH2.out HM1.out).mono ?_
              rintro e wp ⟨tx, ty, td, tu, tv, tt, rfl, -, hbp⟩
              go_upto_region 26 with fail
              generalize hWq : World.alloc wp _ = wq
              obtain ⟨hbq, hBq⟩ := box7a hWq
              have HBq := Lib.hid hBq
              obtain ⟨⟨r0, -, -, -, -, -, -⟩, -⟩ := Blk7 (HBo.out.keep (hbp.trans hbq))
              obtain ⟨⟨s0, -, -, -, -, -, -⟩, -⟩ := Blk7 HBq.out
              clear hWq hBq
              generalize wp.heap.size = X at s0 ⊢
              have hgF : Gr w wq := (((((((((hgW.trans hgR).trans hbh).trans hbk).trans hbl).trans hbm).trans hbn).trans hbo).trans hbp).trans hbq)
              cases m0
              all_goals
                go_wp2_with fail
                refine (awake_any _).mono ?_
                rintro e wz ⟨rfl, hbz⟩
                go_wp2_with fail
                go_ret
                exact ⟨rfl, hgF.trans hbz⟩

end Go.Proofs.Ytjkdjfagaakijaa
