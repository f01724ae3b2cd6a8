/- The law PlaneSeparates as a walk. -/
import Derived.Test.YtjkdjfagaakijaaRRightL
import Derived.Test.YtjkdjfagaakijaaCheck
import Derived.Test.YtjkdjfagaakijaaRSet
import Derived.Test.YtjkdjfagaakijaaRMeets
import Derived.Test.YtjkdjfagaakijaaSepAny
namespace Go.Proofs.Ytjkdjfagaakijaa
open Go.RowKit
set_option linter.unusedSimpArgs false

set_option maxRecDepth 100000 in
set_option maxHeartbeats 8000000 in
theorem lawSeparates_any (A : Option Addr) (n c : Nat) (ps : List (Int × Int)) (B : Option Addr) (n' c' : Nat) (qs : List (Int × Int)) (w : World) (hn : ps.length = n) (hl : n ≤ 8796093022208) (hc : n ≤ c) (h0 : A = none → c = 0) (hp : Pts w A ps) (hn' : qs.length = n') (hl' : n' ≤ 8796093022208) (hc' : n' ≤ c') (h0' : B = none → c' = 0) (hp' : Pts w B qs) :
    Calls Try.prog 5 #[.slice A n c, .slice B n' c'] w fun e w' => e = .returned (.bool true) ∧ Gr w w' := by
  have HS := Lib.hid (fun W (hW : Gr w W) => some_any A n c 60 ps W hn hl hc h0 (by omega) (hp.keep hW))
  have HS' := Lib.hid (fun W (hW : Gr w W) => some_any B n' c' 60 qs W hn' hl' hc' h0' (by omega) (hp'.keep hW))
  have hql1 := take_len hn (m := 60)
  have hql2 := take_len hn' (m := 60)
  generalize ps.take (someN n 60) = l1 at HS hql1
  generalize qs.take (someN n' 60) = l2 at HS' hql2
  obtain ⟨q1, hq1e⟩ : ∃ q, l1.length = q := ⟨_, rfl⟩
  obtain ⟨q2, hq2e⟩ : ∃ q, l2.length = q := ⟨_, rfl⟩
  rw [hq1e] at hql1
  rw [hq2e] at hql2
  have HQ1 := Lib.hid hq1e
  have HQ2 := Lib.hid hq2e
  clear hn hl hc h0 hp hn' hl' hc' h0' hp'
  obtain ⟨s1, hs1⟩ : ∃ s, (decide (1 ≤ q1 ∧ q1 ≤ 512) && l1.all fun p => vld p.1 p.2) = s := ⟨_, rfl⟩
  obtain ⟨s2, hs2⟩ : ∃ s, (decide (1 ≤ q2 ∧ q2 ≤ 512) && l2.all fun p => vld p.1 p.2) = s := ⟨_, rfl⟩
  have H1 := Lib.hid hs1
  have H2 := Lib.hid hs2
  rcases hb : (s1 && s2) with _ | _
  · have HB : Hid (((decide (1 ≤ q1 ∧ q1 ≤ 512) && l1.all fun p => vld p.1 p.2) && (decide (1 ≤ q2 ∧ q2 ≤ 512) && l2.all fun p => vld p.1 p.2)) = false) := Lib.hid (by rw [hs1, hs2]; exact hb)
    clear hs1 hs2 hq1e hq2e
    go_enter Try.func5, Try.ntmps5
    go_wp2_with fail
    refine (HS.out _ (Gr.refl _)).mono ?_
    rintro e w1 ⟨A1, c1, rfl, hc1, hP, hg1⟩
    have HP1 := Lib.hid hP
    rw [HQ1.out] at hc1 ⊢
    clear hP
    go_wp2_with fail
    refine (HS'.out _ hg1).mono ?_
    rintro e w2 ⟨A2, c2, rfl, hc2, hP', hg2⟩
    have HP2 := Lib.hid hP'
    rw [HQ2.out] at hc2 ⊢
    clear hP'
    go_wp2_with fail
    refine (Separate_no A1 A2 q1 c1 q2 c2 l1 l2 _ HQ1.out HQ2.out (by omega) (by omega) (HP1.out.keep hg2) HP2.out HB.out).mono ?_
    rintro e w3 ⟨rfl, hg3⟩
    simp only [apartV]
    go_wp2_with fail
    generalize hW : World.alloc w3 _ = W
    obtain ⟨hgW, hBk⟩ := box7 hW
    have HBK := Lib.hid hBk
    clear hW hBk
    generalize w3.heap.size = U at HBK ⊢
    refine (rSet_any A1 q1 c1 l1 _ HQ1.out (by omega) (HP1.out.keep ((hg2.trans hg3).trans hgW)) _ H1.out).mono ?_
    rintro e w4 ⟨rfl, hg4⟩
    cases s1 with
    | false =>
      obtain ⟨⟨r0, r1, r2, r3, r4, r5, r6⟩, -⟩ := Blk7 (HBK.out.keep hg4)
      go_wp2_with fail
      refine (Check_no A1 A2 q1 c1 q2 c2 l1 l2 false 0 0 0 0 0 0 _ HQ1.out HQ2.out (by omega) (by omega) (HP1.out.keep (((hg2.trans hg3).trans hgW).trans hg4)) (HP2.out.keep ((hg3.trans hgW).trans hg4)) HB.out).mono ?_
      rintro e w5 ⟨rfl, hg5⟩
      clear r0 r1 r2 r3 r4 r5 r6
      go_wp2_with fail
      refine (awake_any _).mono ?_
      rintro e w6 ⟨rfl, hg6⟩
      go_wp2_with fail
      go_ret
      exact ⟨rfl, (((((hg1.trans hg2).trans hg3).trans hgW).trans hg4).trans hg5).trans hg6⟩
    | true =>
      have HF : Hid ((decide (1 ≤ q2 ∧ q2 ≤ 512) && l2.all fun p => vld p.1 p.2) = false) := Lib.hid (by rw [H2.out]; simpa using hb)
      go_wp2_with fail
      refine (rSet_any A2 q2 c2 l2 _ HQ2.out (by omega) (HP2.out.keep ((hg3.trans hgW).trans hg4)) false HF.out).mono ?_
      rintro e w5 ⟨rfl, hg5⟩
      obtain ⟨⟨r0, r1, r2, r3, r4, r5, r6⟩, -⟩ := Blk7 (HBK.out.keep (hg4.trans hg5))
      go_wp2_with fail
      refine (Check_no A1 A2 q1 c1 q2 c2 l1 l2 false 0 0 0 0 0 0 _ HQ1.out HQ2.out (by omega) (by omega) (HP1.out.keep ((((hg2.trans hg3).trans hgW).trans hg4).trans hg5)) (HP2.out.keep (((hg3.trans hgW).trans hg4).trans hg5)) HB.out).mono ?_
      rintro e w6 ⟨rfl, hg6⟩
      clear r0 r1 r2 r3 r4 r5 r6
      go_wp2_with fail
      refine (awake_any _).mono ?_
      rintro e w7 ⟨rfl, hg7⟩
      go_wp2_with fail
      go_ret
      exact ⟨rfl, ((((((hg1.trans hg2).trans hg3).trans hgW).trans hg4).trans hg5).trans hg6).trans hg7⟩
  · obtain ⟨rfl, rfl⟩ : s1 = true ∧ s2 = true := by simpa using hb
    have hv1 : (1 ≤ q1 ∧ q1 ≤ 512) ∧ (l1.all fun p => vld p.1 p.2) = true := by
      rw [Bool.and_eq_true, decide_eq_true_eq] at hs1; exact hs1
    have hv2 : (1 ≤ q2 ∧ q2 ≤ 512) ∧ (l2.all fun p => vld p.1 p.2) = true := by
      rw [Bool.and_eq_true, decide_eq_true_eq] at hs2; exact hs2
    have HA1 := Lib.hid hv1.2
    have HA2 := Lib.hid hv2.2
    obtain ⟨hq1, -⟩ := hv1
    obtain ⟨hq2, -⟩ := hv2
    have hq1l : 1 ≤ l1.length := by omega
    have hq2l : 1 ≤ l2.length := by omega
    have hCA := cornersL_co (Cos_of HA1.out)
    have hCB := cornersL_co (Cos_of HA2.out)
    have HRI := Lib.hid (sep_right hq1l hq2l hCA hCB)
    have HMT := Lib.hid (meets_sep hq1l hq2l hCA hCB)
    have HRC := Lib.hid (fun t => right_check hq1l hq2l t)
    clear hb hs1 hs2 hq1e hq2e hCA hCB
    obtain ⟨m0, hm0⟩ : ∃ m, (sepT (cornersL l1) (cornersL l2)).m = m := ⟨_, rfl⟩
    have HM0 := Lib.hid hm0
    clear hm0
    go_enter Try.func5, Try.ntmps5
    go_wp2_with fail
    refine (HS.out _ (Gr.refl _)).mono ?_
    rintro e w1 ⟨A1, c1, rfl, hc1, hP, hg1⟩
    have HP1 := Lib.hid hP
    rw [HQ1.out] at hc1 ⊢
    clear hP
    go_wp2_with fail
    refine (HS'.out _ hg1).mono ?_
    rintro e w2 ⟨A2, c2, rfl, hc2, hP', hg2⟩
    have HP2 := Lib.hid hP'
    rw [HQ2.out] at hc2 ⊢
    clear hP'
    go_wp2_with fail
    refine (Separate_m A1 A2 q1 c1 q2 c2 l1 l2 m0 _ HQ1.out HQ2.out hq1.1 hq2.1 hq1.2 hq2.2 (HP1.out.keep hg2) HP2.out HA1.out HA2.out HM0.out).mono ?_
    rintro e w3 ⟨ux, uy, ud, uu, uv, ut, rfl, hT, hg3⟩
    have HCH : Hid (checkL (cornersL l1) (cornersL l2) ⟨m0, ux, uy, ud, uu, uv, ut⟩ = true) := Lib.hid (by rw [← hT]; exact HRI.out)
    have HRT : Hid (rightL l1 l2 ⟨m0, ux, uy, ud, uu, uv, ut⟩ = true) := Lib.hid (by rw [HRC.out]; exact HCH.out)
    have HKK : Hid ((if checkL (cornersL l1) (cornersL l2) ⟨m0, ux, uy, ud, uu, uv, ut⟩ = true then (0 : Int) else 10) = 0) := Lib.hid (by rw [HCH.out]; rfl)
    have HMM : Hid (meetsL (cornersL l1) (cornersL l2) = m0) := Lib.hid (by rw [HMT.out, HM0.out])
    clear hT
    go_wp2_with fail
    generalize hW : World.alloc w3 _ = W
    obtain ⟨hgW, hBk⟩ := box7 hW
    have HBK := Lib.hid hBk
    clear hW hBk
    generalize w3.heap.size = U at HBK ⊢
    refine (rSet_any A1 q1 c1 l1 _ HQ1.out (by omega) (HP1.out.keep ((hg2.trans hg3).trans hgW)) true H1.out).mono ?_
    rintro e w4 ⟨rfl, hg4⟩
    go_wp2_with fail
    refine (rSet_any A2 q2 c2 l2 _ HQ2.out (by omega) (HP2.out.keep ((hg3.trans hgW).trans hg4)) true H2.out).mono ?_
    rintro e w5 ⟨rfl, hg5⟩
    obtain ⟨⟨r0, r1, r2, r3, r4, r5, r6⟩, -⟩ := Blk7 (HBK.out.keep (hg4.trans hg5))
    have HR1 := Lib.hid (HP1.out.keep ((((hg2.trans hg3).trans hgW).trans hg4).trans hg5))
    have HR2 := Lib.hid (HP2.out.keep (((hg3.trans hgW).trans hg4).trans hg5))
    have hgw5 := ((((hg1.trans hg2).trans hg3).trans hgW).trans hg4).trans hg5
    have HCR : Hid (∀ W, Gr w5 W → Calls Try.prog 19 #[.slice A1 q1 c1, .slice A2 q2 c2, .agg #[.bool m0, .int .i64 ux, .int .i64 uy, .int .i64 ud, .int .i64 uu, .int .i64 uv, .int .i64 ut]] W fun e w' => e = .returned (.bool true) ∧ Gr W w') := Lib.hid (fun W hW =>
      (rRight_any A1 A2 q1 c1 q2 c2 l1 l2 m0 ux uy ud uu uv ut W HQ1.out HQ2.out hq1.1 hq2.1 hq1.2 hq2.2 (HR1.out.keep hW) (HR2.out.keep hW) (Cos_of HA1.out) (Cos_of HA2.out)).mono fun e w' h => by rw [HRT.out] at h; exact h)
    have HCM : Hid (∀ W, Gr w5 W → Calls Try.prog 20 #[.slice A1 q1 c1, .slice A2 q2 c2] W fun e w' => e = .returned (.bool m0) ∧ Gr W w') := Lib.hid (fun W hW =>
      (rMeets_any A1 A2 q1 c1 q2 c2 l1 l2 W HQ1.out HQ2.out hq1.1 hq2.1 hq1.2 hq2.2 (HR1.out.keep hW) (HR2.out.keep hW) (Cos_of HA1.out) (Cos_of HA2.out)).mono fun e w' h => by rw [HMM.out] at h; exact h)
    have HCK : Hid (∀ W, Gr w5 W → Calls Try.prog 18 #[.slice A1 q1 c1, .slice A2 q2 c2, .agg #[.bool m0, .int .i64 ux, .int .i64 uy, .int .i64 ud, .int .i64 uu, .int .i64 uv, .int .i64 ut]] W fun e w' => e = .returned (.int .i64 0) ∧ Gr W w') := Lib.hid (fun W hW =>
      (Check_yes A1 A2 q1 c1 q2 c2 l1 l2 m0 ux uy ud uu uv ut W HQ1.out HQ2.out hq1.1 hq2.1 hq1.2 hq2.2 (HR1.out.keep hW) (HR2.out.keep hW) HA1.out HA2.out).mono fun e w' h => by rw [HKK.out] at h; exact h)
    have KS : Hid (∀ W', Gr w5 W' → (Gr w5 W' ∧ W'.cell? ⟨U, 0, none⟩ = some (.bool m0) ∧ W'.cell? ⟨U, 1, none⟩ = some (.int .i64 ux) ∧ W'.cell? ⟨U, 2, none⟩ = some (.int .i64 uy) ∧ W'.cell? ⟨U, 3, none⟩ = some (.int .i64 ud) ∧ W'.cell? ⟨U, 4, none⟩ = some (.int .i64 uu) ∧ W'.cell? ⟨U, 5, none⟩ = some (.int .i64 uv) ∧ W'.cell? ⟨U, 6, none⟩ = some (.int .i64 ut))) :=
      Lib.hid (fun W' h => ⟨h, h.keep r0, h.keep r1, h.keep r2, h.keep r3, h.keep r4, h.keep r5, h.keep r6⟩)
    have hme : (m0 == m0) = true := by cases m0 <;> rfl
    clear hg1 hg2 hg3 hgW hg4 hg5 HP1 HP2 HS HS' HQ1 HQ2 H1 H2 HA1 HA2 HRI HMT HRC HM0 HCH HRT HKK HMM HBK HR1 HR2
    go_upto_region 5 with fail
    refine wp_region_held_drew (S := (fun W' => Gr w5 W' ∧ W'.cell? ⟨U, 0, none⟩ = some (.bool m0) ∧ W'.cell? ⟨U, 1, none⟩ = some (.int .i64 ux) ∧ W'.cell? ⟨U, 2, none⟩ = some (.int .i64 uy) ∧ W'.cell? ⟨U, 3, none⟩ = some (.int .i64 ud) ∧ W'.cell? ⟨U, 4, none⟩ = some (.int .i64 uu) ∧ W'.cell? ⟨U, 5, none⟩ = some (.int .i64 uv) ∧ W'.cell? ⟨U, 6, none⟩ = some (.int .i64 ut))) ?_ ?_ (fun hHeld => ?_)
    · kernel_rfl
    · ((try dsimp only); (refine KS.out _ ?_; (repeat (first | exact Gr.refl _ | exact hHeld.1 | (refine Gr.drew ?_) | (refine Gr.trans ?_ (by assumption)))); done))
    refine take_in (i := 0) (v := ?_) (d := (some 44)) rfl rfl ?_ ?_ ?_ ?_ ?_ ?_ ?_ ?_
    rotate_left
    · kernel_rfl
    · kernel_rfl
    · kernel_rfl
    · (intro _ _ _ hq; exact hq)
    · rfl
    · (intro _w hSw; (try dsimp only at hSw); go_simp; try with_reducible rfl)
    · assumption
    try simp only [Act.put, List.setIfInBounds_toArray, List.set_cons_zero, List.set_cons_succ]
    refine take_in (i := 1) (v := ?_) (d := (some 45)) rfl rfl ?_ ?_ ?_ ?_ ?_ ?_ ?_ ?_
    rotate_left
    · kernel_rfl
    · kernel_rfl
    · kernel_rfl
    · (intro _ _ _ hq; exact hq)
    · rfl
    · (intro _w hSw; (try dsimp only at hSw); go_simp; try with_reducible rfl)
    · assumption
    try simp only [Act.put, List.setIfInBounds_toArray, List.set_cons_zero, List.set_cons_succ]
    refine take_in (i := 2) (v := ?_) (d := (some 46)) rfl rfl ?_ ?_ ?_ ?_ ?_ ?_ ?_ ?_
    rotate_left
    · kernel_rfl
    · kernel_rfl
    · kernel_rfl
    · (intro _ _ _ hq; exact hq)
    · rfl
    · (intro _w hSw; (try dsimp only at hSw); go_simp; try with_reducible rfl)
    · assumption
    try simp only [Act.put, List.setIfInBounds_toArray, List.set_cons_zero, List.set_cons_succ]
    refine take_in (i := 3) (v := ?_) (d := (some 47)) rfl rfl ?_ ?_ ?_ ?_ ?_ ?_ ?_ ?_
    rotate_left
    · kernel_rfl
    · kernel_rfl
    · kernel_rfl
    · (intro _ _ _ hq; exact hq)
    · rfl
    · (intro _w hSw; (try dsimp only at hSw); go_simp; try with_reducible rfl)
    · assumption
    try simp only [Act.put, List.setIfInBounds_toArray, List.set_cons_zero, List.set_cons_succ]
    refine take_in (i := 4) (v := ?_) (d := (some 48)) rfl rfl ?_ ?_ ?_ ?_ ?_ ?_ ?_ ?_
    rotate_left
    · kernel_rfl
    · kernel_rfl
    · kernel_rfl
    · (intro _ _ _ hq; exact hq)
    · rfl
    · (intro _w hSw; (try dsimp only at hSw); go_simp; try with_reducible rfl)
    · assumption
    try simp only [Act.put, List.setIfInBounds_toArray, List.set_cons_zero, List.set_cons_succ]
    refine take_in (i := 5) (v := ?_) (d := (some 49)) rfl rfl ?_ ?_ ?_ ?_ ?_ ?_ ?_ ?_
    rotate_left
    · kernel_rfl
    · kernel_rfl
    · kernel_rfl
    · (intro _ _ _ hq; exact hq)
    · rfl
    · (intro _w hSw; (try dsimp only at hSw); go_simp; try with_reducible rfl)
    · assumption
    try simp only [Act.put, List.setIfInBounds_toArray, List.set_cons_zero, List.set_cons_succ]
    refine wpAnyH_ready (rs := [6]) ?_ ?_ ?_
    · kernel_rfl
    · simp
    refine (AllReadyH.cons rfl (fun K hK => ?_) AllReadyH.nil)
    go_simp
    first | (go_at_call 19; (with_reducible refine (HCR.out _ (by (repeat (first | exact Gr.refl _ | assumption | (refine Gr.drew ?_) | (refine Gr.drewN ?_ _) | (refine Gr.alloc ?_ _) | (refine Gr.trans ?_ (by assumption)))))).mono ?_); rintro e w6 ⟨rfl, hg6⟩) | (go_at_call 20; (with_reducible refine (HCM.out _ (by (repeat (first | exact Gr.refl _ | assumption | (refine Gr.drew ?_) | (refine Gr.drewN ?_ _) | (refine Gr.alloc ?_ _) | (refine Gr.trans ?_ (by assumption)))))).mono ?_); rintro e w7 ⟨rfl, hg7⟩) | (go_at_call 18; (with_reducible refine (HCK.out _ (by (repeat (first | exact Gr.refl _ | assumption | (refine Gr.drew ?_) | (refine Gr.drewN ?_ _) | (refine Gr.alloc ?_ _) | (refine Gr.trans ?_ (by assumption)))))).mono ?_); rintro e w8 ⟨rfl, hg8⟩) | (go_at_call 14; (with_reducible refine (awake_any _).mono ?_); rintro e w9 ⟨rfl, hg9⟩)
    refine hK.out _ _ ?_ (fun hHeld => ?_)
    · ((try dsimp only); (refine KS.out _ ?_; (repeat (first | exact Gr.refl _ | exact hHeld.1 | (refine Gr.drew ?_) | (refine Gr.trans ?_ (by assumption)))); done))
    clear hK K
    try simp only [Act.put, List.setIfInBounds_toArray, List.set_cons_zero, List.set_cons_succ]
    refine take_in (i := 7) (v := ?_) (d := (some 51)) rfl rfl ?_ ?_ ?_ ?_ ?_ ?_ ?_ ?_
    rotate_left
    · kernel_rfl
    · kernel_rfl
    · kernel_rfl
    · (intro _ _ _ hq; exact hq)
    · rfl
    · (intro _w hSw; (try dsimp only at hSw); go_simp; try with_reducible rfl)
    · assumption
    try simp only [Act.put, List.setIfInBounds_toArray, List.set_cons_zero, List.set_cons_succ]
    refine take_in (i := 8) (v := ?_) (d := (some 52)) rfl rfl ?_ ?_ ?_ ?_ ?_ ?_ ?_ ?_
    rotate_left
    · kernel_rfl
    · kernel_rfl
    · kernel_rfl
    · (intro _ _ _ hq; exact hq)
    · rfl
    · (intro _w hSw; (try dsimp only at hSw); go_simp; try with_reducible rfl)
    · assumption
    try simp only [Act.put, List.setIfInBounds_toArray, List.set_cons_zero, List.set_cons_succ]
    refine take_in (i := 9) (v := ?_) (d := (some 53)) rfl rfl ?_ ?_ ?_ ?_ ?_ ?_ ?_ ?_
    rotate_left
    · kernel_rfl
    · kernel_rfl
    · kernel_rfl
    · (intro _ _ _ hq; exact hq)
    · rfl
    · (intro _w hSw; (try dsimp only at hSw); go_simp; try with_reducible rfl)
    · assumption
    try simp only [Act.put, List.setIfInBounds_toArray, List.set_cons_zero, List.set_cons_succ]
    refine take_in (i := 10) (v := ?_) (d := (some 54)) rfl rfl ?_ ?_ ?_ ?_ ?_ ?_ ?_ ?_
    rotate_left
    · kernel_rfl
    · kernel_rfl
    · kernel_rfl
    · (intro _ _ _ hq; exact hq)
    · rfl
    · (intro _w hSw; (try dsimp only at hSw); go_simp; try with_reducible rfl)
    · assumption
    try simp only [Act.put, List.setIfInBounds_toArray, List.set_cons_zero, List.set_cons_succ]
    refine take_in (i := 11) (v := ?_) (d := (some 55)) rfl rfl ?_ ?_ ?_ ?_ ?_ ?_ ?_ ?_
    rotate_left
    · kernel_rfl
    · kernel_rfl
    · kernel_rfl
    · (intro _ _ _ hq; exact hq)
    · rfl
    · (intro _w hSw; (try dsimp only at hSw); go_simp; try with_reducible rfl)
    · assumption
    try simp only [Act.put, List.setIfInBounds_toArray, List.set_cons_zero, List.set_cons_succ]
    refine take_in (i := 12) (v := ?_) (d := (some 56)) rfl rfl ?_ ?_ ?_ ?_ ?_ ?_ ?_ ?_
    rotate_left
    · kernel_rfl
    · kernel_rfl
    · kernel_rfl
    · (intro _ _ _ hq; exact hq)
    · rfl
    · (intro _w hSw; (try dsimp only at hSw); go_simp; try with_reducible rfl)
    · assumption
    try simp only [Act.put, List.setIfInBounds_toArray, List.set_cons_zero, List.set_cons_succ]
    refine wpAnyH_ready (rs := [13]) ?_ ?_ ?_
    · kernel_rfl
    · simp
    refine (AllReadyH.cons rfl (fun K hK => ?_) AllReadyH.nil)
    go_simp
    first | (go_at_call 19; (with_reducible refine (HCR.out _ (by (repeat (first | exact Gr.refl _ | assumption | (refine Gr.drew ?_) | (refine Gr.drewN ?_ _) | (refine Gr.alloc ?_ _) | (refine Gr.trans ?_ (by assumption)))))).mono ?_); rintro e w6 ⟨rfl, hg6⟩) | (go_at_call 20; (with_reducible refine (HCM.out _ (by (repeat (first | exact Gr.refl _ | assumption | (refine Gr.drew ?_) | (refine Gr.drewN ?_ _) | (refine Gr.alloc ?_ _) | (refine Gr.trans ?_ (by assumption)))))).mono ?_); rintro e w7 ⟨rfl, hg7⟩) | (go_at_call 18; (with_reducible refine (HCK.out _ (by (repeat (first | exact Gr.refl _ | assumption | (refine Gr.drew ?_) | (refine Gr.drewN ?_ _) | (refine Gr.alloc ?_ _) | (refine Gr.trans ?_ (by assumption)))))).mono ?_); rintro e w8 ⟨rfl, hg8⟩) | (go_at_call 14; (with_reducible refine (awake_any _).mono ?_); rintro e w9 ⟨rfl, hg9⟩)
    refine hK.out _ _ ?_ (fun hHeld => ?_)
    · ((try dsimp only); (refine KS.out _ ?_; (repeat (first | exact Gr.refl _ | exact hHeld.1 | (refine Gr.drew ?_) | (refine Gr.trans ?_ (by assumption)))); done))
    clear hK K
    try simp only [Act.put, List.setIfInBounds_toArray, List.set_cons_zero, List.set_cons_succ]
    refine take_in (i := 14) (v := ?_) (d := (some 58)) rfl rfl ?_ ?_ ?_ ?_ ?_ ?_ ?_ ?_
    rotate_left
    · kernel_rfl
    · kernel_rfl
    · kernel_rfl
    · (intro _ _ _ hq; exact hq)
    · rfl
    · (intro _w hSw; (try dsimp only at hSw); go_simp; try with_reducible rfl)
    · assumption
    try simp only [Act.put, List.setIfInBounds_toArray, List.set_cons_zero, List.set_cons_succ]
    refine take_in (i := 15) (v := ?_) (d := (some 59)) rfl rfl ?_ ?_ ?_ ?_ ?_ ?_ ?_ ?_
    rotate_left
    · kernel_rfl
    · kernel_rfl
    · kernel_rfl
    · (intro _ _ _ hq; exact hq)
    · rfl
    · (intro _w hSw; (try dsimp only at hSw); go_simp; try with_reducible rfl)
    · assumption
    try simp only [Act.put, List.setIfInBounds_toArray, List.set_cons_zero, List.set_cons_succ]
    refine take_in (i := 16) (v := ?_) (d := (some 60)) rfl rfl ?_ ?_ ?_ ?_ ?_ ?_ ?_ ?_
    rotate_left
    · kernel_rfl
    · kernel_rfl
    · kernel_rfl
    · (intro _ _ _ hq; exact hq)
    · rfl
    · (intro _w hSw; (try dsimp only at hSw); go_simp; try with_reducible rfl)
    · assumption
    try simp only [Act.put, List.setIfInBounds_toArray, List.set_cons_zero, List.set_cons_succ]
    refine take_in (i := 17) (v := ?_) (d := (some 61)) rfl rfl ?_ ?_ ?_ ?_ ?_ ?_ ?_ ?_
    rotate_left
    · kernel_rfl
    · kernel_rfl
    · kernel_rfl
    · (intro _ _ _ hq; exact hq)
    · rfl
    · (intro _w hSw; (try dsimp only at hSw); go_simp; try with_reducible rfl)
    · assumption
    try simp only [Act.put, List.setIfInBounds_toArray, List.set_cons_zero, List.set_cons_succ]
    refine take_in (i := 18) (v := ?_) (d := (some 62)) rfl rfl ?_ ?_ ?_ ?_ ?_ ?_ ?_ ?_
    rotate_left
    · kernel_rfl
    · kernel_rfl
    · kernel_rfl
    · (intro _ _ _ hq; exact hq)
    · rfl
    · (intro _w hSw; (try dsimp only at hSw); go_simp; try with_reducible rfl)
    · assumption
    try simp only [Act.put, List.setIfInBounds_toArray, List.set_cons_zero, List.set_cons_succ]
    refine take_in (i := 19) (v := ?_) (d := (some 63)) rfl rfl ?_ ?_ ?_ ?_ ?_ ?_ ?_ ?_
    rotate_left
    · kernel_rfl
    · kernel_rfl
    · kernel_rfl
    · (intro _ _ _ hq; exact hq)
    · rfl
    · (intro _w hSw; (try dsimp only at hSw); go_simp; try with_reducible rfl)
    · assumption
    try simp only [Act.put, List.setIfInBounds_toArray, List.set_cons_zero, List.set_cons_succ]
    refine wpAnyH_ready (rs := [20]) ?_ ?_ ?_
    · kernel_rfl
    · simp
    refine (AllReadyH.cons rfl (fun K hK => ?_) AllReadyH.nil)
    go_simp
    first | (go_at_call 19; (with_reducible refine (HCR.out _ (by (repeat (first | exact Gr.refl _ | assumption | (refine Gr.drew ?_) | (refine Gr.drewN ?_ _) | (refine Gr.alloc ?_ _) | (refine Gr.trans ?_ (by assumption)))))).mono ?_); rintro e w6 ⟨rfl, hg6⟩) | (go_at_call 20; (with_reducible refine (HCM.out _ (by (repeat (first | exact Gr.refl _ | assumption | (refine Gr.drew ?_) | (refine Gr.drewN ?_ _) | (refine Gr.alloc ?_ _) | (refine Gr.trans ?_ (by assumption)))))).mono ?_); rintro e w7 ⟨rfl, hg7⟩) | (go_at_call 18; (with_reducible refine (HCK.out _ (by (repeat (first | exact Gr.refl _ | assumption | (refine Gr.drew ?_) | (refine Gr.drewN ?_ _) | (refine Gr.alloc ?_ _) | (refine Gr.trans ?_ (by assumption)))))).mono ?_); rintro e w8 ⟨rfl, hg8⟩) | (go_at_call 14; (with_reducible refine (awake_any _).mono ?_); rintro e w9 ⟨rfl, hg9⟩)
    refine hK.out _ _ ?_ (fun hHeld => ?_)
    · ((try dsimp only); (refine KS.out _ ?_; (repeat (first | exact Gr.refl _ | exact hHeld.1 | (refine Gr.drew ?_) | (refine Gr.trans ?_ (by assumption)))); done))
    clear hK K
    try simp only [Act.put, List.setIfInBounds_toArray, List.set_cons_zero, List.set_cons_succ]
    refine take_in (i := 21) (v := ?_) (d := (some 65)) rfl rfl ?_ ?_ ?_ ?_ ?_ ?_ ?_ ?_
    rotate_left
    · kernel_rfl
    · kernel_rfl
    · kernel_rfl
    · (intro _ _ _ hq; exact hq)
    · rfl
    · (intro _w hSw; (try dsimp only at hSw); go_simp; try with_reducible rfl)
    · assumption
    try simp only [Act.put, List.setIfInBounds_toArray, List.set_cons_zero, List.set_cons_succ]
    refine take_in (i := 22) (v := ?_) (d := (some 66)) rfl rfl ?_ ?_ ?_ ?_ ?_ ?_ ?_ ?_
    rotate_left
    · kernel_rfl
    · kernel_rfl
    · kernel_rfl
    · (intro _ _ _ hq; exact hq)
    · rfl
    · (intro _w hSw; (try dsimp only at hSw); go_simp; try with_reducible rfl)
    · assumption
    try simp only [Act.put, List.setIfInBounds_toArray, List.set_cons_zero, List.set_cons_succ]
    refine take_in (i := 23) (v := ?_) (d := (some 67)) rfl rfl ?_ ?_ ?_ ?_ ?_ ?_ ?_ ?_
    rotate_left
    · kernel_rfl
    · kernel_rfl
    · kernel_rfl
    · (intro _ _ _ hq; exact hq)
    · rfl
    · (intro _w hSw; (try dsimp only at hSw); go_simp; try with_reducible rfl)
    · assumption
    try simp only [Act.put, List.setIfInBounds_toArray, List.set_cons_zero, List.set_cons_succ]
    refine wpAnyH_ready (rs := [24]) ?_ ?_ ?_
    · kernel_rfl
    · simp
    refine (AllReadyH.cons rfl (fun K hK => ?_) AllReadyH.nil)
    go_simp
    first | (go_at_call 19; (with_reducible refine (HCR.out _ (by (repeat (first | exact Gr.refl _ | assumption | (refine Gr.drew ?_) | (refine Gr.drewN ?_ _) | (refine Gr.alloc ?_ _) | (refine Gr.trans ?_ (by assumption)))))).mono ?_); rintro e w6 ⟨rfl, hg6⟩) | (go_at_call 20; (with_reducible refine (HCM.out _ (by (repeat (first | exact Gr.refl _ | assumption | (refine Gr.drew ?_) | (refine Gr.drewN ?_ _) | (refine Gr.alloc ?_ _) | (refine Gr.trans ?_ (by assumption)))))).mono ?_); rintro e w7 ⟨rfl, hg7⟩) | (go_at_call 18; (with_reducible refine (HCK.out _ (by (repeat (first | exact Gr.refl _ | assumption | (refine Gr.drew ?_) | (refine Gr.drewN ?_ _) | (refine Gr.alloc ?_ _) | (refine Gr.trans ?_ (by assumption)))))).mono ?_); rintro e w8 ⟨rfl, hg8⟩) | (go_at_call 14; (with_reducible refine (awake_any _).mono ?_); rintro e w9 ⟨rfl, hg9⟩)
    refine hK.out _ _ ?_ (fun hHeld => ?_)
    · ((try dsimp only); (refine KS.out _ ?_; (repeat (first | exact Gr.refl _ | exact hHeld.1 | (refine Gr.drew ?_) | (refine Gr.trans ?_ (by assumption)))); done))
    clear hK K
    try simp only [Act.put, List.setIfInBounds_toArray, List.set_cons_zero, List.set_cons_succ]
    refine take_in (i := 25) (v := ?_) (d := (some 69)) rfl rfl ?_ ?_ ?_ ?_ ?_ ?_ ?_ ?_
    rotate_left
    · kernel_rfl
    · kernel_rfl
    · kernel_rfl
    · (intro _ _ _ hq; exact hq)
    · rfl
    · (intro _w hSw; (try dsimp only at hSw); go_simp; try with_reducible rfl)
    · assumption
    try simp only [Act.put, List.setIfInBounds_toArray, List.set_cons_zero, List.set_cons_succ]
    refine take_in (i := 26) (v := ?_) (d := (some 4)) rfl rfl ?_ ?_ ?_ ?_ ?_ ?_ ?_ ?_
    rotate_left
    · kernel_rfl
    · kernel_rfl
    · kernel_rfl
    · (intro _ _ _ hq; exact hq)
    · rfl
    · (intro _w hSw; (try dsimp only at hSw); go_simp; try with_reducible rfl)
    · assumption
    try simp only [Act.put, List.setIfInBounds_toArray, List.set_cons_zero, List.set_cons_succ]
    refine wpAnyH_done ?_ ?_ _
    · kernel_rfl
    rotate_left
    all_goals
      go_wp2_with fail
      go_ret
      exact ⟨rfl, hgw5.trans (by (repeat (first | exact Gr.refl _ | assumption | (refine Gr.drew ?_) | (refine Gr.drewN ?_ _) | (refine Gr.alloc ?_ _) | (refine Gr.trans ?_ (by assumption)))))⟩

end Go.Proofs.Ytjkdjfagaakijaa
