/- The law PlaneCorners as a walk. -/
import Derived.Test.YtfihmjobnffjfaaLawWidest
import Derived.Test.YtfihmjobnffjfaaHullC
import Derived.Test.YtfihmjobnffjfaaSame
import Derived.Test.YtfihmjobnffjfaaRInside
namespace Go.Proofs.Ytfihmjobnffjfaa
open Go.RowKit
set_option linter.unusedSimpArgs false

set_option maxRecDepth 100000 in
set_option maxHeartbeats 16000000 in
theorem lawCorners_any (A : Option Addr) (n c : Nat) (ps : List (Int × Int)) (w : World) (hn : ps.length = n) (hl : n ≤ 8796093022208) (hp : Pts w A ps) :
    Calls Try.prog 13 #[.slice A n c] w fun e w' => e = .returned (.bool true) ∧ Gr w w' := by
  have HS := Lib.hid (fun W (hW : Gr w W) => set_any A n c 60 ps W hn hl (by omega) (by omega) (hp.keep hW))
  have hql := setL_len ps 60 (by omega)
  have hco := setL_co ps 60
  generalize setL ps 60 = qs at HS hql hco
  obtain ⟨i0, hi, hz0, hz1, hz2⟩ := info_parts Try.info23
  have HI23 := Lib.hid (And.intro hi (And.intro hz0 (And.intro hz1 hz2)))
  clear hi hz0 hz1 hz2
  obtain ⟨q, hq⟩ : ∃ q, qs.length = q := ⟨_, rfl⟩
  have hcl := cornersL_len qs (by omega)
  have hcc := cornersL_co (Cos_all hco)
  have hid := corners_idem qs (by omega)
  have hrev : cornersL qs.reverse = cornersL qs := cornersL_ext (fun x => List.mem_reverse)
  obtain ⟨hf1, hf2⟩ := corners_facts qs (by omega)
  obtain ⟨cs, hcs⟩ : ∃ cs, cornersL qs = cs := ⟨_, rfl⟩
  rw [hcs] at hcl hcc hid hrev hf1 hf2
  obtain ⟨r, hr⟩ : ∃ r, cs.length = r := ⟨_, rfl⟩
  rw [hr] at hcl hf1 hf2
  rw [hq] at hql hcl
  have HQ := Lib.hid hq
  have HV := Lib.hid (all_vld hco)
  have HVR := Lib.hid (all_vld (l := qs.reverse) (fun p hp => hco p (List.mem_reverse.1 hp)))
  have HV2 := Lib.hid (all_vld (all_Cos hcc))
  have HCC := Lib.hid hcc
  have HCQ := Lib.hid (Cos_all hco)
  have HE := Lib.hid hcs
  have HER := Lib.hid hrev
  have HI := Lib.hid hid
  have HR := Lib.hid hr
  have HED0 : Hid (1 < r → ∀ i, i < r → ∀ j, j < q → 0 ≤ cr (cs.getD i (0, 0)) (cs.getD ((i + 1) % r) (0, 0)) (qs.getD j (0, 0))) := Lib.hid (fun h i hi j hj => hf1 h i hi _ (List.mem_of_getElem? (getD_of (0, 0) (by rw [hq]; exact hj))))
  have HTR0 := Lib.hid hf2
  clear hn hl hp hq hco hcc hid hcs hr hrev hf1 hf2
  go_enter Try.func13, Try.ntmps13
  go_wp2_with fail
  refine (HS.out _ (by (repeat (first | exact Gr.refl _ | assumption | (refine Gr.drew ?_) | (refine Gr.drewN ?_ _) | (refine Gr.alloc ?_ _) | (refine Gr.trans ?_ (by assumption)))))).mono ?_
  rintro e w1 ⟨g1, c1, rfl, hc1, hg1, hO, hg⟩
  have HP := Lib.hid (Own_of rfl hO).pts
  clear hO HS hg1
  rw [HQ.out] at hc1 ⊢
  go_wp2_with fail
  refine (Hull_yes _ q c1 qs _ HQ.out hql.1 (by omega) HP.out HV.out).mono ?_
  rintro e w2 ⟨g, c2, rfl, hc2, hg2, hO2, hb2⟩
  rw [HE.out] at hO2 hc2 ⊢
  have HP2 := Lib.hid hO2.pts
  rw [HR.out] at hc2 ⊢
  have hgo2 := hb2
  have hgw2 := hg.trans hb2
  clear hO2 hg2 hb2 hg
  have hr0 : ((r : Int) == 0) = false := by simp; omega
  go_wp2_with fail
  clear hr0
  go_loopw [7] (fun i wr => ∃ k : Nat, k ≤ r ∧ i = .int .i64 k ∧ Gr w2 wr) (fun i _ => r - (intOf i).toNat)
  case atStart => exact ⟨0, Nat.zero_le _, rfl, Gr.refl _⟩
  case round =>
    obtain ⟨wo, rfl⟩ : ∃ wo : World, wo = wr := ⟨_, rfl⟩
    obtain ⟨k, hk, rfl, hgk⟩ := hrel
    by_cases hlt : k < r
    · by_cases hn1 : 1 < r
      · have hgo := hgo2.trans hgk
        obtain ⟨m1, hm1⟩ : ∃ m, (k + 1) % r = m := ⟨_, rfl⟩
        have hm1n : m1 < r := by rw [← hm1]; exact Nat.mod_lt _ (by omega)
        obtain ⟨m2, hm2⟩ : ∃ m, (k + 2) % r = m := ⟨_, rfl⟩
        have hm2n : m2 < r := by rw [← hm2]; exact Nat.mod_lt _ (by omega)
        have et : ((k : Int) + 1).tmod (r : Int) = (m1 : Int) := by rw [Int.tmod_eq_emod_of_nonneg (by omega), ← hm1]; push_cast; rfl
        have ew : IntKind.i64.wrap ((k : Int) + 1) = (k : Int) + 1 := IntWalk.i64_in _ (by omega)
        have et2 : ((k : Int) + 2).tmod (r : Int) = (m2 : Int) := by rw [Int.tmod_eq_emod_of_nonneg (by omega), ← hm2]; push_cast; rfl
        have ew2 : IntKind.i64.wrap ((k : Int) + 2) = (k : Int) + 2 := IntWalk.i64_in _ (by omega)
        have z0 : (0 : Int) ≤ (m1 : Int) := by omega
        have z1 : (m1 : Int) < (r : Int) := by omega
        have z2 : (0 : Int) ≤ (m2 : Int) := by omega
        have z3 : (m2 : Int) < (r : Int) := by omega
        have zr : ¬ r = 0 := by omega
        obtain ⟨b2, o2, e2, p0, p1⟩ := Pts_at (HP2.out.keep hgk) (k := k) (by have := HR.out; omega)
        obtain ⟨rfl, rfl⟩ : g = b2 ∧ 0 = o2 := by simpa using e2
        obtain ⟨b2, o2, e3, q0, q1⟩ := Pts_at (HP2.out.keep hgk) (k := m1) (by have := HR.out; omega)
        obtain ⟨rfl, rfl⟩ : g = b2 ∧ 0 = o2 := by simpa using e3
        obtain ⟨b2, o2, e4, s0, s1⟩ := Pts_at (HP2.out.keep hgk) (k := m2) (by have := HR.out; omega)
        obtain ⟨rfl, rfl⟩ : g = b2 ∧ 0 = o2 := by simpa using e4
        simp only [Nat.zero_add] at p0 p1 q0 q1 s0 s1
        have ck := HCC.out k
        have cm := HCC.out m1
        have cn := HCC.out m2
        have HED : Hid (1 < r → ∀ j, j < q → 0 ≤ cr (cs.getD k (0, 0)) (cs.getD m1 (0, 0)) (qs.getD j (0, 0))) := Lib.hid (fun h j hj => by have := HED0.out h k hlt j hj; rw [hm1] at this; exact this)
        have HTR : Hid (2 < r → 0 < cr (cs.getD k (0, 0)) (cs.getD m1 (0, 0)) (cs.getD m2 (0, 0))) := Lib.hid (fun h => by have := HTR0.out h k hlt; rw [hm1, hm2] at this; exact this)
        generalize cs.getD k (0, 0) = pk at p0 p1 ck HED HTR
        generalize cs.getD m1 (0, 0) = pm at q0 q1 cm HED HTR
        generalize cs.getD m2 (0, 0) = pn at s0 s1 cn HTR
        obtain ⟨x, y⟩ := pk
        obtain ⟨x1, y1⟩ := pm
        obtain ⟨x2, y2⟩ := pn
        dsimp only at p0 p1 q0 q1 s0 s1 ck cm cn
        clear e2 e3 e4 hm1 hm2
        have KS : Hid (∀ W', Gr wo W' → (Gr wo W' ∧ W'.cell? ⟨g, k * 2, none⟩ = some (.int .i64 x) ∧ W'.cell? ⟨g, k * 2 + 1, none⟩ = some (.int .i64 y) ∧ W'.cell? ⟨g, m1 * 2, none⟩ = some (.int .i64 x1) ∧ W'.cell? ⟨g, m1 * 2 + 1, none⟩ = some (.int .i64 y1))) := Lib.hid (fun W' h => ⟨h, h.keep p0, h.keep p1, h.keep q0, h.keep q1⟩)
        go_wp2_with fail
        refine wp_region_held_drew (S := (fun W' => Gr wo W' ∧ W'.cell? ⟨g, k * 2, none⟩ = some (.int .i64 x) ∧ W'.cell? ⟨g, k * 2 + 1, none⟩ = some (.int .i64 y) ∧ W'.cell? ⟨g, m1 * 2, none⟩ = some (.int .i64 x1) ∧ W'.cell? ⟨g, m1 * 2 + 1, none⟩ = some (.int .i64 y1))) ?_ ?_ (fun hHeld => ?_)
        · kernel_rfl
        · ((try dsimp only); (refine KS.out _ ?_; (repeat (first | exact Gr.refl _ | exact hHeld.1 | (refine Gr.drew ?_) | (refine Gr.alloc ?_ _) | (refine Gr.setCell ?_ (by simp) _) | (refine Gr.trans ?_ (by assumption))))))
        refine take_in (i := 0) (v := ?_) (d := (some 42)) rfl rfl ?_ ?_ ?_ ?_ ?_ ?_ ?_ ?_
        rotate_left
        · kernel_rfl
        · kernel_rfl
        · kernel_rfl
        · (intro _ _ _ hq; exact hq)
        · rfl
        · (intro _w hSw; (try dsimp only at hSw); go_simp; try with_reducible rfl)
        · assumption
        try simp only [Act.put, List.setIfInBounds_toArray, List.set_cons_zero, List.set_cons_succ]
        refine take_in (i := 1) (v := ?_) (d := (some 43)) rfl rfl ?_ ?_ ?_ ?_ ?_ ?_ ?_ ?_
        rotate_left
        · kernel_rfl
        · kernel_rfl
        · kernel_rfl
        · (intro _ _ _ hq; exact hq)
        · rfl
        · (intro _w hSw; (try dsimp only at hSw); go_simp; try with_reducible rfl)
        · assumption
        try simp only [Act.put, List.setIfInBounds_toArray, List.set_cons_zero, List.set_cons_succ]
        refine take_in (i := 2) (v := ?_) (d := (some 44)) rfl rfl ?_ ?_ ?_ ?_ ?_ ?_ ?_ ?_
        rotate_left
        · kernel_rfl
        · kernel_rfl
        · kernel_rfl
        · (intro _ _ _ hq; exact hq)
        · rfl
        · (intro _w hSw; (try dsimp only at hSw); go_simp; try with_reducible rfl)
        · assumption
        try simp only [Act.put, List.setIfInBounds_toArray, List.set_cons_zero, List.set_cons_succ]
        refine take_in (i := 3) (v := ?_) (d := (some 45)) rfl rfl ?_ ?_ ?_ ?_ ?_ ?_ ?_ ?_
        rotate_left
        · kernel_rfl
        · kernel_rfl
        · kernel_rfl
        · (intro _ _ _ hq; exact hq)
        · rfl
        · (intro _w hSw; (try dsimp only at hSw); go_simp; try with_reducible rfl)
        · assumption
        try simp only [Act.put, List.setIfInBounds_toArray, List.set_cons_zero, List.set_cons_succ]
        refine take_in (i := 4) (v := ?_) (d := (some 46)) rfl rfl ?_ ?_ ?_ ?_ ?_ ?_ ?_ ?_
        rotate_left
        · kernel_rfl
        · kernel_rfl
        · kernel_rfl
        · (intro _ _ _ hq; exact hq)
        · rfl
        · (intro _w hSw; (try dsimp only at hSw); go_simp; try with_reducible rfl)
        · assumption
        try simp only [Act.put, List.setIfInBounds_toArray, List.set_cons_zero, List.set_cons_succ]
        refine take_in (i := 5) (v := ?_) (d := (some 47)) rfl rfl ?_ ?_ ?_ ?_ ?_ ?_ ?_ ?_
        rotate_left
        · kernel_rfl
        · kernel_rfl
        · kernel_rfl
        · (intro _ _ _ hq; exact hq)
        · rfl
        · (intro _w hSw; (try dsimp only at hSw); go_simp; try with_reducible rfl)
        · assumption
        try simp only [Act.put, List.setIfInBounds_toArray, List.set_cons_zero, List.set_cons_succ]
        refine take_in (i := 6) (v := ?_) (d := (some 48)) rfl rfl ?_ ?_ ?_ ?_ ?_ ?_ ?_ ?_
        rotate_left
        · kernel_rfl
        · kernel_rfl
        · kernel_rfl
        · (intro _ _ _ hq; exact hq)
        · rfl
        · (intro _w hSw; (try dsimp only at hSw); go_simp; try with_reducible rfl)
        · assumption
        try simp only [Act.put, List.setIfInBounds_toArray, List.set_cons_zero, List.set_cons_succ]
        refine take_in (i := 7) (v := ?_) (d := (some 49)) rfl rfl ?_ ?_ ?_ ?_ ?_ ?_ ?_ ?_
        rotate_left
        · kernel_rfl
        · kernel_rfl
        · kernel_rfl
        · (intro _ _ _ hq; exact hq)
        · rfl
        · (intro _w hSw; (try dsimp only at hSw); go_simp; try with_reducible rfl)
        · assumption
        try simp only [Act.put, List.setIfInBounds_toArray, List.set_cons_zero, List.set_cons_succ]
        refine take_in (i := 8) (v := ?_) (d := (some 50)) rfl rfl ?_ ?_ ?_ ?_ ?_ ?_ ?_ ?_
        rotate_left
        · kernel_rfl
        · kernel_rfl
        · kernel_rfl
        · (intro _ _ _ hq; exact hq)
        · rfl
        · (intro _w hSw; (try dsimp only at hSw); go_simp; try with_reducible rfl)
        · assumption
        try simp only [Act.put, List.setIfInBounds_toArray, List.set_cons_zero, List.set_cons_succ]
        refine take_in (i := 9) (v := ?_) (d := (some 51)) rfl rfl ?_ ?_ ?_ ?_ ?_ ?_ ?_ ?_
        rotate_left
        · kernel_rfl
        · kernel_rfl
        · kernel_rfl
        · (intro _ _ _ hq; exact hq)
        · rfl
        · (intro _w hSw; (try dsimp only at hSw); go_simp; try with_reducible rfl)
        · assumption
        try simp only [Act.put, List.setIfInBounds_toArray, List.set_cons_zero, List.set_cons_succ]
        refine take_in (i := 10) (v := ?_) (d := (some 52)) rfl rfl ?_ ?_ ?_ ?_ ?_ ?_ ?_ ?_
        rotate_left
        · kernel_rfl
        · kernel_rfl
        · kernel_rfl
        · (intro _ _ _ hq; exact hq)
        · rfl
        · (intro _w hSw; (try dsimp only at hSw); go_simp; try with_reducible rfl)
        · assumption
        try simp only [Act.put, List.setIfInBounds_toArray, List.set_cons_zero, List.set_cons_succ]
        refine wpAnyH_ready (rs := [11, 12]) ?_ ?_ ?_
        · kernel_rfl
        · simp
        refine (AllReadyH.cons rfl (fun K hK => ?_) (AllReadyH.cons rfl (fun K hK => ?_) AllReadyH.nil))
        go_simp
        refine hK.out _ _ ?_ (fun hHeld => ?_)
        · ((try dsimp only); (refine KS.out _ ?_; (repeat (first | exact Gr.refl _ | exact hHeld.1 | (refine Gr.drew ?_) | (refine Gr.alloc ?_ _) | (refine Gr.setCell ?_ (by simp) _) | (refine Gr.trans ?_ (by assumption))))))
        clear hK K
        try simp only [Act.put, List.setIfInBounds_toArray, List.set_cons_zero, List.set_cons_succ]
        refine wpAnyH_ready (rs := [12]) ?_ ?_ ?_
        · kernel_rfl
        · simp
        refine (AllReadyH.cons rfl (fun K hK => ?_) AllReadyH.nil)
        go_simp
        refine hK.out _ _ ?_ (fun hHeld => ?_)
        · ((try dsimp only); (refine KS.out _ ?_; (repeat (first | exact Gr.refl _ | exact hHeld.1 | (refine Gr.drew ?_) | (refine Gr.alloc ?_ _) | (refine Gr.setCell ?_ (by simp) _) | (refine Gr.trans ?_ (by assumption))))))
        clear hK K
        try simp only [Act.put, List.setIfInBounds_toArray, List.set_cons_zero, List.set_cons_succ]
        refine wpAnyH_ready (rs := [13]) ?_ ?_ ?_
        · kernel_rfl
        · simp
        refine (AllReadyH.cons rfl (fun K hK => ?_) AllReadyH.nil)
        go_simp
        refine hK.out _ _ ?_ (fun hHeld => ?_)
        · ((try dsimp only); (refine KS.out _ ?_; (repeat (first | exact Gr.refl _ | exact hHeld.1 | (refine Gr.drew ?_) | (refine Gr.alloc ?_ _) | (refine Gr.setCell ?_ (by simp) _) | (refine Gr.trans ?_ (by assumption))))))
        clear hK K
        try simp only [Act.put, List.setIfInBounds_toArray, List.set_cons_zero, List.set_cons_succ]
        refine wpAnyH_ready (rs := [14]) ?_ ?_ ?_
        · kernel_rfl
        · simp
        refine (AllReadyH.cons rfl (fun K hK => ?_) AllReadyH.nil)
        go_simp
        refine hK.out _ _ ?_ (fun hHeld => ?_)
        · ((try dsimp only); (refine KS.out _ ?_; (repeat (first | exact Gr.refl _ | exact hHeld.1 | (refine Gr.drew ?_) | (refine Gr.alloc ?_ _) | (refine Gr.setCell ?_ (by simp) _) | (refine Gr.trans ?_ (by assumption))))))
        clear hK K
        try simp only [Act.put, List.setIfInBounds_toArray, List.set_cons_zero, List.set_cons_succ]
        refine wpAnyH_done ?_ ?_ _
        · kernel_rfl
        rotate_left
        go_simp
        refine hK.out _ _ ?_ (fun hHeld => ?_)
        · ((try dsimp only); (refine KS.out _ ?_; (repeat (first | exact Gr.refl _ | exact hHeld.1 | (refine Gr.drew ?_) | (refine Gr.alloc ?_ _) | (refine Gr.setCell ?_ (by simp) _) | (refine Gr.trans ?_ (by assumption))))))
        clear hK K
        try simp only [Act.put, List.setIfInBounds_toArray, List.set_cons_zero, List.set_cons_succ]
        refine wpAnyH_ready (rs := [11]) ?_ ?_ ?_
        · kernel_rfl
        · simp
        refine (AllReadyH.cons rfl (fun K hK => ?_) AllReadyH.nil)
        go_simp
        refine hK.out _ _ ?_ (fun hHeld => ?_)
        · ((try dsimp only); (refine KS.out _ ?_; (repeat (first | exact Gr.refl _ | exact hHeld.1 | (refine Gr.drew ?_) | (refine Gr.alloc ?_ _) | (refine Gr.setCell ?_ (by simp) _) | (refine Gr.trans ?_ (by assumption))))))
        clear hK K
        try simp only [Act.put, List.setIfInBounds_toArray, List.set_cons_zero, List.set_cons_succ]
        refine wpAnyH_ready (rs := [13]) ?_ ?_ ?_
        · kernel_rfl
        · simp
        refine (AllReadyH.cons rfl (fun K hK => ?_) AllReadyH.nil)
        go_simp
        refine hK.out _ _ ?_ (fun hHeld => ?_)
        · ((try dsimp only); (refine KS.out _ ?_; (repeat (first | exact Gr.refl _ | exact hHeld.1 | (refine Gr.drew ?_) | (refine Gr.alloc ?_ _) | (refine Gr.setCell ?_ (by simp) _) | (refine Gr.trans ?_ (by assumption))))))
        clear hK K
        try simp only [Act.put, List.setIfInBounds_toArray, List.set_cons_zero, List.set_cons_succ]
        refine wpAnyH_ready (rs := [14]) ?_ ?_ ?_
        · kernel_rfl
        · simp
        refine (AllReadyH.cons rfl (fun K hK => ?_) AllReadyH.nil)
        go_simp
        refine hK.out _ _ ?_ (fun hHeld => ?_)
        · ((try dsimp only); (refine KS.out _ ?_; (repeat (first | exact Gr.refl _ | exact hHeld.1 | (refine Gr.drew ?_) | (refine Gr.alloc ?_ _) | (refine Gr.setCell ?_ (by simp) _) | (refine Gr.trans ?_ (by assumption))))))
        clear hK K
        try simp only [Act.put, List.setIfInBounds_toArray, List.set_cons_zero, List.set_cons_succ]
        refine wpAnyH_done ?_ ?_ _
        · kernel_rfl
        rotate_left
        all_goals
          generalize hW2 : World.drew _ = W2
          obtain ⟨hWg, l0, l1, l2, l3⟩ := boxes2d hW2
          have s0 := hWg.keep s0
          have s1 := hWg.keep s1
          clear hW2 hHeld p0 p1 q0 q1 KS
          by_cases hn2 : 2 < r
          · have HT3 : Hid (∀ W, Calls Try.prog 48 #[.agg #[.int .i64 x, .int .i64 y], .agg #[.int .i64 x1, .int .i64 y1], .agg #[.int .i64 x2, .int .i64 y2]] W fun e w' => e = .returned (.int .i64 1) ∧ Gr W w') := Lib.hid (fun W => by
              have h := lturn_any x y x1 y1 x2 y2 W ck.1 ck.2 cm.1 cm.2 cn.1 cn.2
              have h2 := HTR.out hn2
              unfold cr at h2; dsimp only at h2
              rwa [show sgn (crs x y x1 y1 x2 y2) = 1 from by unfold sgn; rw [if_neg (by omega), if_pos h2]] at h)
            have KS : Hid (∀ W', Gr W2 W' → (Gr W2 W' ∧ W'.cell? ⟨wo.heap.size, 0, none⟩ = W2.cell? ⟨wo.heap.size, 0, none⟩ ∧ W'.cell? ⟨wo.heap.size, 1, none⟩ = W2.cell? ⟨wo.heap.size, 1, none⟩ ∧ W'.cell? ⟨wo.heap.size + 1, 0, none⟩ = W2.cell? ⟨wo.heap.size + 1, 0, none⟩ ∧ W'.cell? ⟨wo.heap.size + 1, 1, none⟩ = W2.cell? ⟨wo.heap.size + 1, 1, none⟩ ∧ W'.cell? ⟨g, m2 * 2, none⟩ = some (.int .i64 x2) ∧ W'.cell? ⟨g, m2 * 2 + 1, none⟩ = some (.int .i64 y2))) := Lib.hid (fun W' h => ⟨h, (h.keep l0).trans l0.symm, (h.keep l1).trans l1.symm, (h.keep l2).trans l2.symm, (h.keep l3).trans l3.symm, h.keep s0, h.keep s1⟩)
            have hd2 : decide ((2 : Int) < (r : Int)) = true := by simp; omega
            go_wp2_with fail
            refine wp_region_held_drew (S := (fun W' => Gr W2 W' ∧ W'.cell? ⟨wo.heap.size, 0, none⟩ = W2.cell? ⟨wo.heap.size, 0, none⟩ ∧ W'.cell? ⟨wo.heap.size, 1, none⟩ = W2.cell? ⟨wo.heap.size, 1, none⟩ ∧ W'.cell? ⟨wo.heap.size + 1, 0, none⟩ = W2.cell? ⟨wo.heap.size + 1, 0, none⟩ ∧ W'.cell? ⟨wo.heap.size + 1, 1, none⟩ = W2.cell? ⟨wo.heap.size + 1, 1, none⟩ ∧ W'.cell? ⟨g, m2 * 2, none⟩ = some (.int .i64 x2) ∧ W'.cell? ⟨g, m2 * 2 + 1, none⟩ = some (.int .i64 y2))) ?_ ?_ (fun hHeld => ?_)
            · kernel_rfl
            · ((try dsimp only); (refine KS.out _ ?_; (repeat (first | exact Gr.refl _ | exact hHeld.1 | (refine Gr.drew ?_) | (refine Gr.alloc ?_ _) | (refine Gr.setCell ?_ (by simp) _) | (refine Gr.trans ?_ (by assumption))))))
            refine take_in (i := 0) (v := ?_) (d := (some 53)) rfl rfl ?_ ?_ ?_ ?_ ?_ ?_ ?_ ?_
            rotate_left
            · kernel_rfl
            · kernel_rfl
            · kernel_rfl
            · (intro _ _ _ hq; exact hq)
            · rfl
            · (intro _w hSw; (try dsimp only at hSw); go_simp; try with_reducible rfl)
            · assumption
            try simp only [Act.put, List.setIfInBounds_toArray, List.set_cons_zero, List.set_cons_succ]
            refine take_in (i := 1) (v := ?_) (d := (some 54)) rfl rfl ?_ ?_ ?_ ?_ ?_ ?_ ?_ ?_
            rotate_left
            · kernel_rfl
            · kernel_rfl
            · kernel_rfl
            · (intro _ _ _ hq; exact hq)
            · rfl
            · (intro _w hSw; (try dsimp only at hSw); go_simp; try with_reducible rfl)
            · assumption
            try simp only [Act.put, List.setIfInBounds_toArray, List.set_cons_zero, List.set_cons_succ]
            refine take_in (i := 2) (v := ?_) (d := (some 55)) rfl rfl ?_ ?_ ?_ ?_ ?_ ?_ ?_ ?_
            rotate_left
            · kernel_rfl
            · kernel_rfl
            · kernel_rfl
            · (intro _ _ _ hq; exact hq)
            · rfl
            · (intro _w hSw; (try dsimp only at hSw); go_simp; try with_reducible rfl)
            · assumption
            try simp only [Act.put, List.setIfInBounds_toArray, List.set_cons_zero, List.set_cons_succ]
            refine take_in (i := 3) (v := ?_) (d := (some 56)) rfl rfl ?_ ?_ ?_ ?_ ?_ ?_ ?_ ?_
            rotate_left
            · kernel_rfl
            · kernel_rfl
            · kernel_rfl
            · (intro _ _ _ hq; exact hq)
            · rfl
            · (intro _w hSw; (try dsimp only at hSw); go_simp; try with_reducible rfl)
            · assumption
            try simp only [Act.put, List.setIfInBounds_toArray, List.set_cons_zero, List.set_cons_succ]
            refine take_in (i := 4) (v := ?_) (d := (some 57)) rfl rfl ?_ ?_ ?_ ?_ ?_ ?_ ?_ ?_
            rotate_left
            · kernel_rfl
            · kernel_rfl
            · kernel_rfl
            · (intro _ _ _ hq; exact hq)
            · rfl
            · (intro _w hSw; (try dsimp only at hSw); go_simp; try with_reducible rfl)
            · assumption
            try simp only [Act.put, List.setIfInBounds_toArray, List.set_cons_zero, List.set_cons_succ]
            refine take_in (i := 5) (v := ?_) (d := (some 58)) rfl rfl ?_ ?_ ?_ ?_ ?_ ?_ ?_ ?_
            rotate_left
            · kernel_rfl
            · kernel_rfl
            · kernel_rfl
            · (intro _ _ _ hq; exact hq)
            · rfl
            · (intro _w hSw; (try dsimp only at hSw); go_simp; try with_reducible rfl)
            · assumption
            try simp only [Act.put, List.setIfInBounds_toArray, List.set_cons_zero, List.set_cons_succ]
            refine take_in (i := 6) (v := ?_) (d := (some 59)) rfl rfl ?_ ?_ ?_ ?_ ?_ ?_ ?_ ?_
            rotate_left
            · kernel_rfl
            · kernel_rfl
            · kernel_rfl
            · (intro _ _ _ hq; exact hq)
            · rfl
            · (intro _w hSw; (try dsimp only at hSw); go_simp; try with_reducible rfl)
            · assumption
            try simp only [Act.put, List.setIfInBounds_toArray, List.set_cons_zero, List.set_cons_succ]
            refine take_in (i := 7) (v := ?_) (d := (some 60)) rfl rfl ?_ ?_ ?_ ?_ ?_ ?_ ?_ ?_
            rotate_left
            · kernel_rfl
            · kernel_rfl
            · kernel_rfl
            · (intro _ _ _ hq; exact hq)
            · rfl
            · (intro _w hSw; (try dsimp only at hSw); go_simp; try with_reducible rfl)
            · assumption
            try simp only [Act.put, List.setIfInBounds_toArray, List.set_cons_zero, List.set_cons_succ]
            refine take_in (i := 8) (v := ?_) (d := (some 61)) rfl rfl ?_ ?_ ?_ ?_ ?_ ?_ ?_ ?_
            rotate_left
            · kernel_rfl
            · kernel_rfl
            · kernel_rfl
            · (intro _ _ _ hq; exact hq)
            · rfl
            · (intro _w hSw; (try dsimp only at hSw); go_simp; try with_reducible rfl)
            · assumption
            try simp only [Act.put, List.setIfInBounds_toArray, List.set_cons_zero, List.set_cons_succ]
            refine take_in (i := 9) (v := ?_) (d := (some 62)) rfl rfl ?_ ?_ ?_ ?_ ?_ ?_ ?_ ?_
            rotate_left
            · kernel_rfl
            · kernel_rfl
            · kernel_rfl
            · (intro _ _ _ hq; exact hq)
            · rfl
            · (intro _w hSw; (try dsimp only at hSw); go_simp; try with_reducible rfl)
            · assumption
            try simp only [Act.put, List.setIfInBounds_toArray, List.set_cons_zero, List.set_cons_succ]
            refine take_in (i := 10) (v := ?_) (d := (some 63)) rfl rfl ?_ ?_ ?_ ?_ ?_ ?_ ?_ ?_
            rotate_left
            · kernel_rfl
            · kernel_rfl
            · kernel_rfl
            · (intro _ _ _ hq; exact hq)
            · rfl
            · (intro _w hSw; (try dsimp only at hSw); go_simp; try with_reducible rfl)
            · assumption
            try simp only [Act.put, List.setIfInBounds_toArray, List.set_cons_zero, List.set_cons_succ]
            refine take_in (i := 11) (v := ?_) (d := (some 64)) rfl rfl ?_ ?_ ?_ ?_ ?_ ?_ ?_ ?_
            rotate_left
            · kernel_rfl
            · kernel_rfl
            · kernel_rfl
            · (intro _ _ _ hq; exact hq)
            · rfl
            · (intro _w hSw; (try dsimp only at hSw); go_simp; try with_reducible rfl)
            · assumption
            try simp only [Act.put, List.setIfInBounds_toArray, List.set_cons_zero, List.set_cons_succ]
            refine wpAnyH_ready (rs := [12]) ?_ ?_ ?_
            · kernel_rfl
            · simp
            refine (AllReadyH.cons rfl (fun K hK => ?_) AllReadyH.nil)
            go_simp
            first | (go_at_call 48; (with_reducible refine (HT3.out _).mono ?_); rintro e w4 ⟨rfl, hb⟩)
            refine hK.out _ _ ?_ (fun hHeld => ?_)
            · ((try dsimp only); (refine KS.out _ ?_; (repeat (first | exact Gr.refl _ | exact hHeld.1 | (refine Gr.drew ?_) | (refine Gr.alloc ?_ _) | (refine Gr.setCell ?_ (by simp) _) | (refine Gr.trans ?_ (by assumption))))))
            clear hK K
            try simp only [Act.put, List.setIfInBounds_toArray, List.set_cons_zero, List.set_cons_succ]
            refine take_in (i := 13) (v := ?_) (d := (some 66)) rfl rfl ?_ ?_ ?_ ?_ ?_ ?_ ?_ ?_
            rotate_left
            · kernel_rfl
            · kernel_rfl
            · kernel_rfl
            · (intro _ _ _ hq; exact hq)
            · rfl
            · (intro _w hSw; (try dsimp only at hSw); go_simp; try with_reducible rfl)
            · assumption
            try simp only [Act.put, List.setIfInBounds_toArray, List.set_cons_zero, List.set_cons_succ]
            refine take_in (i := 14) (v := ?_) (d := (some 67)) rfl rfl ?_ ?_ ?_ ?_ ?_ ?_ ?_ ?_
            rotate_left
            · kernel_rfl
            · kernel_rfl
            · kernel_rfl
            · (intro _ _ _ hq; exact hq)
            · rfl
            · (intro _w hSw; (try dsimp only at hSw); go_simp; try with_reducible rfl)
            · assumption
            try simp only [Act.put, List.setIfInBounds_toArray, List.set_cons_zero, List.set_cons_succ]
            refine wpAnyH_done ?_ ?_ _
            · kernel_rfl
            rotate_left
            all_goals
              obtain ⟨hW5, -⟩ := hHeld
              clear KS s0 s1 hd2
              go_wp2_with fail
              go_loopw [10] (fun jv w5 => ∃ j : Nat, j ≤ q ∧ jv = .int .i64 j ∧ Gr W2 w5) (fun jv _ => q - (intOf jv).toNat)
              case atStart => exact ⟨0, Nat.zero_le _, rfl, hW5⟩
              case round =>
                obtain ⟨j, hj, rfl, hgj⟩ := hrel
                by_cases hlj : j < q
                · obtain ⟨b2, o2, e2, t0, t1⟩ := Pts_at (HP.out.keep (hgo.trans (hWg.trans hgj))) (k := j) (by have := HQ.out; omega)
                  obtain ⟨rfl, rfl⟩ : g1 = b2 ∧ 0 = o2 := by simpa using e2
                  simp only [Nat.zero_add] at t0 t1
                  have hed := HED.out hn1 j hlj
                  have hcj := HCQ.out j
                  generalize qs.getD j (0, 0) = pj at t0 t1 hed hcj
                  obtain ⟨a, b⟩ := pj
                  dsimp only at t0 t1 hcj
                  clear e2
                  replace l0 := hgj.keep l0
                  replace l1 := hgj.keep l1
                  replace l2 := hgj.keep l2
                  replace l3 := hgj.keep l3
                  have HTQ := Lib.hid (fun W => lturn_any x y x1 y1 a b W ck.1 ck.2 cm.1 cm.2 hcj.1 hcj.2)
                  have KS : Hid (∀ W', Gr wr W' → (Gr wr W' ∧ W'.cell? ⟨wo.heap.size, 0, none⟩ = wr.cell? ⟨wo.heap.size, 0, none⟩ ∧ W'.cell? ⟨wo.heap.size, 1, none⟩ = wr.cell? ⟨wo.heap.size, 1, none⟩ ∧ W'.cell? ⟨wo.heap.size + 1, 0, none⟩ = wr.cell? ⟨wo.heap.size + 1, 0, none⟩ ∧ W'.cell? ⟨wo.heap.size + 1, 1, none⟩ = wr.cell? ⟨wo.heap.size + 1, 1, none⟩ ∧ W'.cell? ⟨g1, j * 2, none⟩ = some (.int .i64 a) ∧ W'.cell? ⟨g1, j * 2 + 1, none⟩ = some (.int .i64 b))) := Lib.hid (fun W' h => ⟨h, (h.keep l0).trans l0.symm, (h.keep l1).trans l1.symm, (h.keep l2).trans l2.symm, (h.keep l3).trans l3.symm, h.keep t0, h.keep t1⟩)
                  have hs01 : sgn (crs x y x1 y1 a b) = 0 ∨ sgn (crs x y x1 y1 a b) = 1 := by
                    unfold cr at hed; dsimp only at hed
                    unfold sgn; split
                    · omega
                    · split
                      · exact Or.inr rfl
                      · exact Or.inl rfl
                  generalize sgn (crs x y x1 y1 a b) = sg at HTQ hs01
                  clear hed
                  rcases hs01 with rfl | rfl
                  all_goals
                    go_wp2_with fail
                    refine wp_region_held_drew (S := (fun W' => Gr wr W' ∧ W'.cell? ⟨wo.heap.size, 0, none⟩ = wr.cell? ⟨wo.heap.size, 0, none⟩ ∧ W'.cell? ⟨wo.heap.size, 1, none⟩ = wr.cell? ⟨wo.heap.size, 1, none⟩ ∧ W'.cell? ⟨wo.heap.size + 1, 0, none⟩ = wr.cell? ⟨wo.heap.size + 1, 0, none⟩ ∧ W'.cell? ⟨wo.heap.size + 1, 1, none⟩ = wr.cell? ⟨wo.heap.size + 1, 1, none⟩ ∧ W'.cell? ⟨g1, j * 2, none⟩ = some (.int .i64 a) ∧ W'.cell? ⟨g1, j * 2 + 1, none⟩ = some (.int .i64 b))) ?_ ?_ (fun hHeld => ?_)
                    · kernel_rfl
                    · ((try dsimp only); (refine KS.out _ ?_; (repeat (first | exact Gr.refl _ | exact hHeld.1 | (refine Gr.drew ?_) | (refine Gr.alloc ?_ _) | (refine Gr.setCell ?_ (by simp) _) | (refine Gr.trans ?_ (by assumption))))))
                    refine take_in (i := 0) (v := ?_) (d := (some 74)) rfl rfl ?_ ?_ ?_ ?_ ?_ ?_ ?_ ?_
                    rotate_left
                    · kernel_rfl
                    · kernel_rfl
                    · kernel_rfl
                    · (intro _ _ _ hq; exact hq)
                    · rfl
                    · (intro _w hSw; (try dsimp only at hSw); go_simp; try with_reducible rfl)
                    · assumption
                    try simp only [Act.put, List.setIfInBounds_toArray, List.set_cons_zero, List.set_cons_succ]
                    refine take_in (i := 1) (v := ?_) (d := (some 75)) rfl rfl ?_ ?_ ?_ ?_ ?_ ?_ ?_ ?_
                    rotate_left
                    · kernel_rfl
                    · kernel_rfl
                    · kernel_rfl
                    · (intro _ _ _ hq; exact hq)
                    · rfl
                    · (intro _w hSw; (try dsimp only at hSw); go_simp; try with_reducible rfl)
                    · assumption
                    try simp only [Act.put, List.setIfInBounds_toArray, List.set_cons_zero, List.set_cons_succ]
                    refine take_in (i := 2) (v := ?_) (d := (some 76)) rfl rfl ?_ ?_ ?_ ?_ ?_ ?_ ?_ ?_
                    rotate_left
                    · kernel_rfl
                    · kernel_rfl
                    · kernel_rfl
                    · (intro _ _ _ hq; exact hq)
                    · rfl
                    · (intro _w hSw; (try dsimp only at hSw); go_simp; try with_reducible rfl)
                    · assumption
                    try simp only [Act.put, List.setIfInBounds_toArray, List.set_cons_zero, List.set_cons_succ]
                    refine take_in (i := 3) (v := ?_) (d := (some 77)) rfl rfl ?_ ?_ ?_ ?_ ?_ ?_ ?_ ?_
                    rotate_left
                    · kernel_rfl
                    · kernel_rfl
                    · kernel_rfl
                    · (intro _ _ _ hq; exact hq)
                    · rfl
                    · (intro _w hSw; (try dsimp only at hSw); go_simp; try with_reducible rfl)
                    · assumption
                    try simp only [Act.put, List.setIfInBounds_toArray, List.set_cons_zero, List.set_cons_succ]
                    refine take_in (i := 4) (v := ?_) (d := (some 78)) rfl rfl ?_ ?_ ?_ ?_ ?_ ?_ ?_ ?_
                    rotate_left
                    · kernel_rfl
                    · kernel_rfl
                    · kernel_rfl
                    · (intro _ _ _ hq; exact hq)
                    · rfl
                    · (intro _w hSw; (try dsimp only at hSw); go_simp; try with_reducible rfl)
                    · assumption
                    try simp only [Act.put, List.setIfInBounds_toArray, List.set_cons_zero, List.set_cons_succ]
                    refine take_in (i := 5) (v := ?_) (d := (some 79)) rfl rfl ?_ ?_ ?_ ?_ ?_ ?_ ?_ ?_
                    rotate_left
                    · kernel_rfl
                    · kernel_rfl
                    · kernel_rfl
                    · (intro _ _ _ hq; exact hq)
                    · rfl
                    · (intro _w hSw; (try dsimp only at hSw); go_simp; try with_reducible rfl)
                    · assumption
                    try simp only [Act.put, List.setIfInBounds_toArray, List.set_cons_zero, List.set_cons_succ]
                    refine wpAnyH_ready (rs := [6]) ?_ ?_ ?_
                    · kernel_rfl
                    · simp
                    refine (AllReadyH.cons rfl (fun K hK => ?_) AllReadyH.nil)
                    go_simp
                    first | (go_at_call 48; (with_reducible refine (HTQ.out _).mono ?_); rintro e w4 ⟨rfl, hb⟩)
                    refine hK.out _ _ ?_ (fun hHeld => ?_)
                    · ((try dsimp only); (refine KS.out _ ?_; (repeat (first | exact Gr.refl _ | exact hHeld.1 | (refine Gr.drew ?_) | (refine Gr.alloc ?_ _) | (refine Gr.setCell ?_ (by simp) _) | (refine Gr.trans ?_ (by assumption))))))
                    clear hK K
                    try simp only [Act.put, List.setIfInBounds_toArray, List.set_cons_zero, List.set_cons_succ]
                    refine take_in (i := 7) (v := ?_) (d := (some 11)) rfl rfl ?_ ?_ ?_ ?_ ?_ ?_ ?_ ?_
                    rotate_left
                    · kernel_rfl
                    · kernel_rfl
                    · kernel_rfl
                    · (intro _ _ _ hq; exact hq)
                    · rfl
                    · (intro _w hSw; (try dsimp only at hSw); go_simp; try with_reducible rfl)
                    · assumption
                    try simp only [Act.put, List.setIfInBounds_toArray, List.set_cons_zero, List.set_cons_succ]
                    refine wpAnyH_done ?_ ?_ _
                    · kernel_rfl
                    rotate_left
                    all_goals
                      obtain ⟨hB, -⟩ := hHeld
                      go_wp2_with fail
                      go_roundw
                      case rel => exact ⟨j + 1, by omega, by go_num, hgj.trans hB⟩
                      case measure => simp [intOf]; omega
                · go_wp2_with fail
                  go_roundw
                  case rel => exact ⟨k + 1, by omega, by go_num, hgk.trans (hWg.trans hgj)⟩
                  case measure => simp [intOf]; omega
          · have KS : Hid (∀ W', Gr W2 W' → (Gr W2 W' ∧ True)) := Lib.hid (fun W' h => ⟨h, trivial⟩)
            have hd2 : decide ((2 : Int) < (r : Int)) = false := by simp; omega
            go_wp2_with fail
            refine wp_region_held_drew (S := (fun W' => Gr W2 W' ∧ True)) ?_ ?_ (fun hHeld => ?_)
            · kernel_rfl
            · ((try dsimp only); (refine KS.out _ ?_; (repeat (first | exact Gr.refl _ | exact hHeld.1 | (refine Gr.drew ?_) | (refine Gr.alloc ?_ _) | (refine Gr.setCell ?_ (by simp) _) | (refine Gr.trans ?_ (by assumption))))))
            refine take_in (i := 0) (v := ?_) (d := (some 53)) rfl rfl ?_ ?_ ?_ ?_ ?_ ?_ ?_ ?_
            rotate_left
            · kernel_rfl
            · kernel_rfl
            · kernel_rfl
            · (intro _ _ _ hq; exact hq)
            · rfl
            · (intro _w hSw; (try dsimp only at hSw); go_simp; try with_reducible rfl)
            · assumption
            try simp only [Act.put, List.setIfInBounds_toArray, List.set_cons_zero, List.set_cons_succ]
            refine take_in (i := 1) (v := ?_) (d := (some 54)) rfl rfl ?_ ?_ ?_ ?_ ?_ ?_ ?_ ?_
            rotate_left
            · kernel_rfl
            · kernel_rfl
            · kernel_rfl
            · (intro _ _ _ hq; exact hq)
            · rfl
            · (intro _w hSw; (try dsimp only at hSw); go_simp; try with_reducible rfl)
            · assumption
            try simp only [Act.put, List.setIfInBounds_toArray, List.set_cons_zero, List.set_cons_succ]
            refine take_in (i := 2) (v := ?_) (d := (some 55)) rfl rfl ?_ ?_ ?_ ?_ ?_ ?_ ?_ ?_
            rotate_left
            · kernel_rfl
            · kernel_rfl
            · kernel_rfl
            · (intro _ _ _ hq; exact hq)
            · rfl
            · (intro _w hSw; (try dsimp only at hSw); go_simp; try with_reducible rfl)
            · assumption
            try simp only [Act.put, List.setIfInBounds_toArray, List.set_cons_zero, List.set_cons_succ]
            refine take_un (i := 3) (d := (some 56)) rfl rfl ?_ ?_ ?_ ?_ ?_ ?_ ?_
            · kernel_rfl
            · kernel_rfl
            · kernel_rfl
            · (intro _ _ _ hq; exact hq)
            · rfl
            · assumption
            try simp only [Act.put, List.setIfInBounds_toArray, List.set_cons_zero, List.set_cons_succ]
            refine take_un (i := 4) (d := (some 57)) rfl rfl ?_ ?_ ?_ ?_ ?_ ?_ ?_
            · kernel_rfl
            · kernel_rfl
            · kernel_rfl
            · (intro _ _ _ hq; exact hq)
            · rfl
            · assumption
            try simp only [Act.put, List.setIfInBounds_toArray, List.set_cons_zero, List.set_cons_succ]
            refine take_un (i := 5) (d := (some 58)) rfl rfl ?_ ?_ ?_ ?_ ?_ ?_ ?_
            · kernel_rfl
            · kernel_rfl
            · kernel_rfl
            · (intro _ _ _ hq; exact hq)
            · rfl
            · assumption
            try simp only [Act.put, List.setIfInBounds_toArray, List.set_cons_zero, List.set_cons_succ]
            refine take_un (i := 6) (d := (some 59)) rfl rfl ?_ ?_ ?_ ?_ ?_ ?_ ?_
            · kernel_rfl
            · kernel_rfl
            · kernel_rfl
            · (intro _ _ _ hq; exact hq)
            · rfl
            · assumption
            try simp only [Act.put, List.setIfInBounds_toArray, List.set_cons_zero, List.set_cons_succ]
            refine take_un (i := 7) (d := (some 60)) rfl rfl ?_ ?_ ?_ ?_ ?_ ?_ ?_
            · kernel_rfl
            · kernel_rfl
            · kernel_rfl
            · (intro _ _ _ hq; exact hq)
            · rfl
            · assumption
            try simp only [Act.put, List.setIfInBounds_toArray, List.set_cons_zero, List.set_cons_succ]
            refine take_un (i := 8) (d := (some 61)) rfl rfl ?_ ?_ ?_ ?_ ?_ ?_ ?_
            · kernel_rfl
            · kernel_rfl
            · kernel_rfl
            · (intro _ _ _ hq; exact hq)
            · rfl
            · assumption
            try simp only [Act.put, List.setIfInBounds_toArray, List.set_cons_zero, List.set_cons_succ]
            refine take_un (i := 9) (d := (some 62)) rfl rfl ?_ ?_ ?_ ?_ ?_ ?_ ?_
            · kernel_rfl
            · kernel_rfl
            · kernel_rfl
            · (intro _ _ _ hq; exact hq)
            · rfl
            · assumption
            try simp only [Act.put, List.setIfInBounds_toArray, List.set_cons_zero, List.set_cons_succ]
            refine take_un (i := 10) (d := (some 63)) rfl rfl ?_ ?_ ?_ ?_ ?_ ?_ ?_
            · kernel_rfl
            · kernel_rfl
            · kernel_rfl
            · (intro _ _ _ hq; exact hq)
            · rfl
            · assumption
            try simp only [Act.put, List.setIfInBounds_toArray, List.set_cons_zero, List.set_cons_succ]
            refine take_un (i := 11) (d := (some 64)) rfl rfl ?_ ?_ ?_ ?_ ?_ ?_ ?_
            · kernel_rfl
            · kernel_rfl
            · kernel_rfl
            · (intro _ _ _ hq; exact hq)
            · rfl
            · assumption
            try simp only [Act.put, List.setIfInBounds_toArray, List.set_cons_zero, List.set_cons_succ]
            refine take_un (i := 12) (d := (some 65)) rfl rfl ?_ ?_ ?_ ?_ ?_ ?_ ?_
            · kernel_rfl
            · kernel_rfl
            · kernel_rfl
            · (intro _ _ _ hq; exact hq)
            · rfl
            · assumption
            try simp only [Act.put, List.setIfInBounds_toArray, List.set_cons_zero, List.set_cons_succ]
            refine take_un (i := 13) (d := (some 66)) rfl rfl ?_ ?_ ?_ ?_ ?_ ?_ ?_
            · kernel_rfl
            · kernel_rfl
            · kernel_rfl
            · (intro _ _ _ hq; exact hq)
            · rfl
            · assumption
            try simp only [Act.put, List.setIfInBounds_toArray, List.set_cons_zero, List.set_cons_succ]
            refine take_in (i := 14) (v := ?_) (d := (some 67)) rfl rfl ?_ ?_ ?_ ?_ ?_ ?_ ?_ ?_
            rotate_left
            · kernel_rfl
            · kernel_rfl
            · kernel_rfl
            · (intro _ _ _ hq; exact hq)
            · rfl
            · (intro _w hSw; (try dsimp only at hSw); go_simp; try with_reducible rfl)
            · assumption
            try simp only [Act.put, List.setIfInBounds_toArray, List.set_cons_zero, List.set_cons_succ]
            refine wpAnyH_done ?_ ?_ _
            · kernel_rfl
            rotate_left
            all_goals
              obtain ⟨hW5, -⟩ := hHeld
              clear KS s0 s1 hd2
              go_wp2_with fail
              go_loopw [10] (fun jv w5 => ∃ j : Nat, j ≤ q ∧ jv = .int .i64 j ∧ Gr W2 w5) (fun jv _ => q - (intOf jv).toNat)
              case atStart => exact ⟨0, Nat.zero_le _, rfl, hW5⟩
              case round =>
                obtain ⟨j, hj, rfl, hgj⟩ := hrel
                by_cases hlj : j < q
                · obtain ⟨b2, o2, e2, t0, t1⟩ := Pts_at (HP.out.keep (hgo.trans (hWg.trans hgj))) (k := j) (by have := HQ.out; omega)
                  obtain ⟨rfl, rfl⟩ : g1 = b2 ∧ 0 = o2 := by simpa using e2
                  simp only [Nat.zero_add] at t0 t1
                  have hed := HED.out hn1 j hlj
                  have hcj := HCQ.out j
                  generalize qs.getD j (0, 0) = pj at t0 t1 hed hcj
                  obtain ⟨a, b⟩ := pj
                  dsimp only at t0 t1 hcj
                  clear e2
                  replace l0 := hgj.keep l0
                  replace l1 := hgj.keep l1
                  replace l2 := hgj.keep l2
                  replace l3 := hgj.keep l3
                  have HTQ := Lib.hid (fun W => lturn_any x y x1 y1 a b W ck.1 ck.2 cm.1 cm.2 hcj.1 hcj.2)
                  have KS : Hid (∀ W', Gr wr W' → (Gr wr W' ∧ W'.cell? ⟨wo.heap.size, 0, none⟩ = wr.cell? ⟨wo.heap.size, 0, none⟩ ∧ W'.cell? ⟨wo.heap.size, 1, none⟩ = wr.cell? ⟨wo.heap.size, 1, none⟩ ∧ W'.cell? ⟨wo.heap.size + 1, 0, none⟩ = wr.cell? ⟨wo.heap.size + 1, 0, none⟩ ∧ W'.cell? ⟨wo.heap.size + 1, 1, none⟩ = wr.cell? ⟨wo.heap.size + 1, 1, none⟩ ∧ W'.cell? ⟨g1, j * 2, none⟩ = some (.int .i64 a) ∧ W'.cell? ⟨g1, j * 2 + 1, none⟩ = some (.int .i64 b))) := Lib.hid (fun W' h => ⟨h, (h.keep l0).trans l0.symm, (h.keep l1).trans l1.symm, (h.keep l2).trans l2.symm, (h.keep l3).trans l3.symm, h.keep t0, h.keep t1⟩)
                  have hs01 : sgn (crs x y x1 y1 a b) = 0 ∨ sgn (crs x y x1 y1 a b) = 1 := by
                    unfold cr at hed; dsimp only at hed
                    unfold sgn; split
                    · omega
                    · split
                      · exact Or.inr rfl
                      · exact Or.inl rfl
                  generalize sgn (crs x y x1 y1 a b) = sg at HTQ hs01
                  clear hed
                  rcases hs01 with rfl | rfl
                  all_goals
                    go_wp2_with fail
                    refine wp_region_held_drew (S := (fun W' => Gr wr W' ∧ W'.cell? ⟨wo.heap.size, 0, none⟩ = wr.cell? ⟨wo.heap.size, 0, none⟩ ∧ W'.cell? ⟨wo.heap.size, 1, none⟩ = wr.cell? ⟨wo.heap.size, 1, none⟩ ∧ W'.cell? ⟨wo.heap.size + 1, 0, none⟩ = wr.cell? ⟨wo.heap.size + 1, 0, none⟩ ∧ W'.cell? ⟨wo.heap.size + 1, 1, none⟩ = wr.cell? ⟨wo.heap.size + 1, 1, none⟩ ∧ W'.cell? ⟨g1, j * 2, none⟩ = some (.int .i64 a) ∧ W'.cell? ⟨g1, j * 2 + 1, none⟩ = some (.int .i64 b))) ?_ ?_ (fun hHeld => ?_)
                    · kernel_rfl
                    · ((try dsimp only); (refine KS.out _ ?_; (repeat (first | exact Gr.refl _ | exact hHeld.1 | (refine Gr.drew ?_) | (refine Gr.alloc ?_ _) | (refine Gr.setCell ?_ (by simp) _) | (refine Gr.trans ?_ (by assumption))))))
                    refine take_in (i := 0) (v := ?_) (d := (some 74)) rfl rfl ?_ ?_ ?_ ?_ ?_ ?_ ?_ ?_
                    rotate_left
                    · kernel_rfl
                    · kernel_rfl
                    · kernel_rfl
                    · (intro _ _ _ hq; exact hq)
                    · rfl
                    · (intro _w hSw; (try dsimp only at hSw); go_simp; try with_reducible rfl)
                    · assumption
                    try simp only [Act.put, List.setIfInBounds_toArray, List.set_cons_zero, List.set_cons_succ]
                    refine take_in (i := 1) (v := ?_) (d := (some 75)) rfl rfl ?_ ?_ ?_ ?_ ?_ ?_ ?_ ?_
                    rotate_left
                    · kernel_rfl
                    · kernel_rfl
                    · kernel_rfl
                    · (intro _ _ _ hq; exact hq)
                    · rfl
                    · (intro _w hSw; (try dsimp only at hSw); go_simp; try with_reducible rfl)
                    · assumption
                    try simp only [Act.put, List.setIfInBounds_toArray, List.set_cons_zero, List.set_cons_succ]
                    refine take_in (i := 2) (v := ?_) (d := (some 76)) rfl rfl ?_ ?_ ?_ ?_ ?_ ?_ ?_ ?_
                    rotate_left
                    · kernel_rfl
                    · kernel_rfl
                    · kernel_rfl
                    · (intro _ _ _ hq; exact hq)
                    · rfl
                    · (intro _w hSw; (try dsimp only at hSw); go_simp; try with_reducible rfl)
                    · assumption
                    try simp only [Act.put, List.setIfInBounds_toArray, List.set_cons_zero, List.set_cons_succ]
                    refine take_in (i := 3) (v := ?_) (d := (some 77)) rfl rfl ?_ ?_ ?_ ?_ ?_ ?_ ?_ ?_
                    rotate_left
                    · kernel_rfl
                    · kernel_rfl
                    · kernel_rfl
                    · (intro _ _ _ hq; exact hq)
                    · rfl
                    · (intro _w hSw; (try dsimp only at hSw); go_simp; try with_reducible rfl)
                    · assumption
                    try simp only [Act.put, List.setIfInBounds_toArray, List.set_cons_zero, List.set_cons_succ]
                    refine take_in (i := 4) (v := ?_) (d := (some 78)) rfl rfl ?_ ?_ ?_ ?_ ?_ ?_ ?_ ?_
                    rotate_left
                    · kernel_rfl
                    · kernel_rfl
                    · kernel_rfl
                    · (intro _ _ _ hq; exact hq)
                    · rfl
                    · (intro _w hSw; (try dsimp only at hSw); go_simp; try with_reducible rfl)
                    · assumption
                    try simp only [Act.put, List.setIfInBounds_toArray, List.set_cons_zero, List.set_cons_succ]
                    refine take_in (i := 5) (v := ?_) (d := (some 79)) rfl rfl ?_ ?_ ?_ ?_ ?_ ?_ ?_ ?_
                    rotate_left
                    · kernel_rfl
                    · kernel_rfl
                    · kernel_rfl
                    · (intro _ _ _ hq; exact hq)
                    · rfl
                    · (intro _w hSw; (try dsimp only at hSw); go_simp; try with_reducible rfl)
                    · assumption
                    try simp only [Act.put, List.setIfInBounds_toArray, List.set_cons_zero, List.set_cons_succ]
                    refine wpAnyH_ready (rs := [6]) ?_ ?_ ?_
                    · kernel_rfl
                    · simp
                    refine (AllReadyH.cons rfl (fun K hK => ?_) AllReadyH.nil)
                    go_simp
                    first | (go_at_call 48; (with_reducible refine (HTQ.out _).mono ?_); rintro e w4 ⟨rfl, hb⟩)
                    refine hK.out _ _ ?_ (fun hHeld => ?_)
                    · ((try dsimp only); (refine KS.out _ ?_; (repeat (first | exact Gr.refl _ | exact hHeld.1 | (refine Gr.drew ?_) | (refine Gr.alloc ?_ _) | (refine Gr.setCell ?_ (by simp) _) | (refine Gr.trans ?_ (by assumption))))))
                    clear hK K
                    try simp only [Act.put, List.setIfInBounds_toArray, List.set_cons_zero, List.set_cons_succ]
                    refine take_in (i := 7) (v := ?_) (d := (some 11)) rfl rfl ?_ ?_ ?_ ?_ ?_ ?_ ?_ ?_
                    rotate_left
                    · kernel_rfl
                    · kernel_rfl
                    · kernel_rfl
                    · (intro _ _ _ hq; exact hq)
                    · rfl
                    · (intro _w hSw; (try dsimp only at hSw); go_simp; try with_reducible rfl)
                    · assumption
                    try simp only [Act.put, List.setIfInBounds_toArray, List.set_cons_zero, List.set_cons_succ]
                    refine wpAnyH_done ?_ ?_ _
                    · kernel_rfl
                    rotate_left
                    all_goals
                      obtain ⟨hB, -⟩ := hHeld
                      go_wp2_with fail
                      go_roundw
                      case rel => exact ⟨j + 1, by omega, by go_num, hgj.trans hB⟩
                      case measure => simp [intOf]; omega
                · go_wp2_with fail
                  go_roundw
                  case rel => exact ⟨k + 1, by omega, by go_num, hgk.trans (hWg.trans hgj)⟩
                  case measure => simp [intOf]; omega
      · have hnn : ¬ (1 : Int) < (r : Int) := by omega
        go_wp2_with fail
        go_loopw [12, 13] (fun v iv wr => ∃ (t : Nat) (z : Int), t ≤ q ∧ z = (t : Int) - 1 ∧ iv = .int .i64 z ∧ Hid (wr.ownsRow w2.heap.size 23 2 v (q - t) (flat2 (qs.reverse.take (q - t)))) ∧ Gr w2 wr) (fun _ iv _ => ((intOf iv) + 1).toNat)
        case atStart => exact ⟨q, (q : Int) - 1, Nat.le_refl _, rfl, rfl, Lib.hid (by rw [Nat.sub_self]; exact World.ownsRow_nil _ _ _ _), hgk⟩
        case round =>
          obtain ⟨t, z, ht, hz, rfl, hown, hgt⟩ := hrel
          by_cases ht0 : t = 0
          · have hzn : z < 0 := by omega
            have HBK : Hid (wr.ownsRow w2.heap.size 23 2 u12 q (flat2 qs.reverse)) := Lib.hid (by
              have h := hown.out
              rw [ht0, Nat.sub_zero, List.take_of_length_le (by rw [List.length_reverse, HQ.out]; exact Nat.le_refl _)] at h
              exact h)
            obtain ⟨v0, v1, hvv, hqv⟩ : ∃ v0 v1, u12 = .slice (some ⟨v0, 0, none⟩) q v1 ∧ q ≤ v1 := by
              rcases HBK.out.2 with ⟨_, hz⟩ | ⟨gv, cv, _, hv, _, _, hnc, _⟩
              · omega
              · exact ⟨gv, cv, hv, hnc⟩
            subst hvv
            have HPB : Hid (Pts wr (some ⟨v0, 0, none⟩) qs.reverse) := Lib.hid (Own_of (by rw [List.length_reverse]; exact HQ.out) HBK.out).pts
            clear hown HBK hz ht0
            go_wp2_with fail
            refine (Hull_yes _ r c2 cs _ HR.out (by omega) (by omega) (HP2.out.keep hgt) HV2.out).mono ?_
            rintro e w6 ⟨g6, c6, rfl, hc6, -, hO6, hb6⟩
            rw [HI.out] at hO6 hc6 ⊢
            have HP6 := Lib.hid hO6.pts
            rw [HR.out] at hc6 ⊢
            clear hO6
            go_wp2_with fail
            refine (Hull_yes _ q v1 qs.reverse _ (by rw [List.length_reverse]; exact HQ.out) (by omega) (by omega) (HPB.out.keep hb6) HVR.out).mono ?_
            rintro e w7 ⟨g7, c7, rfl, hc7, -, hO7, hb7⟩
            rw [HER.out] at hO7 hc7 ⊢
            have HP7 := Lib.hid hO7.pts
            rw [HR.out] at hc7 ⊢
            clear hO7
            go_wp2_with fail
            refine (same_yes _ _ r c6 c2 cs _ HR.out (by omega) (HP6.out.keep hb7) (HP2.out.keep (hgt.trans (hb6.trans hb7)))).mono ?_
            rintro e w8 ⟨rfl, hb8⟩
            go_wp2_with fail
            refine (same_yes _ _ r c7 c2 cs _ HR.out (by omega) (HP7.out.keep hb8) (HP2.out.keep (hgt.trans (hb6.trans (hb7.trans hb8))))).mono ?_
            rintro e w9 ⟨rfl, hb9⟩
            go_wp2_with fail
            refine (awake_any _).mono ?_
            rintro e w10 ⟨rfl, hb10⟩
            go_wp2_with fail
            go_ret
            exact ⟨rfl, hgw2.trans (hgt.trans (hb6.trans (hb7.trans (hb8.trans (hb9.trans hb10)))))⟩
          · obtain ⟨t', rfl⟩ : ∃ t', t = t' + 1 := ⟨t - 1, by omega⟩
            obtain rfl : z = (t' : Int) := by omega
            obtain ⟨b2, o2, e2, p0, p1⟩ := Pts_at (HP.out.keep (hgo2.trans hgt)) (k := t') (by have := HQ.out; omega)
            obtain ⟨rfl, rfl⟩ : g1 = b2 ∧ 0 = o2 := by simpa using e2
            simp only [Nat.zero_add] at p0 p1
            have HTK : Hid (qs.reverse.take (q - t') = qs.reverse.take (q - (t' + 1)) ++ [qs.getD t' (0, 0)]) := Lib.hid (by
              have e : q - t' = (q - (t' + 1)) + 1 := by omega
              rw [e, List.take_add_one]
              congr 1
              rw [List.getElem?_reverse (by rw [HQ.out]; omega), HQ.out, show q - 1 - (q - (t' + 1)) = t' by omega, getD_of (0, 0) (by rw [HQ.out]; omega)]
              rfl)
            generalize qs.getD t' (0, 0) = pt at p0 p1 HTK
            obtain ⟨x, y⟩ := pt
            dsimp only at p0 p1
            have hnt : q - (t' + 1) + 1 ≤ 512 := by omega
            have HNT : Hid (q - (t' + 1) + 1 = q - t') := Lib.hid (by omega)
            generalize q - (t' + 1) = nt at hown hnt HTK HNT
            obtain ⟨hi, hz0, hz1, hz2⟩ := HI23.out
            clear e2 hz ht0
            go_wp2_with (at_builtin; refine wpList_append_own _ rfl _ _ 28 rfl w2.heap.size 23 i0 _ 2 16 Try.underlying28 hi hz0 hz1 hz2 rfl (by decide) _ _ _ rfl (hown.out.alloc _) ⟨wr.heap.size, 0, none⟩ 1 1 [.int .i64 x, .int .i64 y] rfl rfl ?a1 ?a2 ?a3 ?a4 ?a5 ?_)
            case a1 =>
              intro t u ht
              rw [Addr.add_lit]
              exact alloc_new rfl (by rw [Nat.zero_add]; simpa using ht)
            case a2 =>
              intro u hu
              simp at hu
              rcases hu with rfl | rfl <;> rfl
            case a3 => unfold maxLen; omega
            case a4 => omega
            case a5 => have := hgt.size; simp; omega
            intro v' w5 hown' hgrow _
            have hga : Gr w2 (wr.alloc _) := hgt.alloc (.cells #[.int .i64 x, .int .i64 y] 23)
            have hgb : Gr w2 w5 := Below.grown hga hgrow hga.size (fun t ht => (hown.out.lt t ht).1)
            have HO2 := Lib.hid hown'
            clear hown' hgrow hi hz0 hz1 hz2 hga p0 p1
            go_wp2_with fail
            go_roundw
            case rel => exact ⟨t', (t' : Int) - 1, by omega, rfl, by go_num, Lib.hid (by
              have h := HO2.out
              rw [HNT.out] at h
              rw [HTK.out, flat2_snoc]
              exact h), hgb⟩
            case measure => (simp [intOf]; try omega)
    · have hgk := hgk
      go_wp2_with fail
      go_loopw [12, 13] (fun v iv wr => ∃ (t : Nat) (z : Int), t ≤ q ∧ z = (t : Int) - 1 ∧ iv = .int .i64 z ∧ Hid (wr.ownsRow w2.heap.size 23 2 v (q - t) (flat2 (qs.reverse.take (q - t)))) ∧ Gr w2 wr) (fun _ iv _ => ((intOf iv) + 1).toNat)
      case atStart => exact ⟨q, (q : Int) - 1, Nat.le_refl _, rfl, rfl, Lib.hid (by rw [Nat.sub_self]; exact World.ownsRow_nil _ _ _ _), hgk⟩
      case round =>
        obtain ⟨t, z, ht, hz, rfl, hown, hgt⟩ := hrel
        by_cases ht0 : t = 0
        · have hzn : z < 0 := by omega
          have HBK : Hid (wr.ownsRow w2.heap.size 23 2 u12 q (flat2 qs.reverse)) := Lib.hid (by
            have h := hown.out
            rw [ht0, Nat.sub_zero, List.take_of_length_le (by rw [List.length_reverse, HQ.out]; exact Nat.le_refl _)] at h
            exact h)
          obtain ⟨v0, v1, hvv, hqv⟩ : ∃ v0 v1, u12 = .slice (some ⟨v0, 0, none⟩) q v1 ∧ q ≤ v1 := by
            rcases HBK.out.2 with ⟨_, hz⟩ | ⟨gv, cv, _, hv, _, _, hnc, _⟩
            · omega
            · exact ⟨gv, cv, hv, hnc⟩
          subst hvv
          have HPB : Hid (Pts wr (some ⟨v0, 0, none⟩) qs.reverse) := Lib.hid (Own_of (by rw [List.length_reverse]; exact HQ.out) HBK.out).pts
          clear hown HBK hz ht0
          go_wp2_with fail
          refine (Hull_yes _ r c2 cs _ HR.out (by omega) (by omega) (HP2.out.keep hgt) HV2.out).mono ?_
          rintro e w6 ⟨g6, c6, rfl, hc6, -, hO6, hb6⟩
          rw [HI.out] at hO6 hc6 ⊢
          have HP6 := Lib.hid hO6.pts
          rw [HR.out] at hc6 ⊢
          clear hO6
          go_wp2_with fail
          refine (Hull_yes _ q v1 qs.reverse _ (by rw [List.length_reverse]; exact HQ.out) (by omega) (by omega) (HPB.out.keep hb6) HVR.out).mono ?_
          rintro e w7 ⟨g7, c7, rfl, hc7, -, hO7, hb7⟩
          rw [HER.out] at hO7 hc7 ⊢
          have HP7 := Lib.hid hO7.pts
          rw [HR.out] at hc7 ⊢
          clear hO7
          go_wp2_with fail
          refine (same_yes _ _ r c6 c2 cs _ HR.out (by omega) (HP6.out.keep hb7) (HP2.out.keep (hgt.trans (hb6.trans hb7)))).mono ?_
          rintro e w8 ⟨rfl, hb8⟩
          go_wp2_with fail
          refine (same_yes _ _ r c7 c2 cs _ HR.out (by omega) (HP7.out.keep hb8) (HP2.out.keep (hgt.trans (hb6.trans (hb7.trans hb8))))).mono ?_
          rintro e w9 ⟨rfl, hb9⟩
          go_wp2_with fail
          refine (awake_any _).mono ?_
          rintro e w10 ⟨rfl, hb10⟩
          go_wp2_with fail
          go_ret
          exact ⟨rfl, hgw2.trans (hgt.trans (hb6.trans (hb7.trans (hb8.trans (hb9.trans hb10)))))⟩
        · obtain ⟨t', rfl⟩ : ∃ t', t = t' + 1 := ⟨t - 1, by omega⟩
          obtain rfl : z = (t' : Int) := by omega
          obtain ⟨b2, o2, e2, p0, p1⟩ := Pts_at (HP.out.keep (hgo2.trans hgt)) (k := t') (by have := HQ.out; omega)
          obtain ⟨rfl, rfl⟩ : g1 = b2 ∧ 0 = o2 := by simpa using e2
          simp only [Nat.zero_add] at p0 p1
          have HTK : Hid (qs.reverse.take (q - t') = qs.reverse.take (q - (t' + 1)) ++ [qs.getD t' (0, 0)]) := Lib.hid (by
            have e : q - t' = (q - (t' + 1)) + 1 := by omega
            rw [e, List.take_add_one]
            congr 1
            rw [List.getElem?_reverse (by rw [HQ.out]; omega), HQ.out, show q - 1 - (q - (t' + 1)) = t' by omega, getD_of (0, 0) (by rw [HQ.out]; omega)]
            rfl)
          generalize qs.getD t' (0, 0) = pt at p0 p1 HTK
          obtain ⟨x, y⟩ := pt
          dsimp only at p0 p1
          have hnt : q - (t' + 1) + 1 ≤ 512 := by omega
          have HNT : Hid (q - (t' + 1) + 1 = q - t') := Lib.hid (by omega)
          generalize q - (t' + 1) = nt at hown hnt HTK HNT
          obtain ⟨hi, hz0, hz1, hz2⟩ := HI23.out
          clear e2 hz ht0
          go_wp2_with (at_builtin; refine wpList_append_own _ rfl _ _ 28 rfl w2.heap.size 23 i0 _ 2 16 Try.underlying28 hi hz0 hz1 hz2 rfl (by decide) _ _ _ rfl (hown.out.alloc _) ⟨wr.heap.size, 0, none⟩ 1 1 [.int .i64 x, .int .i64 y] rfl rfl ?a1 ?a2 ?a3 ?a4 ?a5 ?_)
          case a1 =>
            intro t u ht
            rw [Addr.add_lit]
            exact alloc_new rfl (by rw [Nat.zero_add]; simpa using ht)
          case a2 =>
            intro u hu
            simp at hu
            rcases hu with rfl | rfl <;> rfl
          case a3 => unfold maxLen; omega
          case a4 => omega
          case a5 => have := hgt.size; simp; omega
          intro v' w5 hown' hgrow _
          have hga : Gr w2 (wr.alloc _) := hgt.alloc (.cells #[.int .i64 x, .int .i64 y] 23)
          have hgb : Gr w2 w5 := Below.grown hga hgrow hga.size (fun t ht => (hown.out.lt t ht).1)
          have HO2 := Lib.hid hown'
          clear hown' hgrow hi hz0 hz1 hz2 hga p0 p1
          go_wp2_with fail
          go_roundw
          case rel => exact ⟨t', (t' : Int) - 1, by omega, rfl, by go_num, Lib.hid (by
            have h := HO2.out
            rw [HNT.out] at h
            rw [HTK.out, flat2_snoc]
            exact h), hgb⟩
          case measure => (simp [intOf]; try omega)

end Go.Proofs.Ytfihmjobnffjfaa
