/- The law PlaneHulls as a walk. -/
import Derived.Test.YtfihmjobnffjfaaLawWidest
import Derived.Test.YtfihmjobnffjfaaRHull
import Derived.Test.YtfihmjobnffjfaaSame
import Derived.Test.YtfihmjobnffjfaaLawAreas
namespace Go.Proofs.Ytfihmjobnffjfaa
open Go.RowKit
set_option linter.unusedSimpArgs false

set_option maxRecDepth 100000 in
set_option maxHeartbeats 1000000 in
theorem rSet_any (A : Option Addr) (n c : Nat) (ps : List (Int × Int)) (w : World) (hn : ps.length = n) (hl : n ≤ 1048576) (hp : Pts w A ps) (r : Bool) (hr : (decide (1 ≤ n ∧ n ≤ 512) && ps.all fun p => vld p.1 p.2) = r) :
    Calls Try.prog 28 #[.slice A n c] w fun e w' => e = .returned (.bool r) ∧ Gr w w' := by
  by_cases h : 1 ≤ n ∧ n ≤ 512
  · have HR : Hid ((ps.all fun p => vld p.1 p.2) = r) := Lib.hid (by rw [← hr]; simp [h])
    have HN := Lib.hid hn
    have HP := Lib.hid hp
    obtain ⟨h1, h2⟩ := h
    clear hn hp hr
    go_enter Try.func28, Try.ntmps28
    go_wp2_with fail
    refine (rValids_any A n c ps _ HN.out (by omega) HP.out r HR.out).mono ?_
    rintro e w1 ⟨rfl, hb⟩
    go_wp2_with fail
    go_ret
    exact ⟨rfl, hb⟩
  · obtain rfl : r = false := by rw [← hr]; simp; intro h1 h2; exact absurd ⟨h1, h2⟩ h
    clear hn hp hr
    by_cases h1 : 1 ≤ n
    · have h2 : ¬ n ≤ 512 := fun k => h ⟨h1, k⟩
      clear h
      go_enter Try.func28, Try.ntmps28
      go_wp2_with fail
      go_ret
      exact ⟨rfl, Gr.refl _⟩
    · clear h
      go_enter Try.func28, Try.ntmps28
      go_wp2_with fail
      go_ret
      exact ⟨rfl, Gr.refl _⟩

set_option maxRecDepth 100000 in
set_option maxHeartbeats 2000000 in
theorem lawHulls_any (A : Option Addr) (n c : Nat) (ps : List (Int × Int)) (w : World) (hn : ps.length = n) (hl : n ≤ 8796093022208) (hc : n ≤ c) (h0 : A = none → c = 0) (hp : Pts w A ps) :
    Calls Try.prog 5 #[.slice A n c] w fun e w' => e = .returned (.bool true) ∧ Gr w w' := by
  have HS := Lib.hid (fun W (hW : Gr w W) => some_any A n c 120 ps W hn hl hc h0 (by omega) (hp.keep hW))
  have hql := take_len hn (m := 120)
  generalize ps.take (someN n 120) = qs at HS hql
  obtain ⟨q, hq⟩ : ∃ q, qs.length = q := ⟨_, rfl⟩
  rw [hq] at hql
  have HQ := Lib.hid hq
  clear hn hl hc h0 hp hq
  rcases hv : (decide (1 ≤ q ∧ q ≤ 512) && qs.all fun p => vld p.1 p.2) with _ | _
  · have HV := Lib.hid hv
    clear hv
    go_enter Try.func5, Try.ntmps5
    go_wp2_with fail
    refine (HS.out _ (by (repeat (first | exact Gr.refl _ | assumption | (refine Gr.drew ?_) | (refine Gr.drewN ?_ _) | (refine Gr.alloc ?_ _) | (refine Gr.trans ?_ (by assumption)))))).mono ?_
    rintro e w1 ⟨A1, c1, rfl, hc1, hP, hg⟩
    have HP := Lib.hid hP
    clear hP HS hc1
    rw [HQ.out]
    go_wp2_with fail
    refine (Hull_no A1 q c1 qs _ HQ.out (by omega) HP.out HV.out).mono ?_
    rintro e w2 ⟨rfl, hg2⟩
    go_wp2_with fail
    refine (rSet_any A1 q c1 qs _ HQ.out (by omega) (HP.out.keep hg2) _ HV.out).mono ?_
    rintro e w3 ⟨rfl, hg3⟩
    go_wp2_with fail
    refine (awake_any _).mono ?_
    rintro e w4 ⟨rfl, hg4⟩
    go_wp2_with fail
    go_ret
    exact ⟨rfl, ((hg.trans hg2).trans hg3).trans hg4⟩
  · have hv2 : (1 ≤ q ∧ q ≤ 512) ∧ (qs.all fun p => vld p.1 p.2) = true := by
      rw [Bool.and_eq_true, decide_eq_true_eq] at hv; exact hv
    have HV := Lib.hid hv
    have HA := Lib.hid hv2.2
    obtain ⟨⟨hq1, hq2⟩, -⟩ := hv2
    have hlen := cornersL_len qs (by rw [HQ.out]; exact hq1)
    rw [HQ.out] at hlen
    obtain ⟨cs, hcs⟩ : ∃ cs, cornersL qs = cs := ⟨_, rfl⟩
    rw [hcs] at hlen
    have HE := Lib.hid hcs
    obtain ⟨r, hr⟩ : ∃ r, cs.length = r := ⟨_, rfl⟩
    rw [hr] at hlen
    have HR := Lib.hid hr
    clear hv hcs hr
    go_enter Try.func5, Try.ntmps5
    go_wp2_with fail
    refine (HS.out _ (by (repeat (first | exact Gr.refl _ | assumption | (refine Gr.drew ?_) | (refine Gr.drewN ?_ _) | (refine Gr.alloc ?_ _) | (refine Gr.trans ?_ (by assumption)))))).mono ?_
    rintro e w1 ⟨A1, c1, rfl, hc1, hP, hg⟩
    have HP := Lib.hid hP
    clear hP HS hc1
    rw [HQ.out]
    go_wp2_with fail
    refine (Hull_yes A1 q c1 qs _ HQ.out hq1 hq2 HP.out HA.out).mono ?_
    rintro e w2 ⟨g2, c2, rfl, hc2, -, hO2, hg2⟩
    rw [HE.out] at hO2 hc2 ⊢
    have HP2 := Lib.hid hO2.pts
    rw [HR.out] at hc2 ⊢
    clear hO2
    go_wp2_with fail
    refine (rSet_any A1 q c1 qs _ HQ.out (by omega) (HP.out.keep hg2) _ HV.out).mono ?_
    rintro e w3 ⟨rfl, hg3⟩
    go_wp2_with fail
    refine (rHull_any A1 q c1 qs _ HQ.out hq1 hq2 (HP.out.keep (hg2.trans hg3)) (Cos_of HA.out)).mono ?_
    rintro e w4 ⟨g4, c4, rfl, hP4, hg4⟩
    rw [HE.out] at hP4 ⊢
    have HP4 := Lib.hid hP4
    rw [HR.out]
    clear hP4
    go_wp2_with fail
    refine (same_yes _ _ r c2 c4 cs _ HR.out (by omega) (HP2.out.keep (hg3.trans hg4)) HP4.out).mono ?_
    rintro e w5 ⟨rfl, hg5⟩
    go_wp2_with fail
    refine (awake_any _).mono ?_
    rintro e w6 ⟨rfl, hg6⟩
    go_wp2_with fail
    go_ret
    exact ⟨rfl, ((((hg.trans hg2).trans hg3).trans hg4).trans hg5).trans hg6⟩

end Go.Proofs.Ytfihmjobnffjfaa
