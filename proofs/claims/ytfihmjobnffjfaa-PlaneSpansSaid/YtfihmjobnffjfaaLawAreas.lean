/- The law PlaneAreas as a walk. -/
import Derived.Test.YtfihmjobnffjfaaSome
import Derived.Test.YtfihmjobnffjfaaRArea
import Derived.Test.YtfihmjobnffjfaaTurns
namespace Go.Proofs.Ytfihmjobnffjfaa
open Go.RowKit
set_option linter.unusedSimpArgs false

theorem take_len {ps : List (Int × Int)} {n m : Nat} (hn : ps.length = n) : (ps.take (someN n m)).length ≤ 513 := by
  rw [List.length_take]; unfold someN; split <;> omega

set_option maxRecDepth 100000 in
set_option maxHeartbeats 2000000 in
theorem lawAreas_any (A : Option Addr) (n c : Nat) (ps : List (Int × Int)) (w : World) (hn : ps.length = n) (hl : n ≤ 8796093022208) (hc : n ≤ c) (h0 : A = none → c = 0) (hp : Pts w A ps) :
    Calls Try.prog 4 #[.slice A n c] w fun e w' => e = .returned (.bool true) ∧ Gr w w' := by
  have HS := Lib.hid (fun W (hW : Gr w W) => some_any A n c 300 ps W hn hl hc h0 (by omega) (hp.keep hW))
  have hql := take_len hn (m := 300)
  generalize ps.take (someN n 300) = qs at HS hql
  obtain ⟨q, hq⟩ : ∃ q, qs.length = q := ⟨_, rfl⟩
  rw [hq] at hql
  have HQ := Lib.hid hq
  clear hn hl hc h0 hp hq
  rcases hv : (qs.all fun p => vld p.1 p.2) with _ | _
  · have HV := Lib.hid hv
    clear hv
    go_enter Try.func4, Try.ntmps4
    go_wp2_with fail
    refine (HS.out _ (by (repeat (first | exact Gr.refl _ | assumption | (refine Gr.drew ?_) | (refine Gr.drewN ?_ _) | (refine Gr.alloc ?_ _) | (refine Gr.trans ?_ (by assumption)))))).mono ?_
    rintro e w1 ⟨A1, c1, rfl, hc1, hP, hg⟩
    have HP := Lib.hid hP
    clear hP HS hc1
    rw [HQ.out]
    go_wp2_with fail
    refine (Area_no A1 q c1 qs _ HQ.out (by omega) HP.out (Or.inr HV.out)).mono ?_
    rintro e w2 ⟨rfl, hg2⟩
    by_cases h5 : 512 < q
    · go_wp2_with fail
      refine (awake_any _).mono ?_
      rintro e w4 ⟨rfl, hg4⟩
      go_wp2_with fail
      go_ret
      exact ⟨rfl, (hg.trans hg2).trans hg4⟩
    · go_wp2_with fail
      refine (rValids_any A1 q c1 qs _ HQ.out (by omega) (HP.out.keep hg2) _ HV.out).mono ?_
      rintro e w3 ⟨rfl, hg3⟩
      go_wp2_with fail
      refine (awake_any _).mono ?_
      rintro e w4 ⟨rfl, hg4⟩
      go_wp2_with fail
      go_ret
      exact ⟨rfl, ((hg.trans hg2).trans hg3).trans hg4⟩
  · have HV := Lib.hid hv
    clear hv
    go_enter Try.func4, Try.ntmps4
    go_wp2_with fail
    refine (HS.out _ (by (repeat (first | exact Gr.refl _ | assumption | (refine Gr.drew ?_) | (refine Gr.drewN ?_ _) | (refine Gr.alloc ?_ _) | (refine Gr.trans ?_ (by assumption)))))).mono ?_
    rintro e w1 ⟨A1, c1, rfl, hc1, hP, hg⟩
    have HP := Lib.hid hP
    clear hP HS hc1
    rw [HQ.out]
    go_wp2_with fail
    by_cases h5 : 512 < q
    · refine (Area_no A1 q c1 qs _ HQ.out (by omega) HP.out (Or.inl h5)).mono ?_
      rintro e w2 ⟨rfl, hg2⟩
      go_wp2_with fail
      refine (awake_any _).mono ?_
      rintro e w4 ⟨rfl, hg4⟩
      go_wp2_with fail
      go_ret
      exact ⟨rfl, (hg.trans hg2).trans hg4⟩
    · refine (Area_yes A1 q c1 qs _ HQ.out (by omega) HP.out HV.out).mono ?_
      rintro e w2 ⟨rfl, hg2⟩
      go_wp2_with fail
      refine (rValids_any A1 q c1 qs _ HQ.out (by omega) (HP.out.keep hg2) _ HV.out).mono ?_
      rintro e w3 ⟨rfl, hg3⟩
      have HR := Lib.hid (rArea_any A1 q c1 qs w3 HQ.out (by omega) (HP.out.keep (hg2.trans hg3)) (Cos_of HV.out))
      generalize areaL qs = a at HR ⊢
      go_wp2_with fail
      refine HR.out.mono ?_
      rintro e w4 ⟨rfl, hg4⟩
      go_wp2_with fail
      refine (awake_any _).mono ?_
      rintro e w5 ⟨rfl, hg5⟩
      go_wp2_with fail
      go_ret
      exact ⟨rfl, (((hg.trans hg2).trans hg3).trans hg4).trans hg5⟩

end Go.Proofs.Ytfihmjobnffjfaa
