/- The law PlaneWidest as a walk. -/
import Derived.Test.YtfihmjobnffjfaaSet
import Derived.Test.YtfihmjobnffjfaaWidest
import Derived.Test.YtfihmjobnffjfaaHullB
namespace Go.Proofs.Ytfihmjobnffjfaa
open Go.RowKit
set_option linter.unusedSimpArgs false

theorem all_vld {l : List (Int × Int)} (h : AllCo l) : (l.all fun p => vld p.1 p.2) = true :=
  List.all_eq_true.2 fun p hp => (vld_iff _ _).2 (h p hp)

set_option maxRecDepth 100000 in
set_option maxHeartbeats 2000000 in
theorem lawWidest_any (A : Option Addr) (n c : Nat) (ps : List (Int × Int)) (w : World) (hn : ps.length = n) (hl : n ≤ 8796093022208) (hp : Pts w A ps) :
    Calls Try.prog 14 #[.slice A n c] w fun e w' => e = .returned (.bool true) ∧ Gr w w' := by
  have HS := Lib.hid (fun W (hW : Gr w W) => set_any A n c 50 ps W hn hl (by omega) (by omega) (hp.keep hW))
  have hql := setL_len ps 50 (by omega)
  have hco := setL_co ps 50
  generalize setL ps 50 = qs at HS hql hco
  obtain ⟨q, hq⟩ : ∃ q, qs.length = q := ⟨_, rfl⟩
  have hcl := cornersL_len qs (by omega)
  have hcc := all_Cos (cornersL_co (Cos_all hco))
  have hid := corners_idem qs (by omega)
  obtain ⟨cs, hcs⟩ : ∃ cs, cornersL qs = cs := ⟨_, rfl⟩
  rw [hcs] at hcl hcc hid
  obtain ⟨r, hr⟩ : ∃ r, cs.length = r := ⟨_, rfl⟩
  rw [hr] at hcl
  rw [hq] at hql hcl
  obtain ⟨d, hd⟩ : ∃ d, widestL cs = d := ⟨_, rfl⟩
  have HQ := Lib.hid hq
  have HV := Lib.hid (all_vld hco)
  have HV2 := Lib.hid (all_vld hcc)
  have HE := Lib.hid hcs
  have HI := Lib.hid hid
  have HR := Lib.hid hr
  have HD := Lib.hid hd
  clear hn hl hp hq hco hcc hid hcs hr hd
  go_enter Try.func14, Try.ntmps14
  go_wp2_with fail
  refine (HS.out _ (by (repeat (first | exact Gr.refl _ | assumption | (refine Gr.drew ?_) | (refine Gr.drewN ?_ _) | (refine Gr.alloc ?_ _) | (refine Gr.trans ?_ (by assumption)))))).mono ?_
  rintro e w1 ⟨g1, c1, rfl, hc1, hg1, hO, hg⟩
  have HP := Lib.hid (Own_of rfl hO).pts
  clear hO HS hc1 hg1
  rw [HQ.out]
  go_wp2_with fail
  refine (Hull_yes _ q c1 qs _ HQ.out hql.1 (by omega) HP.out HV.out).mono ?_
  rintro e w2 ⟨g2, c2, rfl, hc2, hg2, hO2, hb2⟩
  rw [HE.out] at hO2 hc2 ⊢
  have HP2 := Lib.hid hO2.pts
  rw [HR.out] at hc2 ⊢
  clear hO2 hg2
  go_wp2_with fail
  refine (Widest_yes _ q c1 qs _ HQ.out hql.1 (by omega) (HP.out.keep hb2) HV.out).mono ?_
  rintro e w3 ⟨rfl, hb3⟩
  rw [HE.out, HD.out]
  have hr0 : ((r : Int) == 0) = false := by simp; omega
  go_wp2_with fail
  refine (Widest_yes _ r c2 cs _ HR.out (by omega) (by omega) (HP2.out.keep hb3) HV2.out).mono ?_
  rintro e w4 ⟨rfl, hb4⟩
  rw [HI.out, HD.out]
  go_wp2_with fail
  refine (awake_any _).mono ?_
  rintro e w5 ⟨rfl, hb5⟩
  go_wp2_with fail
  go_ret
  exact ⟨rfl, (((hg.trans hb2).trans hb3).trans hb4).trans hb5⟩

end Go.Proofs.Ytfihmjobnffjfaa
