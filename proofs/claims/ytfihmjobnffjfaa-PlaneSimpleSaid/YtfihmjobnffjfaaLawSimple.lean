/- The laws PlaneSimple and PlaneInside as walks. -/
import Derived.Test.YtfihmjobnffjfaaLawAreas
import Derived.Test.YtfihmjobnffjfaaRSimple2
import Derived.Test.YtfihmjobnffjfaaRInside
namespace Go.Proofs.Ytfihmjobnffjfaa
open Go.RowKit
set_option linter.unusedSimpArgs false

set_option maxRecDepth 100000 in
set_option maxHeartbeats 2000000 in
theorem lawSimple_any (A : Option Addr) (n c : Nat) (ps : List (Int × Int)) (w : World) (hn : ps.length = n) (hl : n ≤ 8796093022208) (hc : n ≤ c) (h0 : A = none → c = 0) (hp : Pts w A ps) :
    Calls Try.prog 7 #[.slice A n c] w fun e w' => e = .returned (.bool true) ∧ Gr w w' := by
  have HS := Lib.hid (fun W (hW : Gr w W) => some_any A n c 60 ps W hn hl hc h0 (by omega) (hp.keep hW))
  have hql := take_len hn (m := 60)
  generalize ps.take (someN n 60) = qs at HS hql
  obtain ⟨q, hq⟩ : ∃ q, qs.length = q := ⟨_, rfl⟩
  rw [hq] at hql
  have HQ := Lib.hid hq
  clear hn hl hc h0 hp hq
  go_enter Try.func7, Try.ntmps7
  go_wp2_with fail
  refine (HS.out _ (by (repeat (first | exact Gr.refl _ | assumption | (refine Gr.drew ?_) | (refine Gr.drewN ?_ _) | (refine Gr.alloc ?_ _) | (refine Gr.trans ?_ (by assumption)))))).mono ?_
  rintro e w1 ⟨A1, c1, rfl, hc1, hP, hg⟩
  have HP := Lib.hid hP
  clear hP HS hc1
  rw [HQ.out]
  go_wp2_with fail
  refine (Simple_any A1 q c1 qs _ HQ.out (by omega) HP.out).mono ?_
  rintro e w2 ⟨r, rfl, hr, hg2⟩
  have HR := Lib.hid hr
  clear hr
  go_wp2_with fail
  refine (rSimple_any A1 q c1 qs _ HQ.out (by omega) (HP.out.keep hg2)).mono ?_
  rintro e w3 ⟨r', rfl, hr, hg3⟩
  obtain rfl : r = r' := by rw [Bool.eq_iff_iff]; exact HR.out.trans hr.symm
  clear hr HR
  cases r
  all_goals
    go_wp2_with fail
    refine (awake_any _).mono ?_
    rintro e w4 ⟨rfl, hg4⟩
    go_wp2_with fail
    go_ret
    exact ⟨rfl, ((hg.trans hg2).trans hg3).trans hg4⟩

set_option maxRecDepth 100000 in
set_option maxHeartbeats 2000000 in
theorem lawInside_any (A : Option Addr) (n c : Nat) (ps : List (Int × Int)) (x y : Int) (w : World) (hn : ps.length = n) (hl : n ≤ 8796093022208) (hc : n ≤ c) (h0 : A = none → c = 0) (hp : Pts w A ps) :
    Calls Try.prog 8 #[.slice A n c, .agg #[.int .i64 x, .int .i64 y]] w fun e w' => e = .returned (.bool true) ∧ Gr w w' := by
  have HS := Lib.hid (fun W (hW : Gr w W) => some_any A n c 60 ps W hn hl hc h0 (by omega) (hp.keep hW))
  have hql := take_len hn (m := 60)
  generalize ps.take (someN n 60) = qs at HS hql
  obtain ⟨q, hq⟩ : ∃ q, qs.length = q := ⟨_, rfl⟩
  rw [hq] at hql
  have HQ := Lib.hid hq
  clear hn hl hc h0 hp hq
  go_enter Try.func8, Try.ntmps8
  go_wp2_with fail
  generalize hW : World.alloc w _ = W
  have hgW : Gr w W := by rw [← hW]; exact (Gr.refl _).alloc _
  have b0 : W.cell? ⟨w.heap.size, 0, none⟩ = some (.int .i64 x) := by rw [← hW]; exact alloc_new rfl rfl
  have b1 : W.cell? ⟨w.heap.size, 1, none⟩ = some (.int .i64 y) := by rw [← hW]; exact alloc_new rfl rfl
  clear hW
  refine (HS.out _ hgW).mono ?_
  rintro e w1 ⟨A1, c1, rfl, hc1, hP, hg⟩
  have HP := Lib.hid hP
  clear hP HS hc1
  rw [HQ.out]
  replace b0 := hg.keep b0
  replace b1 := hg.keep b1
  go_wp2_with fail
  by_cases hok : SimpleP qs ∧ vld x y = true
  · have HOK := Lib.hid hok
    obtain ⟨px, py⟩ : Co x ∧ Co y := (vld_iff x y).1 hok.2
    have hq5 : q ≤ 512 := by have := hok.1.2.1; rw [HQ.out] at this; exact this
    clear hok
    generalize hi : insideL qs x y = a
    have HI := Lib.hid hi
    clear hi
    refine (Inside_yes A1 q c1 qs x y _ HQ.out hq5 HP.out HOK.out.1 HOK.out.2).mono ?_
    rw [HI.out]
    rintro e w2 ⟨rfl, hg2⟩
    replace b0 := hg2.keep b0
    replace b1 := hg2.keep b1
    go_wp2_with fail
    refine (rSimple_any A1 q c1 qs _ HQ.out (by omega) (HP.out.keep hg2)).mono ?_
    rintro e w3 ⟨r', rfl, hr, hg3⟩
    obtain rfl : r' = true := hr.2 HOK.out.1
    clear hr
    replace b0 := hg3.keep b0
    replace b1 := hg3.keep b1
    go_wp2_with fail
    refine (rValid_any x y _ _ HOK.out.2).mono ?_
    rintro e w4 ⟨rfl, hg4⟩
    replace b0 := hg4.keep b0
    replace b1 := hg4.keep b1
    have HR := Lib.hid (rInside_any A1 q c1 qs x y w4 HQ.out hq5 (HP.out.keep (hg2.trans (hg3.trans hg4))) (Cos_of HOK.out.1.2.2.1) px py)
    rw [HI.out] at HR
    go_wp2_with fail
    refine HR.out.mono ?_
    rintro e w5 ⟨rfl, hg5⟩
    go_wp2_with fail
    refine (awake_any _).mono ?_
    rintro e w6 ⟨rfl, hg6⟩
    go_wp2_with fail
    go_ret
    exact ⟨rfl, (((((hgW.trans hg).trans hg2).trans hg3).trans hg4).trans hg5).trans hg6⟩
  · have hor : ¬SimpleP qs ∨ vld x y = false := by
      by_cases h1 : SimpleP qs
      · right
        cases h2 : vld x y with
        | false => rfl
        | true => exact absurd ⟨h1, h2⟩ hok
      · exact Or.inl h1
    have HOR := Lib.hid hor
    clear hok hor
    refine (Inside_no A1 q c1 qs x y _ HQ.out (by omega) HP.out HOR.out).mono ?_
    rintro e w2 ⟨rfl, hg2⟩
    replace b0 := hg2.keep b0
    replace b1 := hg2.keep b1
    go_wp2_with fail
    refine (rSimple_any A1 q c1 qs _ HQ.out (by omega) (HP.out.keep hg2)).mono ?_
    rintro e w3 ⟨r', rfl, hr, hg3⟩
    replace b0 := hg3.keep b0
    replace b1 := hg3.keep b1
    have HRR := Lib.hid hr
    clear hr
    cases r'
    · go_wp2_with fail
      refine (awake_any _).mono ?_
      rintro e w6 ⟨rfl, hg6⟩
      go_wp2_with fail
      go_ret
      exact ⟨rfl, (((hgW.trans hg).trans hg2).trans hg3).trans hg6⟩
    · have HV := Lib.hid (HOR.out.resolve_left (fun h => h (HRR.out.1 rfl)))
      go_wp2_with fail
      refine (rValid_any x y _ _ HV.out).mono ?_
      rintro e w4 ⟨rfl, hg4⟩
      go_wp2_with fail
      refine (awake_any _).mono ?_
      rintro e w6 ⟨rfl, hg6⟩
      go_wp2_with fail
      go_ret
      exact ⟨rfl, ((((hgW.trans hg).trans hg2).trans hg3).trans hg4).trans hg6⟩

end Go.Proofs.Ytfihmjobnffjfaa
