/- The law PlaneSpans as a walk. -/
import Derived.Test.YtfihmjobnffjfaaLawHulls
import Derived.Test.YtfihmjobnffjfaaRWidest
import Derived.Test.YtfihmjobnffjfaaNearest
namespace Go.Proofs.Ytfihmjobnffjfaa
open Go.RowKit
set_option linter.unusedSimpArgs false

set_option maxRecDepth 100000 in
set_option maxHeartbeats 1000000 in
theorem Widest_no (A : Option Addr) (n c : Nat) (ps : List (Int × Int)) (w : World) (hn : ps.length = n) (hl : n ≤ 281474976710656) (hp : Pts w A ps) (hv : (decide (1 ≤ n ∧ n ≤ 512) && ps.all fun p => vld p.1 p.2) = false) :
    Calls Try.prog 31 #[.slice A n c] w fun e w' => e = .returned (.tuple #[.int .i64 0, .int .i64 2]) ∧ Gr w w' := by
  have HN := Lib.hid hn
  have HP := Lib.hid hp
  have HV := Lib.hid hv
  clear hn hp hv
  go_enter Try.func31, Try.ntmps31
  go_wp2_with fail
  refine (isSet_any A n c ps _ HN.out hl HP.out false HV.out).mono ?_
  rintro e w1 ⟨rfl, hb⟩
  go_wp2_with fail
  go_ret2
  exact ⟨rfl, hb⟩

set_option maxRecDepth 100000 in
set_option maxHeartbeats 1000000 in
theorem Nearest_no (A : Option Addr) (n c : Nat) (ps : List (Int × Int)) (w : World) (hn : ps.length = n) (hl : n ≤ 281474976710656) (hp : Pts w A ps) (hv : (decide (1 ≤ n ∧ n ≤ 512) && ps.all fun p => vld p.1 p.2) = false) :
    Calls Try.prog 32 #[.slice A n c] w fun e w' => e = .returned (.tuple #[.int .i64 0, .int .i64 2]) ∧ Gr w w' := by
  have HN := Lib.hid hn
  have HP := Lib.hid hp
  have HV := Lib.hid hv
  clear hn hp hv
  go_enter Try.func32, Try.ntmps32
  go_wp2_with fail
  try go_step3
  go_wp2_with fail
  try go_step3
  go_wp2_with fail
  refine (isSet_any A n c ps _ HN.out hl HP.out false HV.out).mono ?_
  rintro e w1 ⟨rfl, hb⟩
  go_wp2_with fail
  try rw [Exit.noGoto_ret]
  go_ret2
  exact ⟨rfl, hb⟩

set_option maxRecDepth 100000 in
set_option maxHeartbeats 1000000 in
theorem Nearest_one (A : Option Addr) (n c : Nat) (ps : List (Int × Int)) (w : World) (hn : ps.length = n) (h1 : n = 1) (hp : Pts w A ps) (hv : (ps.all fun p => vld p.1 p.2) = true) :
    Calls Try.prog 32 #[.slice A n c] w fun e w' => e = .returned (.tuple #[.int .i64 0, .int .i64 2]) ∧ Gr w w' := by
  have HS := Lib.hid (fun W (h : Gr w W) => isSet_any A n c ps W hn (by omega) (hp.keep h) true (by rw [hv]; simp; omega))
  have n4 : ((n : Int) == 1) = true := by simp; omega
  clear hn h1 hp hv
  go_enter Try.func32, Try.ntmps32
  go_wp2_with fail
  try go_step3
  go_wp2_with fail
  try go_step3
  go_wp2_with fail
  refine (HS.out _ (by (repeat (first | exact Gr.refl _ | assumption | (refine Gr.drew ?_) | (refine Gr.drewN ?_ _) | (refine Gr.alloc ?_ _) | (refine Gr.trans ?_ (by assumption)))))).mono ?_
  rintro e w1 ⟨rfl, hb⟩
  go_wp2_with fail
  try rw [Exit.noGoto_ret]
  go_ret2
  exact ⟨rfl, hb⟩

set_option maxRecDepth 100000 in
set_option maxHeartbeats 2000000 in
theorem lawSpans_any (A : Option Addr) (n c : Nat) (ps : List (Int × Int)) (w : World) (hn : ps.length = n) (hl : n ≤ 8796093022208) (hc : n ≤ c) (h0 : A = none → c = 0) (hp : Pts w A ps) :
    Calls Try.prog 6 #[.slice A n c] w fun e w' => e = .returned (.bool true) ∧ Gr w w' := by
  have HS := Lib.hid (fun W (hW : Gr w W) => some_any A n c 120 ps W hn hl hc h0 (by omega) (hp.keep hW))
  have hql := take_len hn (m := 120)
  generalize ps.take (someN n 120) = qs at HS hql
  obtain ⟨q, hq⟩ : ∃ q, qs.length = q := ⟨_, rfl⟩
  rw [hq] at hql
  have HQ := Lib.hid hq
  clear hn hl hc h0 hp hq
  rcases hv : (decide (1 ≤ q ∧ q ≤ 512) && qs.all fun p => vld p.1 p.2) with _ | _
  · have HV := Lib.hid hv
    clear hv
    go_enter Try.func6, Try.ntmps6
    go_wp2_with fail
    refine (HS.out _ (by (repeat (first | exact Gr.refl _ | assumption | (refine Gr.drew ?_) | (refine Gr.drewN ?_ _) | (refine Gr.alloc ?_ _) | (refine Gr.trans ?_ (by assumption)))))).mono ?_
    rintro e w1 ⟨A1, c1, rfl, hc1, hP, hg⟩
    have HP := Lib.hid hP
    clear hP HS hc1
    rw [HQ.out]
    go_wp2_with fail
    refine (Widest_no A1 q c1 qs _ HQ.out (by omega) HP.out HV.out).mono ?_
    rintro e w2 ⟨rfl, hg2⟩
    go_wp2_with fail
    refine (Nearest_no A1 q c1 qs _ HQ.out (by omega) (HP.out.keep hg2) HV.out).mono ?_
    rintro e w3 ⟨rfl, hg3⟩
    go_wp2_with fail
    refine (rSet_any A1 q c1 qs _ HQ.out (by omega) (HP.out.keep (hg2.trans hg3)) _ HV.out).mono ?_
    rintro e w4 ⟨rfl, hg4⟩
    go_wp2_with fail
    refine (awake_any _).mono ?_
    rintro e w5 ⟨rfl, hg5⟩
    go_wp2_with fail
    go_ret
    exact ⟨rfl, (((hg.trans hg2).trans hg3).trans hg4).trans hg5⟩
  · have hv2 : (1 ≤ q ∧ q ≤ 512) ∧ (qs.all fun p => vld p.1 p.2) = true := by
      rw [Bool.and_eq_true, decide_eq_true_eq] at hv; exact hv
    have HV := Lib.hid hv
    have HA := Lib.hid hv2.2
    obtain ⟨⟨hq1, hq2⟩, -⟩ := hv2
    have HWE : Hid (widestL (cornersL qs) = rwI qs qs.length) := Lib.hid (widest_eq (by rw [HQ.out]; exact hq1))
    obtain ⟨v, hvv⟩ : ∃ v, rwI qs qs.length = v := ⟨_, rfl⟩
    have HVV := Lib.hid hvv
    clear hv hvv
    go_enter Try.func6, Try.ntmps6
    go_wp2_with fail
    refine (HS.out _ (by (repeat (first | exact Gr.refl _ | assumption | (refine Gr.drew ?_) | (refine Gr.drewN ?_ _) | (refine Gr.alloc ?_ _) | (refine Gr.trans ?_ (by assumption)))))).mono ?_
    rintro e w1 ⟨A1, c1, rfl, hc1, hP, hg⟩
    have HP := Lib.hid hP
    rw [HQ.out] at hc1 ⊢
    clear hP HS
    go_wp2_with fail
    refine (Widest_yes A1 q c1 qs _ HQ.out hq1 hq2 HP.out HA.out).mono ?_
    rw [HWE.out, HVV.out]
    rintro e w2 ⟨rfl, hg2⟩
    go_wp2_with fail
    by_cases h1 : q = 1
    · have H1 := Lib.hid h1
      have e1 : ((q : Int) == 1) = true := by simp; omega
      clear h1
      refine (Nearest_one A1 q c1 qs _ HQ.out H1.out (HP.out.keep hg2) HA.out).mono ?_
      rintro e w3 ⟨rfl, hg3⟩
      go_wp2_with fail
      refine (rSet_any A1 q c1 qs _ HQ.out (by omega) (HP.out.keep (hg2.trans hg3)) _ HV.out).mono ?_
      rintro e w4 ⟨rfl, hg4⟩
      go_wp2_with fail
      refine (rWidest_any A1 q c1 qs _ HQ.out (by omega) (HP.out.keep (hg2.trans (hg3.trans hg4))) (Cos_of HA.out)).mono ?_
      rw [HVV.out]
      rintro e w5 ⟨rfl, hg5⟩
      go_wp2_with fail
      refine (awake_any _).mono ?_
      rintro e w6 ⟨rfl, hg6⟩
      go_wp2_with fail
      go_ret
      exact ⟨rfl, ((((hg.trans hg2).trans hg3).trans hg4).trans hg5).trans hg6⟩
    · have hq3 : 2 ≤ q := by omega
      have e1 : ((q : Int) == 1) = false := by simp; omega
      clear h1
      obtain ⟨b, off, hA1⟩ : ∃ b off, A1 = some ⟨b, off, none⟩ := by
        obtain ⟨b, off, e, -⟩ := Pts_at HP.out (k := 0) (by rw [HQ.out]; omega)
        exact ⟨b, off, e⟩
      refine (Nearest_yes A1 q c1 qs _ HQ.out hq3 hq2 hc1 (HP.out.keep hg2) HA.out).mono ?_
      rintro e w3 ⟨d, rfl, hmin, hg3⟩
      have HMI := Lib.hid hmin
      clear hmin hA1
      go_wp2_with fail
      refine (rSet_any A1 q c1 qs _ HQ.out (by omega) (HP.out.keep (hg2.trans hg3)) _ HV.out).mono ?_
      rintro e w4 ⟨rfl, hg4⟩
      go_wp2_with fail
      refine (rWidest_any A1 q c1 qs _ HQ.out (by omega) (HP.out.keep (hg2.trans (hg3.trans hg4))) (Cos_of HA.out)).mono ?_
      rw [HVV.out]
      rintro e w5 ⟨rfl, hg5⟩
      go_wp2_with fail
      refine (rNearest_any A1 q c1 qs _ HQ.out hq3 (by omega) (HP.out.keep (hg2.trans (hg3.trans (hg4.trans hg5)))) (Cos_of HA.out)).mono ?_
      rintro e w6 ⟨d', rfl, hmin, hg6⟩
      obtain rfl : d = d' := HMI.out.unique hmin
      clear hmin
      go_wp2_with fail
      refine (awake_any _).mono ?_
      rintro e w7 ⟨rfl, hg7⟩
      go_wp2_with fail
      go_ret
      exact ⟨rfl, (((((hg.trans hg2).trans hg3).trans hg4).trans hg5).trans hg6).trans hg7⟩

end Go.Proofs.Ytfihmjobnffjfaa
