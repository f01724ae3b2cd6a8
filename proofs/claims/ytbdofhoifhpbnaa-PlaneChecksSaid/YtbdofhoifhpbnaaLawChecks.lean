/- The law PlaneChecks as a walk. -/
import Derived.Test.YtbdofhoifhpbnaaRRightL
import Derived.Test.YtbdofhoifhpbnaaCheck
import Derived.Test.YtbdofhoifhpbnaaRSet
namespace Go.Proofs.Ytbdofhoifhpbnaa
open Go.RowKit
set_option linter.unusedSimpArgs false

theorem rRight_any (A B : Option Addr) (n c n' c' : Nat) (ps qs : List (Int × Int)) (m : Bool) (x y d u v t : Int) (w : World) (hn : ps.length = n) (hn' : qs.length = n') (h1 : 1 ≤ n) (h1' : 1 ≤ n') (hl : n ≤ 512) (hl' : n' ≤ 512)
    (hp : Pts w A ps) (hq : Pts w B qs) (hv : Cos ps) (hv' : Cos qs) :
    Calls Try.prog 20 #[.slice A n c, .slice B n' c', .agg #[.bool m, .int .i64 x, .int .i64 y, .int .i64 d, .int .i64 u, .int .i64 v, .int .i64 t]] w fun e w' => e = .returned (.bool (rightL ps qs ⟨m, x, y, d, u, v, t⟩)) ∧ Gr w w' := by
  cases m with
  | false => exact rRight_line A B n c n' c' ps qs x y d u v t w hn hn' hl hl' hp hq hv hv'
  | true => exact rRight_meet A B n c n' c' ps qs x y d u v t w hn hn' h1 h1' hl hl' hp hq hv hv'

set_option maxRecDepth 100000 in
set_option maxHeartbeats 4000000 in
theorem lawChecks_any (A : Option Addr) (n c : Nat) (ps : List (Int × Int)) (B : Option Addr) (n' c' : Nat) (qs : List (Int × Int)) (m : Bool) (x y d u v t : Int) (w : World) (hn : ps.length = n) (hl : n ≤ 8796093022208) (hc : n ≤ c) (h0 : A = none → c = 0) (hp : Pts w A ps) (hn' : qs.length = n') (hl' : n' ≤ 8796093022208) (hc' : n' ≤ c') (h0' : B = none → c' = 0) (hp' : Pts w B qs) :
    Calls Try.prog 6 #[.slice A n c, .slice B n' c', .agg #[.bool m, .int .i64 x, .int .i64 y, .int .i64 d, .int .i64 u, .int .i64 v, .int .i64 t]] w fun e w' => e = .returned (.bool true) ∧ Gr w w' := by
  have HS := Lib.hid (fun W (hW : Gr w W) => some_any A n c 40 ps W hn hl hc h0 (by omega) (hp.keep hW))
  have HS' := Lib.hid (fun W (hW : Gr w W) => some_any B n' c' 40 qs W hn' hl' hc' h0' (by omega) (hp'.keep hW))
  have hql1 := take_len hn (m := 40)
  have hql2 := take_len hn' (m := 40)
  generalize ps.take (someN n 40) = l1 at HS hql1
  generalize qs.take (someN n' 40) = l2 at HS' hql2
  obtain ⟨q1, hq1e⟩ : ∃ q, l1.length = q := ⟨_, rfl⟩
  obtain ⟨q2, hq2e⟩ : ∃ q, l2.length = q := ⟨_, rfl⟩
  rw [hq1e] at hql1
  rw [hq2e] at hql2
  have HQ1 := Lib.hid hq1e
  have HQ2 := Lib.hid hq2e
  clear hn hl hc h0 hp hn' hl' hc' h0' hp'
  obtain ⟨s1, hs1⟩ : ∃ s, (decide (1 ≤ q1 ∧ q1 ≤ 512) && l1.all fun p => vld p.1 p.2) = s := ⟨_, rfl⟩
  obtain ⟨s2, hs2⟩ : ∃ s, (decide (1 ≤ q2 ∧ q2 ≤ 512) && l2.all fun p => vld p.1 p.2) = s := ⟨_, rfl⟩
  have H1 := Lib.hid hs1
  have H2 := Lib.hid hs2
  rcases hb : (s1 && s2) with _ | _
  · have HB : Hid (((decide (1 ≤ q1 ∧ q1 ≤ 512) && l1.all fun p => vld p.1 p.2) && (decide (1 ≤ q2 ∧ q2 ≤ 512) && l2.all fun p => vld p.1 p.2)) = false) := Lib.hid (by rw [hs1, hs2]; exact hb)
    clear hs1 hs2 hq1e hq2e
    go_enter Try.func6, Try.ntmps6
    go_wp2_with fail
    generalize hW : World.alloc w _ = W
    obtain ⟨hgW, hBk⟩ := box7 hW
    have HBK := Lib.hid hBk
    clear hW hBk
    refine (HS.out _ hgW).mono ?_
    rintro e w1 ⟨A1, c1, rfl, hc1, hP, hg1⟩
    have HP1 := Lib.hid hP
    rw [HQ1.out] at hc1 ⊢
    clear hP
    go_wp2_with fail
    refine (HS'.out _ (hgW.trans hg1)).mono ?_
    rintro e w2 ⟨A2, c2, rfl, hc2, hP', hg2⟩
    have HP2 := Lib.hid hP'
    rw [HQ2.out] at hc2 ⊢
    clear hP'
    obtain ⟨⟨r0, r1, r2, r3, r4, r5, r6⟩, -⟩ := Blk7 (HBK.out.keep (hg1.trans hg2))
    go_wp2_with fail
    refine (Check_no A1 A2 q1 c1 q2 c2 l1 l2 m x y d u v t _ HQ1.out HQ2.out (by omega) (by omega) (HP1.out.keep hg2) HP2.out HB.out).mono ?_
    rintro e w3 ⟨rfl, hg3⟩
    clear r0 r1 r2 r3 r4 r5 r6
    go_wp2_with fail
    refine (rSet_any A1 q1 c1 l1 _ HQ1.out (by omega) (HP1.out.keep (hg2.trans hg3)) _ H1.out).mono ?_
    rintro e w4 ⟨rfl, hg4⟩
    cases s1 with
    | false =>
      go_wp2_with fail
      refine (awake_any _).mono ?_
      rintro e w5 ⟨rfl, hg5⟩
      go_wp2_with fail
      go_ret
      exact ⟨rfl, ((((hgW.trans hg1).trans hg2).trans hg3).trans hg4).trans hg5⟩
    | true =>
      have HF : Hid ((decide (1 ≤ q2 ∧ q2 ≤ 512) && l2.all fun p => vld p.1 p.2) = false) := Lib.hid (by rw [H2.out]; simpa using hb)
      go_wp2_with fail
      refine (rSet_any A2 q2 c2 l2 _ HQ2.out (by omega) (HP2.out.keep (hg3.trans hg4)) false HF.out).mono ?_
      rintro e w5 ⟨rfl, hg5⟩
      go_wp2_with fail
      refine (awake_any _).mono ?_
      rintro e w6 ⟨rfl, hg6⟩
      go_wp2_with fail
      go_ret
      exact ⟨rfl, (((((hgW.trans hg1).trans hg2).trans hg3).trans hg4).trans hg5).trans hg6⟩
  · obtain ⟨rfl, rfl⟩ : s1 = true ∧ s2 = true := by simpa using hb
    have hv1 : (1 ≤ q1 ∧ q1 ≤ 512) ∧ (l1.all fun p => vld p.1 p.2) = true := by
      rw [Bool.and_eq_true, decide_eq_true_eq] at hs1; exact hs1
    have hv2 : (1 ≤ q2 ∧ q2 ≤ 512) ∧ (l2.all fun p => vld p.1 p.2) = true := by
      rw [Bool.and_eq_true, decide_eq_true_eq] at hs2; exact hs2
    have HA1 := Lib.hid hv1.2
    have HA2 := Lib.hid hv2.2
    obtain ⟨hq1, -⟩ := hv1
    obtain ⟨hq2, -⟩ := hv2
    have hq1l : 1 ≤ l1.length := by omega
    have hq2l : 1 ≤ l2.length := by omega
    clear hb hs1 hs2 hq1e hq2e
    rcases hr : checkL (cornersL l1) (cornersL l2) ⟨m, x, y, d, u, v, t⟩ with _ | _
    · have HK : Hid ((if checkL (cornersL l1) (cornersL l2) ⟨m, x, y, d, u, v, t⟩ = true then (0 : Int) else 10) = 10) := Lib.hid (by rw [hr]; rfl)
      have HRT : Hid (rightL l1 l2 ⟨m, x, y, d, u, v, t⟩ = false) := Lib.hid (by rw [right_check hq1l hq2l, hr])
      clear hr
      go_enter Try.func6, Try.ntmps6
      go_wp2_with fail
      generalize hW : World.alloc w _ = W
      obtain ⟨hgW, hBk⟩ := box7 hW
      have HBK := Lib.hid hBk
      clear hW hBk
      refine (HS.out _ hgW).mono ?_
      rintro e w1 ⟨A1, c1, rfl, hc1, hP, hg1⟩
      have HP1 := Lib.hid hP
      rw [HQ1.out] at hc1 ⊢
      clear hP
      go_wp2_with fail
      refine (HS'.out _ (hgW.trans hg1)).mono ?_
      rintro e w2 ⟨A2, c2, rfl, hc2, hP', hg2⟩
      have HP2 := Lib.hid hP'
      rw [HQ2.out] at hc2 ⊢
      clear hP'
      obtain ⟨⟨r0, r1, r2, r3, r4, r5, r6⟩, -⟩ := Blk7 (HBK.out.keep (hg1.trans hg2))
      go_wp2_with fail
      refine (Check_yes A1 A2 q1 c1 q2 c2 l1 l2 m x y d u v t _ HQ1.out HQ2.out hq1.1 hq2.1 hq1.2 hq2.2 (HP1.out.keep hg2) HP2.out HA1.out HA2.out).mono ?_
      rintro e w3 ⟨rfl, hg3⟩
      rw [HK.out]
      clear r0 r1 r2 r3 r4 r5 r6
      go_wp2_with fail
      refine (rSet_any A1 q1 c1 l1 _ HQ1.out (by omega) (HP1.out.keep (hg2.trans hg3)) true H1.out).mono ?_
      rintro e w4 ⟨rfl, hg4⟩
      go_wp2_with fail
      refine (rSet_any A2 q2 c2 l2 _ HQ2.out (by omega) (HP2.out.keep (hg3.trans hg4)) true H2.out).mono ?_
      rintro e w5 ⟨rfl, hg5⟩
      obtain ⟨⟨r0, r1, r2, r3, r4, r5, r6⟩, -⟩ := Blk7 (HBK.out.keep ((((hg1.trans hg2).trans hg3).trans hg4).trans hg5))
      go_wp2_with fail
      refine (rRight_any A1 A2 q1 c1 q2 c2 l1 l2 m x y d u v t _ HQ1.out HQ2.out hq1.1 hq2.1 hq1.2 hq2.2 (HP1.out.keep (((hg2.trans hg3).trans hg4).trans hg5)) (HP2.out.keep ((hg3.trans hg4).trans hg5)) (Cos_of HA1.out) (Cos_of HA2.out)).mono ?_
      rintro e w6 ⟨rfl, hg6⟩
      rw [HRT.out]
      clear r0 r1 r2 r3 r4 r5 r6
      go_wp2_with fail
      refine (awake_any _).mono ?_
      rintro e w7 ⟨rfl, hg7⟩
      go_wp2_with fail
      go_ret
      exact ⟨rfl, ((((((hgW.trans hg1).trans hg2).trans hg3).trans hg4).trans hg5).trans hg6).trans hg7⟩
    · have HK : Hid ((if checkL (cornersL l1) (cornersL l2) ⟨m, x, y, d, u, v, t⟩ = true then (0 : Int) else 10) = 0) := Lib.hid (by rw [hr]; rfl)
      have HRT : Hid (rightL l1 l2 ⟨m, x, y, d, u, v, t⟩ = true) := Lib.hid (by rw [right_check hq1l hq2l, hr])
      clear hr
      go_enter Try.func6, Try.ntmps6
      go_wp2_with fail
      generalize hW : World.alloc w _ = W
      obtain ⟨hgW, hBk⟩ := box7 hW
      have HBK := Lib.hid hBk
      clear hW hBk
      refine (HS.out _ hgW).mono ?_
      rintro e w1 ⟨A1, c1, rfl, hc1, hP, hg1⟩
      have HP1 := Lib.hid hP
      rw [HQ1.out] at hc1 ⊢
      clear hP
      go_wp2_with fail
      refine (HS'.out _ (hgW.trans hg1)).mono ?_
      rintro e w2 ⟨A2, c2, rfl, hc2, hP', hg2⟩
      have HP2 := Lib.hid hP'
      rw [HQ2.out] at hc2 ⊢
      clear hP'
      obtain ⟨⟨r0, r1, r2, r3, r4, r5, r6⟩, -⟩ := Blk7 (HBK.out.keep (hg1.trans hg2))
      go_wp2_with fail
      refine (Check_yes A1 A2 q1 c1 q2 c2 l1 l2 m x y d u v t _ HQ1.out HQ2.out hq1.1 hq2.1 hq1.2 hq2.2 (HP1.out.keep hg2) HP2.out HA1.out HA2.out).mono ?_
      rintro e w3 ⟨rfl, hg3⟩
      rw [HK.out]
      clear r0 r1 r2 r3 r4 r5 r6
      go_wp2_with fail
      refine (rSet_any A1 q1 c1 l1 _ HQ1.out (by omega) (HP1.out.keep (hg2.trans hg3)) true H1.out).mono ?_
      rintro e w4 ⟨rfl, hg4⟩
      go_wp2_with fail
      refine (rSet_any A2 q2 c2 l2 _ HQ2.out (by omega) (HP2.out.keep (hg3.trans hg4)) true H2.out).mono ?_
      rintro e w5 ⟨rfl, hg5⟩
      obtain ⟨⟨r0, r1, r2, r3, r4, r5, r6⟩, -⟩ := Blk7 (HBK.out.keep ((((hg1.trans hg2).trans hg3).trans hg4).trans hg5))
      go_wp2_with fail
      refine (rRight_any A1 A2 q1 c1 q2 c2 l1 l2 m x y d u v t _ HQ1.out HQ2.out hq1.1 hq2.1 hq1.2 hq2.2 (HP1.out.keep (((hg2.trans hg3).trans hg4).trans hg5)) (HP2.out.keep ((hg3.trans hg4).trans hg5)) (Cos_of HA1.out) (Cos_of HA2.out)).mono ?_
      rintro e w6 ⟨rfl, hg6⟩
      rw [HRT.out]
      clear r0 r1 r2 r3 r4 r5 r6
      go_wp2_with fail
      refine (awake_any _).mono ?_
      rintro e w7 ⟨rfl, hg7⟩
      go_wp2_with fail
      go_ret
      exact ⟨rfl, ((((((hgW.trans hg1).trans hg2).trans hg3).trans hg4).trans hg5).trans hg6).trans hg7⟩

end Go.Proofs.Ytbdofhoifhpbnaa
