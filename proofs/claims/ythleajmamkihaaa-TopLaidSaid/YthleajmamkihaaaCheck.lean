/- A verdict, tried by the program: its place, its line; Check. -/
import Derived.Test.YthleajmamkihaaaRightM
import Derived.Test.YthleajmamkihaaaSeparate
namespace Go.Proofs.Ythleajmamkihaaa
open Go.RowKit
set_option linter.unusedSimpArgs false

theorem box7 {w W : World} {t : TypeId} {a0 a1 a2 a3 a4 a5 a6 : Value} (hW : w.alloc (.cells #[a0, a1, a2, a3, a4, a5, a6] t) = W) :
    Gr w W ∧ Blk W w.heap.size t #[a0, a1, a2, a3, a4, a5, a6] := by
  subst hW; exact ⟨(Gr.refl _).alloc _, heap_alloc_new w _⟩
theorem box3h {w W : World} {t : TypeId} {a b c : Value} (hW : w.alloc (.cells #[a, b, c] t) = W) : Gr w W ∧ W.cell? ⟨w.heap.size, 0, none⟩ = some a ∧ W.cell? ⟨w.heap.size, 1, none⟩ = some b ∧ W.cell? ⟨w.heap.size, 2, none⟩ = some c := by
  subst hW; exact ⟨(Gr.refl _).alloc _, alloc_new rfl rfl, alloc_new rfl rfl, alloc_new rfl rfl⟩

set_option maxRecDepth 100000 in
set_option maxHeartbeats 4000000 in
theorem rightPlace_any (A B : Option Addr) (n c n' c' : Nat) (ps qs : List (Int × Int)) (m : Bool) (x y d u v t : Int) (w : World) (hn : ps.length = n) (hn' : qs.length = n') (hl : n ≤ 1048576) (hl' : n' ≤ 1048576) (hp : Pts w A ps) (hq : Pts w B qs) (hv : Cos ps) (hv' : Cos qs) :
    Calls Try.prog 45 #[.slice A n c, .slice B n' c', .agg #[.bool m, .int .i64 x, .int .i64 y, .int .i64 d, .int .i64 u, .int .i64 v, .int .i64 t]] w fun e w' => e = .returned (.bool (rplcL ps qs ⟨m, x, y, d, u, v, t⟩)) ∧ Gr w w' := by
  have HH := Lib.hid (fun W (hW : Gr w W) (hP : Pc x y d) => holds_any A n c ps x y d W hn hl (hp.keep hW) hv hP)
  have HH' := Lib.hid (fun W (hW : Gr w W) (hP : Pc x y d) => holds_any B n' c' qs x y d W hn' hl' (hq.keep hW) hv' hP)
  have HR : Hid (rplcL ps qs ⟨m, x, y, d, u, v, t⟩ = (decide (u = 0 ∧ v = 0 ∧ t = 0 ∧ (1 ≤ d ∧ d ≤ 1073741824) ∧ (-4398046511104 ≤ x ∧ x ≤ 4398046511104) ∧ (-4398046511104 ≤ y ∧ y ≤ 4398046511104)) && (holdsL ps x y d && holdsL qs x y d))) := Lib.hid rfl
  generalize rplcL ps qs ⟨m, x, y, d, u, v, t⟩ = r at HR ⊢
  generalize holdsL ps x y d = b1 at HH HR
  generalize holdsL qs x y d = b2 at HH' HR
  clear hn hn' hl hl' hp hq hv hv'
  go_enter Try.func45, Try.ntmps45
  go_upto_region 1 with fail
  generalize hW : World.alloc w _ = W
  obtain ⟨hgW, hBk⟩ := box7 hW
  clear hW
  obtain ⟨⟨r0, r1, r2, r3, r4, r5, r6⟩, -⟩ := Blk7 hBk
  clear hBk
  by_cases hok : u = 0 ∧ v = 0 ∧ t = 0 ∧ (1 ≤ d ∧ d ≤ 1073741824) ∧ (-4398046511104 ≤ x ∧ x ≤ 4398046511104) ∧ (-4398046511104 ≤ y ∧ y ≤ 4398046511104)
  · have HRR : Hid (r = (b1 && b2)) := Lib.hid (by rw [HR.out, decide_eq_true hok, Bool.true_and])
    clear HR
    obtain ⟨rfl, rfl, rfl, ⟨d1, d2⟩, ⟨x1, x2⟩, y1, y2⟩ := hok
    have HP : Hid (Pc x y d) := Lib.hid ⟨⟨x1, x2⟩, ⟨y1, y2⟩, by omega, d2⟩
    have e4 : decide (d < 1) = false := by simp; omega
    have e5 : decide (1073741824 < d) = false := by simp; omega
    have e45 : (decide (d < 1) || decide (1073741824 < d)) = false := by rw [e4, e5]; rfl
    go_wp2_with fail
    refine (inRange_any x _ _ (by omega) true (by simp; omega)).mono ?_
    rintro e w1 ⟨rfl, rfl⟩
    go_wp2_with fail
    refine (inRange_any y _ _ (by omega) true (by simp; omega)).mono ?_
    rintro e w1 ⟨rfl, rfl⟩
    go_wp2_with fail
    generalize hW2 : World.alloc W _ = W2
    obtain ⟨hg2, q0, q1, q2⟩ := box3h hW2
    clear hW2
    have hgw2 := hgW.trans hg2
    refine (HH.out _ hgw2 HP.out).mono ?_
    rintro e w2 ⟨rfl, hb⟩
    replace q0 := hb.keep q0
    replace q1 := hb.keep q1
    replace q2 := hb.keep q2
    rcases b1 with _ | _
    · go_wp2_with fail
      go_ret
      exact ⟨ret_bool (by rw [HRR.out]; rfl), hgw2.trans hb⟩
    · go_wp2_with fail
      refine (HH'.out _ (hgw2.trans hb) HP.out).mono ?_
      rintro e w3 ⟨rfl, hb3⟩
      go_wp2_with fail
      go_ret
      exact ⟨ret_bool (by rw [HRR.out]; rfl), (hgw2.trans hb).trans hb3⟩
  · have HRR : Hid (r = false) := Lib.hid (by rw [HR.out, decide_eq_false hok, Bool.false_and])
    clear HR HH HH'
    by_cases h1 : u = 0
    · by_cases h2 : v = 0
      · by_cases h3 : t = 0
        · by_cases h4 : d < 1
          · have e4 : decide (d < 1) = true := by simp; omega
            go_wp2_with fail
            go_ret
            exact ⟨ret_bool HRR.out.symm, hgW⟩
          · have e4 : decide (d < 1) = false := by simp; omega
            by_cases h5 : 1073741824 < d
            · have e5 : decide (1073741824 < d) = true := by simp; omega
              have e45 : (decide (d < 1) || decide (1073741824 < d)) = true := by rw [e4, e5]; rfl
              go_wp2_with fail
              go_ret
              exact ⟨ret_bool HRR.out.symm, hgW⟩
            · have e5 : decide (1073741824 < d) = false := by simp; omega
              have e45 : (decide (d < 1) || decide (1073741824 < d)) = false := by rw [e4, e5]; rfl
              by_cases h6 : -4398046511104 ≤ x ∧ x ≤ 4398046511104
              · have hy : ¬ (-4398046511104 ≤ y ∧ y ≤ 4398046511104) := fun h => hok ⟨h1, h2, h3, ⟨by omega, by omega⟩, h6, h⟩
                clear hok
                go_wp2_with fail
                refine (inRange_any x _ _ (by omega) true (by simp; omega)).mono ?_
                rintro e w1 ⟨rfl, rfl⟩
                go_wp2_with fail
                refine (inRange_any y _ _ (by omega) false (by simp; omega)).mono ?_
                rintro e w1 ⟨rfl, rfl⟩
                go_wp2_with fail
                go_ret
                exact ⟨ret_bool HRR.out.symm, hgW⟩
              · clear hok
                go_wp2_with fail
                refine (inRange_any x _ _ (by omega) false (by simp; omega)).mono ?_
                rintro e w1 ⟨rfl, rfl⟩
                go_wp2_with fail
                go_ret
                exact ⟨ret_bool HRR.out.symm, hgW⟩
        · have e3 : (t != 0) = true := by simpa using h3
          go_wp2_with fail
          go_ret
          exact ⟨ret_bool HRR.out.symm, hgW⟩
      · have e2 : (v != 0) = true := by simpa using h2
        go_wp2_with fail
        go_ret
        exact ⟨ret_bool HRR.out.symm, hgW⟩
    · have e1 : (u != 0) = true := by simpa using h1
      go_wp2_with fail
      go_ret
      exact ⟨ret_bool HRR.out.symm, hgW⟩

set_option maxRecDepth 100000 in
set_option maxHeartbeats 4000000 in
theorem rightLine_any (g n c g' n' c' : Nat) (ps qs : List (Int × Int)) (m : Bool) (x y d u v t : Int) (w : World) (hn : ps.length = n) (hn' : qs.length = n') (h1 : 1 ≤ n) (h1' : 1 ≤ n') (hl : n ≤ 1048576) (hl' : n' ≤ 1048576) (hc : n ≤ c) (hc' : n' ≤ c') (hp : Pts w (some ⟨g, 0, none⟩) ps) (hq : Pts w (some ⟨g', 0, none⟩) qs) (hv : Cos ps) (hv' : Cos qs) :
    Calls Try.prog 46 #[.slice (some ⟨g, 0, none⟩) n c, .slice (some ⟨g', 0, none⟩) n' c', .agg #[.bool m, .int .i64 x, .int .i64 y, .int .i64 d, .int .i64 u, .int .i64 v, .int .i64 t]] w fun e w' => e = .returned (.bool (rlineL ps qs ⟨m, x, y, d, u, v, t⟩)) ∧ Gr w w' := by
  have HH := Lib.hid (fun W (hW : Gr w W) (hP : Vc (u, v)) => reach_any g n c ps u v W hn h1 hl hc (hp.keep hW) hv hP)
  have HH' := Lib.hid (fun W (hW : Gr w W) (hP : Vc (u, v)) => reach_any g' n' c' qs u v W hn' h1' hl' hc' (hq.keep hW) hv' hP)
  have HR : Hid (rlineL ps qs ⟨m, x, y, d, u, v, t⟩ = (decide (x = 0 ∧ y = 0 ∧ d = 0 ∧ (-1152921504606846976 ≤ t ∧ t ≤ 1152921504606846976) ∧ (-1073741824 ≤ u ∧ u ≤ 1073741824) ∧ (-1073741824 ≤ v ∧ v ≤ 1073741824)) && (decide (hiL (u, v) ps < t) && decide (t < loL (u, v) qs)))) := Lib.hid rfl
  generalize rlineL ps qs ⟨m, x, y, d, u, v, t⟩ = r at HR ⊢
  generalize hiL (u, v) ps = b1 at HH HR
  generalize loL (u, v) qs = b2 at HH' HR
  clear hn hn' h1 h1' hl hl' hc hc' hp hq hv hv'
  go_enter Try.func46, Try.ntmps46
  go_upto_region 1 with fail
  generalize hW : World.alloc w _ = W
  obtain ⟨hgW, hBk⟩ := box7 hW
  clear hW
  obtain ⟨⟨r0, r1, r2, r3, r4, r5, r6⟩, -⟩ := Blk7 hBk
  clear hBk
  by_cases hok : x = 0 ∧ y = 0 ∧ d = 0 ∧ (-1152921504606846976 ≤ t ∧ t ≤ 1152921504606846976) ∧ (-1073741824 ≤ u ∧ u ≤ 1073741824) ∧ (-1073741824 ≤ v ∧ v ≤ 1073741824)
  · have HRR : Hid (r = (decide (b1 < t) && decide (t < b2))) := Lib.hid (by rw [HR.out, decide_eq_true hok, Bool.true_and])
    clear HR
    obtain ⟨rfl, rfl, rfl, ⟨t1, t2⟩, ⟨u1, u2⟩, v1, v2⟩ := hok
    have HP : Hid (Vc (u, v)) := Lib.hid ⟨⟨u1, u2⟩, v1, v2⟩
    go_wp2_with fail
    refine (inRange_any t _ _ (by omega) true (by simp; omega)).mono ?_
    rintro e w1 ⟨rfl, rfl⟩
    go_wp2_with fail
    refine (inRange_any u _ _ (by omega) true (by simp; omega)).mono ?_
    rintro e w1 ⟨rfl, rfl⟩
    go_wp2_with fail
    refine (inRange_any v _ _ (by omega) true (by simp; omega)).mono ?_
    rintro e w1 ⟨rfl, rfl⟩
    go_wp2_with fail
    refine (HH.out _ hgW HP.out).mono ?_
    rintro e w2 ⟨rfl, hb⟩
    replace r4 := hb.keep r4
    replace r5 := hb.keep r5
    replace r6 := hb.keep r6
    go_wp2_with fail
    refine (HH'.out _ (hgW.trans hb) HP.out).mono ?_
    rintro e w3 ⟨rfl, hb3⟩
    replace r6 := hb3.keep r6
    by_cases ht : b1 < t
    · go_wp2_with fail
      go_ret
      exact ⟨ret_bool (by rw [HRR.out, decide_eq_true (by omega : b1 < t), Bool.true_and]), (hgW.trans hb).trans hb3⟩
    · go_wp2_with fail
      go_ret
      exact ⟨ret_bool (by rw [HRR.out, decide_eq_false (by omega : ¬ b1 < t), Bool.false_and]), (hgW.trans hb).trans hb3⟩
  · have HRR : Hid (r = false) := Lib.hid (by rw [HR.out, decide_eq_false hok, Bool.false_and])
    clear HR HH HH'
    by_cases h1 : x = 0
    · by_cases h2 : y = 0
      · by_cases h3 : d = 0
        · by_cases h4 : -1152921504606846976 ≤ t ∧ t ≤ 1152921504606846976
          · by_cases h5 : -1073741824 ≤ u ∧ u ≤ 1073741824
            · have hy : ¬ (-1073741824 ≤ v ∧ v ≤ 1073741824) := fun h => hok ⟨h1, h2, h3, h4, h5, h⟩
              clear hok
              go_wp2_with fail
              refine (inRange_any t _ _ (by omega) true (by simp; omega)).mono ?_
              rintro e w1 ⟨rfl, rfl⟩
              go_wp2_with fail
              refine (inRange_any u _ _ (by omega) true (by simp; omega)).mono ?_
              rintro e w1 ⟨rfl, rfl⟩
              go_wp2_with fail
              refine (inRange_any v _ _ (by omega) false (by simp; omega)).mono ?_
              rintro e w1 ⟨rfl, rfl⟩
              go_wp2_with fail
              go_ret
              exact ⟨ret_bool HRR.out.symm, hgW⟩
            · clear hok
              go_wp2_with fail
              refine (inRange_any t _ _ (by omega) true (by simp; omega)).mono ?_
              rintro e w1 ⟨rfl, rfl⟩
              go_wp2_with fail
              refine (inRange_any u _ _ (by omega) false (by simp; omega)).mono ?_
              rintro e w1 ⟨rfl, rfl⟩
              go_wp2_with fail
              go_ret
              exact ⟨ret_bool HRR.out.symm, hgW⟩
          · clear hok
            go_wp2_with fail
            refine (inRange_any t _ _ (by omega) false (by simp; omega)).mono ?_
            rintro e w1 ⟨rfl, rfl⟩
            go_wp2_with fail
            go_ret
            exact ⟨ret_bool HRR.out.symm, hgW⟩
        · have e3 : (d != 0) = true := by simpa using h3
          go_wp2_with fail
          go_ret
          exact ⟨ret_bool HRR.out.symm, hgW⟩
      · have e2 : (y != 0) = true := by simpa using h2
        go_wp2_with fail
        go_ret
        exact ⟨ret_bool HRR.out.symm, hgW⟩
    · have e1 : (x != 0) = true := by simpa using h1
      go_wp2_with fail
      go_ret
      exact ⟨ret_bool HRR.out.symm, hgW⟩

set_option maxRecDepth 100000 in
set_option maxHeartbeats 4000000 in
theorem Check_yes (A B : Option Addr) (n c n' c' : Nat) (ps qs : List (Int × Int)) (m : Bool) (x y d u v t : Int) (w : World) (hn : ps.length = n) (hn' : qs.length = n') (h1 : 1 ≤ n) (h1' : 1 ≤ n') (hl : n ≤ 512) (hl' : n' ≤ 512)
    (hp : Pts w A ps) (hq : Pts w B qs) (hv : (ps.all fun p => vld p.1 p.2) = true) (hv' : (qs.all fun p => vld p.1 p.2) = true) :
    Calls Try.prog 29 #[.slice A n c, .slice B n' c', .agg #[.bool m, .int .i64 x, .int .i64 y, .int .i64 d, .int .i64 u, .int .i64 v, .int .i64 t]] w fun e w' =>
      e = .returned (.int .i64 (if checkL (cornersL ps) (cornersL qs) ⟨m, x, y, d, u, v, t⟩ = true then 0 else 10)) ∧ Gr w w' := by
  have HN := Lib.hid hn
  have HN' := Lib.hid hn'
  have HP := Lib.hid hp
  have HQ := Lib.hid hq
  have HV := Lib.hid hv
  have HV' := Lib.hid hv'
  have HL1 := Lib.hid (cornersL_len ps (by omega))
  have HL2 := Lib.hid (cornersL_len qs (by omega))
  have HC1 := Lib.hid (cornersL_co (Cos_of hv))
  have HC2 := Lib.hid (cornersL_co (Cos_of hv'))
  have HT : Hid ((decide (1 ≤ n ∧ n ≤ 512) && ps.all fun p => vld p.1 p.2) = true) := Lib.hid (by rw [hv]; simp; omega)
  have HT' : Hid ((decide (1 ≤ n' ∧ n' ≤ 512) && qs.all fun p => vld p.1 p.2) = true) := Lib.hid (by rw [hv']; simp; omega)
  clear hn hn' hp hq hv hv'
  obtain ⟨K, hK⟩ : ∃ K, (if checkL (cornersL ps) (cornersL qs) ⟨m, x, y, d, u, v, t⟩ = true then (0 : Int) else 10) = K := ⟨_, rfl⟩
  rw [hK]
  have HK := Lib.hid hK.symm
  clear hK
  go_enter Try.func29, Try.ntmps29
  go_wp2_with fail
  generalize hW : World.alloc w _ = W
  obtain ⟨hgW, hBk⟩ := box7 hW
  clear hW
  have HB := Lib.hid hBk
  clear hBk
  refine (isSet_any A n c ps _ HN.out (by omega) (HP.out.keep hgW) _ HT.out).mono ?_
  rintro e w1 ⟨rfl, hg⟩
  go_wp2_with fail
  refine (isSet_any B n' c' qs _ HN'.out (by omega) (HQ.out.keep (hgW.trans hg)) _ HT'.out).mono ?_
  rintro e w2 ⟨rfl, hb⟩
  replace hg := hg.trans hb
  clear hb
  go_wp2_with fail
  refine (corners_any A n c ps _ HN.out (by omega) (by omega) (HP.out.keep (hgW.trans hg)) (Cos_of HV.out)).mono ?_
  rintro e w3 ⟨g1, c1, rfl, hc1, -, hO1, hb⟩
  replace hg := hg.trans hb
  clear hb
  have HO1 := Lib.hid hO1.pts
  clear hO1
  go_wp2_with fail
  refine (corners_any B n' c' qs _ HN'.out (by omega) (by omega) (HQ.out.keep (hgW.trans hg)) (Cos_of HV'.out)).mono ?_
  rintro e w4 ⟨g2, c2, rfl, hc2, -, hO2, hb⟩
  replace hg := hg.trans hb
  have HO1 := Lib.hid (HO1.out.keep hb)
  have HO2 := Lib.hid hO2.pts
  clear hO2 hb
  obtain ⟨m1, hm1⟩ : ∃ m, (cornersL ps).length = m := ⟨_, rfl⟩
  obtain ⟨m2, hm2⟩ : ∃ m, (cornersL qs).length = m := ⟨_, rfl⟩
  have hlm1 : 1 ≤ m1 ∧ m1 ≤ 1024 := by have := HL1.out; have := HN.out; omega
  have hlm2 : 1 ≤ m2 ∧ m2 ≤ 1024 := by have := HL2.out; have := HN'.out; omega
  rw [hm1] at hc1 ⊢
  rw [hm2] at hc2 ⊢
  generalize cornersL ps = H1 at hm1 HO1 HC1 HK ⊢
  generalize cornersL qs = H2 at hm2 HO2 HC2 HK ⊢
  have HM1 := Lib.hid hm1
  have HM2 := Lib.hid hm2
  clear hm1 hm2 HL1 HL2 HT HT' HV HV' HP HQ
  obtain ⟨⟨r0, r1, r2, r3, r4, r5, r6⟩, -⟩ := Blk7 (HB.out.keep hg)
  rcases m with _ | _
  · replace HK : Hid (K = if rlineL H1 H2 ⟨false, x, y, d, u, v, t⟩ = true then 0 else 10) := Lib.hid HK.out
    go_wp2_with fail
    refine (rightLine_any g1 m1 c1 g2 m2 c2 H1 H2 false x y d u v t _ HM1.out HM2.out (by omega) (by omega) (by omega) (by omega) hc1 hc2 HO1.out HO2.out HC1.out HC2.out).mono ?_
    rintro e w5 ⟨rfl, hb⟩
    generalize rlineL H1 H2 ⟨false, x, y, d, u, v, t⟩ = r at HK ⊢
    rcases r with _ | _
    all_goals
      go_wp2_with fail
      go_ret
      exact ⟨ret_int (by rw [HK.out]; simp), (hgW.trans hg).trans hb⟩
  · replace HK : Hid (K = if rplcL H1 H2 ⟨true, x, y, d, u, v, t⟩ = true then 0 else 10) := Lib.hid HK.out
    go_wp2_with fail
    refine (rightPlace_any _ _ m1 c1 m2 c2 H1 H2 true x y d u v t _ HM1.out HM2.out (by omega) (by omega) HO1.out HO2.out HC1.out HC2.out).mono ?_
    rintro e w5 ⟨rfl, hb⟩
    replace r0 := hb.keep r0
    generalize rplcL H1 H2 ⟨true, x, y, d, u, v, t⟩ = r at HK ⊢
    rcases r with _ | _
    all_goals
      go_wp2_with fail
      go_ret
      exact ⟨ret_int (by rw [HK.out]; simp), (hgW.trans hg).trans hb⟩

set_option maxRecDepth 100000 in
set_option maxHeartbeats 4000000 in
theorem Check_no (A B : Option Addr) (n c n' c' : Nat) (ps qs : List (Int × Int)) (m : Bool) (x y d u v t : Int) (w : World) (hn : ps.length = n) (hn' : qs.length = n') (hl : n ≤ 281474976710656) (hl' : n' ≤ 281474976710656)
    (hp : Pts w A ps) (hq : Pts w B qs) (h : ((decide (1 ≤ n ∧ n ≤ 512) && ps.all fun p => vld p.1 p.2) && (decide (1 ≤ n' ∧ n' ≤ 512) && qs.all fun p => vld p.1 p.2)) = false) :
    Calls Try.prog 29 #[.slice A n c, .slice B n' c', .agg #[.bool m, .int .i64 x, .int .i64 y, .int .i64 d, .int .i64 u, .int .i64 v, .int .i64 t]] w fun e w' => e = .returned (.int .i64 2) ∧ Gr w w' := by
  have HN := Lib.hid hn
  have HN' := Lib.hid hn'
  have HP := Lib.hid hp
  have HQ := Lib.hid hq
  clear hn hn' hp hq
  rcases ha : (decide (1 ≤ n ∧ n ≤ 512) && ps.all fun p => vld p.1 p.2) with _ | _
  · have HT := Lib.hid ha
    clear ha h
    go_enter Try.func29, Try.ntmps29
    go_wp2_with fail
    generalize hW : World.alloc w _ = W
    obtain ⟨hgW, -⟩ := box7 hW
    clear hW
    refine (isSet_any A n c ps _ HN.out (by omega) (HP.out.keep hgW) _ HT.out).mono ?_
    rintro e w1 ⟨rfl, hg⟩
    go_wp2_with fail
    go_ret
    exact ⟨rfl, hgW.trans hg⟩
  · have HT := Lib.hid ha
    have HT' := Lib.hid (show (decide (1 ≤ n' ∧ n' ≤ 512) && qs.all fun p => vld p.1 p.2) = false by rw [ha] at h; exact h)
    clear ha h
    go_enter Try.func29, Try.ntmps29
    go_wp2_with fail
    generalize hW : World.alloc w _ = W
    obtain ⟨hgW, -⟩ := box7 hW
    clear hW
    refine (isSet_any A n c ps _ HN.out (by omega) (HP.out.keep hgW) _ HT.out).mono ?_
    rintro e w1 ⟨rfl, hg⟩
    go_wp2_with fail
    refine (isSet_any B n' c' qs _ HN'.out (by omega) (HQ.out.keep (hgW.trans hg)) _ HT'.out).mono ?_
    rintro e w2 ⟨rfl, hb⟩
    go_wp2_with fail
    go_ret
    exact ⟨rfl, (hgW.trans hg).trans hb⟩

end Go.Proofs.Ythleajmamkihaaa
