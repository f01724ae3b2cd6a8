/- Right, of a line, as the reference says it. -/
import Derived.Test.YtjkdjfagaakijaaRRightM
import Derived.Deep.QuietTactic
import Derived.BigQuiet
namespace Go.Proofs.Ytjkdjfagaakijaa
open Go.RowKit
set_option linter.unusedSimpArgs false

theorem all_at {l : List (Int × Int)} {f : Int × Int → Bool} (h : ∀ i, i < l.length → f (l.getD i (0, 0)) = true) : l.all f = true :=
  List.all_eq_true.2 fun p hp => by obtain ⟨i, hi, rfl⟩ := mem_at hp; exact h i hi
theorem all_not {l : List (Int × Int)} {f : Int × Int → Bool} {i : Nat} (hi : i < l.length) (h : f (l.getD i (0, 0)) = false) : l.all f = false :=
  List.all_eq_false.2 ⟨_, at_mem hi, by rw [h]; decide⟩
theorem drewN_gr {w W : World} {m : Nat} (h : w.drewN m = W) : Gr w W := by subst h; exact (Gr.refl _).drewN _

set_option maxRecDepth 100000 in
set_option maxHeartbeats 8000000 in
theorem rRight_line (A B : Option Addr) (n c n' c' : Nat) (ps qs : List (Int × Int)) (x y d u v t : Int) (w : World) (hn : ps.length = n) (hn' : qs.length = n') (hl : n ≤ 512) (hl' : n' ≤ 512)
    (hp : Pts w A ps) (hq : Pts w B qs) (hv : Cos ps) (hv' : Cos qs) :
    Calls Try.prog 19 #[.slice A n c, .slice B n' c', .agg #[.bool false, .int .i64 x, .int .i64 y, .int .i64 d, .int .i64 u, .int .i64 v, .int .i64 t]] w fun e w' => e = .returned (.bool (rightL ps qs ⟨false, x, y, d, u, v, t⟩)) ∧ Gr w w' := by
  have HN := Lib.hid hn
  have HN' := Lib.hid hn'
  have HP := Lib.hid hp
  have HQ := Lib.hid hq
  have HV := Lib.hid hv
  have HV' := Lib.hid hv'
  have HR : Hid (rightL ps qs ⟨false, x, y, d, u, v, t⟩ = (decide (x = 0 ∧ y = 0 ∧ d = 0 ∧ (-1152921504606846976 ≤ t ∧ t ≤ 1152921504606846976) ∧ (-1073741824 ≤ u ∧ u ≤ 1073741824) ∧ (-1073741824 ≤ v ∧ v ≤ 1073741824)) && ((ps.all fun p => decide (pr (u, v) p < t)) && (qs.all fun p => decide (t < pr (u, v) p))))) := Lib.hid rfl
  generalize rightL ps qs ⟨false, x, y, d, u, v, t⟩ = r at HR ⊢
  clear hn hn' hp hq hv hv'
  go_enter Try.func19, Try.ntmps19
  go_upto_region 3 with fail
  generalize hW : World.alloc w _ = W
  obtain ⟨hgW, hBk⟩ := box7r hW
  clear hW
  generalize w.heap.size = V at hBk ⊢
  obtain ⟨⟨r0, r1, r2, r3, r4, r5, r6⟩, -⟩ := Blk7 hBk
  clear hBk
  by_cases hok : x = 0 ∧ y = 0 ∧ d = 0 ∧ (-1152921504606846976 ≤ t ∧ t ≤ 1152921504606846976) ∧ (-1073741824 ≤ u ∧ u ≤ 1073741824) ∧ (-1073741824 ≤ v ∧ v ≤ 1073741824)
  rotate_left
  · have HRR : Hid (r = false) := Lib.hid (by rw [HR.out, decide_eq_false hok, Bool.false_and])
    clear HR
    by_cases h1 : x = 0
    · by_cases h2 : y = 0
      · by_cases h3 : d = 0
        · by_cases h4 : -1073741824 ≤ u ∧ u ≤ 1073741824
          · by_cases h5 : -1073741824 ≤ v ∧ v ≤ 1073741824
            · have hy : ¬ (-1152921504606846976 ≤ t ∧ t ≤ 1152921504606846976) := fun h => hok ⟨h1, h2, h3, h, h4, h5⟩
              clear hok
              go_wp2_with fail
              refine (within_any u _ _ (by omega) true (by simp; omega)).mono ?_
              rintro e w1 ⟨rfl, rfl⟩
              go_wp2_with fail
              refine (within_any v _ _ (by omega) true (by simp; omega)).mono ?_
              rintro e w1 ⟨rfl, rfl⟩
              go_wp2_with fail
              refine (within_any t _ _ (by omega) false (by simp; omega)).mono ?_
              rintro e w1 ⟨rfl, rfl⟩
              go_wp2_with fail
              go_ret
              exact ⟨ret_bool HRR.out.symm, hgW⟩
            · clear hok
              go_wp2_with fail
              refine (within_any u _ _ (by omega) true (by simp; omega)).mono ?_
              rintro e w1 ⟨rfl, rfl⟩
              go_wp2_with fail
              refine (within_any v _ _ (by omega) false (by simp; omega)).mono ?_
              rintro e w1 ⟨rfl, rfl⟩
              go_wp2_with fail
              go_ret
              exact ⟨ret_bool HRR.out.symm, hgW⟩
          · clear hok
            go_wp2_with fail
            refine (within_any u _ _ (by omega) false (by simp; omega)).mono ?_
            rintro e w1 ⟨rfl, rfl⟩
            go_wp2_with fail
            go_ret
            exact ⟨ret_bool HRR.out.symm, hgW⟩
        · have e3 : (d != 0) = true := by simpa using h3
          go_wp2_with fail
          go_ret
          exact ⟨ret_bool HRR.out.symm, hgW⟩
      · have e2 : (y != 0) = true := by simpa using h2
        go_wp2_with fail
        go_ret
        exact ⟨ret_bool HRR.out.symm, hgW⟩
    · have e1 : (x != 0) = true := by simpa using h1
      go_wp2_with fail
      go_ret
      exact ⟨ret_bool HRR.out.symm, hgW⟩
  have HRR : Hid (r = ((ps.all fun p => decide (pr (u, v) p < t)) && (qs.all fun p => decide (t < pr (u, v) p)))) := Lib.hid (by rw [HR.out, decide_eq_true hok, Bool.true_and])
  clear HR
  obtain ⟨rfl, rfl, rfl, ⟨t1, t2⟩, ⟨u1, u2⟩, v1, v2⟩ := hok
  have HVC : Hid (Vc (u, v)) := Lib.hid ⟨⟨u1, u2⟩, v1, v2⟩
  go_wp2_with fail
  refine (within_any u _ _ (by omega) true (by simp; omega)).mono ?_
  rintro e w1 ⟨rfl, rfl⟩
  go_wp2_with fail
  refine (within_any v _ _ (by omega) true (by simp; omega)).mono ?_
  rintro e w1 ⟨rfl, rfl⟩
  go_wp2_with fail
  refine (within_any t _ _ (by omega) true (by simp; omega)).mono ?_
  rintro e w1 ⟨rfl, rfl⟩
  go_wp2_with fail
  go_loopw [7] (fun i wr => ∃ k : Nat, k ≤ n ∧ i = .int .i64 k ∧ Hid (∀ i, i < k → decide (pr (u, v) (ps.getD i (0, 0)) < t) = true) ∧ Gr W wr) (fun i _ => n - (intOf i).toNat)
  case atStart => exact ⟨0, Nat.zero_le _, rfl, Lib.hid (fun i h => by omega), Gr.refl _⟩
  case round =>
    obtain ⟨k, hk, rfl, hok, hg⟩ := hrel
    by_cases hlt : k < n
    · obtain ⟨b, off, rfl, z0, z1⟩ := Pts_at (HP.out.keep (hgW.trans hg)) (k := k) (by have := HN.out; omega)
      have q1 := pr_bd HVC.out HV.out k
      have HY : Hid (decide (pr (u, v) (ps.getD k (0, 0)) < t) = true → ∀ i, i < k + 1 → decide (pr (u, v) (ps.getD i (0, 0)) < t) = true) := Lib.hid (fun h i hi => by
        rcases Nat.lt_succ_iff_lt_or_eq.1 hi with j | rfl
        · exact hok.out i j
        · exact h)
      have HNO : Hid (decide (pr (u, v) (ps.getD k (0, 0)) < t) = false → r = false) := Lib.hid (fun h => by rw [HRR.out, all_not (f := fun p => decide (pr (u, v) p < t)) (by rw [HN.out]; exact hlt) h, Bool.false_and])
      have hpr : pr (u, v) (ps.getD k (0, 0)) = u * (ps.getD k (0, 0)).1 + v * (ps.getD k (0, 0)).2 := rfl
      rw [hpr] at q1 HY HNO
      clear hpr
      obtain ⟨g0, g1⟩ := HV.out k
      generalize ps.getD k (0, 0) = q at z0 z1 q1 g0 g1 HY HNO
      obtain ⟨a, b'⟩ := q
      dsimp only at z0 z1 q1 g0 g1 HY HNO
      unfold Co at g0 g1
      have f1 := mul_bd (A := 1073741824) (B := 4096) ⟨u1, u2⟩ g0
      have f2 := mul_bd (A := 1073741824) (B := 4096) ⟨v1, v2⟩ g1
      have x1 : IntKind.i64.wrap (u * a) = u * a := IntWalk.i64_in _ (by omega)
      have x2 : IntKind.i64.wrap (v * b') = v * b' := IntWalk.i64_in _ (by omega)
      have x3 : IntKind.i64.wrap (u * a + v * b') = u * a + v * b' := IntWalk.i64_in _ (by omega)
      have d4 := hg.keep r4
      have d5 := hg.keep r5
      have d6 := hg.keep r6
      go_wp2_with fail
      go_quiet (fail)
      clear z0 z1 d4 d5 d6 x1 x2 x3
      generalize hW : World.drewN _ _ = W2
      have hg2 := drewN_gr hW
      clear hW
      by_cases hs : u * a + v * b' < t
      · have HF := Lib.hid (HY.out (decide_eq_true hs))
        go_wp2_with fail
        go_roundw
        case rel => exact ⟨k + 1, by omega, by go_num, HF, hg.trans hg2⟩
        case measure => simp [intOf]; omega
      · have HF := Lib.hid (HNO.out (decide_eq_false hs))
        go_wp2_with fail
        go_ret
        exact ⟨ret_bool HF.out.symm, (hgW.trans hg).trans hg2⟩
    · have HT : Hid (r = (qs.all fun p => decide (t < pr (u, v) p))) := Lib.hid (by
        have hkn : k = n := by omega
        rw [HRR.out, all_at (f := fun p => decide (pr (u, v) p < t)) (fun i hi => hok.out i (by rw [HN.out] at hi; omega)), Bool.true_and])
      have hgw := hgW.trans hg
      have d4 := hg.keep r4
      have d5 := hg.keep r5
      have d6 := hg.keep r6
      clear HRR hok hg r0 r1 r2 r3 r4 r5 r6 hgW
      obtain ⟨wo, rfl⟩ : ∃ wo : World, wo = wr := ⟨_, rfl⟩
      go_wp2_with fail
      go_loopw [8] (fun i wr => ∃ k : Nat, k ≤ n' ∧ i = .int .i64 k ∧ Hid (∀ i, i < k → decide (t < pr (u, v) (qs.getD i (0, 0))) = true) ∧ Gr wo wr) (fun i _ => n' - (intOf i).toNat)
      case atStart => exact ⟨0, Nat.zero_le _, rfl, Lib.hid (fun i h => by omega), Gr.refl _⟩
      case round =>
        obtain ⟨k, hk, rfl, hok, hg⟩ := hrel
        by_cases hlt : k < n'
        · obtain ⟨b, off, rfl, z0, z1⟩ := Pts_at (HQ.out.keep (hgw.trans hg)) (k := k) (by have := HN'.out; omega)
          have q1 := pr_bd HVC.out HV'.out k
          have HY : Hid (decide (t < pr (u, v) (qs.getD k (0, 0))) = true → ∀ i, i < k + 1 → decide (t < pr (u, v) (qs.getD i (0, 0))) = true) := Lib.hid (fun h i hi => by
            rcases Nat.lt_succ_iff_lt_or_eq.1 hi with j | rfl
            · exact hok.out i j
            · exact h)
          have HNO : Hid (decide (t < pr (u, v) (qs.getD k (0, 0))) = false → r = false) := Lib.hid (fun h => by rw [HT.out, all_not (f := fun p => decide (t < pr (u, v) p)) (by rw [HN'.out]; exact hlt) h])
          have hpr : pr (u, v) (qs.getD k (0, 0)) = u * (qs.getD k (0, 0)).1 + v * (qs.getD k (0, 0)).2 := rfl
          rw [hpr] at q1 HY HNO
          clear hpr
          obtain ⟨g0, g1⟩ := HV'.out k
          generalize qs.getD k (0, 0) = q at z0 z1 q1 g0 g1 HY HNO
          obtain ⟨a, b'⟩ := q
          dsimp only at z0 z1 q1 g0 g1 HY HNO
          unfold Co at g0 g1
          have f1 := mul_bd (A := 1073741824) (B := 4096) ⟨u1, u2⟩ g0
          have f2 := mul_bd (A := 1073741824) (B := 4096) ⟨v1, v2⟩ g1
          have x1 : IntKind.i64.wrap (u * a) = u * a := IntWalk.i64_in _ (by omega)
          have x2 : IntKind.i64.wrap (v * b') = v * b' := IntWalk.i64_in _ (by omega)
          have x3 : IntKind.i64.wrap (u * a + v * b') = u * a + v * b' := IntWalk.i64_in _ (by omega)
          replace d4 := hg.keep d4
          replace d5 := hg.keep d5
          replace d6 := hg.keep d6
          go_wp2_with fail
          go_quiet (fail)
          clear z0 z1 d4 d5 d6 x1 x2 x3
          generalize hW : World.drewN _ _ = W2
          have hg2 := drewN_gr hW
          clear hW
          by_cases hs : t < u * a + v * b'
          · have HF := Lib.hid (HY.out (decide_eq_true hs))
            go_wp2_with fail
            go_roundw
            case rel => exact ⟨k + 1, by omega, by go_num, HF, hg.trans hg2⟩
            case measure => simp [intOf]; omega
          · have HF := Lib.hid (HNO.out (decide_eq_false hs))
            go_wp2_with fail
            go_ret
            exact ⟨ret_bool HF.out.symm, (hgw.trans hg).trans hg2⟩
        · have HF : Hid (r = true) := Lib.hid (by
            have hkn : k = n' := by omega
            rw [HT.out, all_at (f := fun p => decide (t < pr (u, v) p)) (fun i hi => hok.out i (by rw [HN'.out] at hi; omega))])
          go_wp2_with fail
          go_ret
          exact ⟨ret_bool HF.out.symm, hgw.trans hg⟩

theorem rRight_any (A B : Option Addr) (n c n' c' : Nat) (ps qs : List (Int × Int)) (m : Bool) (x y d u v t : Int) (w : World) (hn : ps.length = n) (hn' : qs.length = n') (h1 : 1 ≤ n) (h1' : 1 ≤ n') (hl : n ≤ 512) (hl' : n' ≤ 512)
    (hp : Pts w A ps) (hq : Pts w B qs) (hv : Cos ps) (hv' : Cos qs) :
    Calls Try.prog 19 #[.slice A n c, .slice B n' c', .agg #[.bool m, .int .i64 x, .int .i64 y, .int .i64 d, .int .i64 u, .int .i64 v, .int .i64 t]] w fun e w' => e = .returned (.bool (rightL ps qs ⟨m, x, y, d, u, v, t⟩)) ∧ Gr w w' := by
  cases m with
  | false => exact rRight_line A B n c n' c' ps qs x y d u v t w hn hn' hl hl' hp hq hv hv'
  | true => exact rRight_meet A B n c n' c' ps qs x y d u v t w hn hn' h1 h1' hl hl' hp hq hv hv'

end Go.Proofs.Ytjkdjfagaakijaa
