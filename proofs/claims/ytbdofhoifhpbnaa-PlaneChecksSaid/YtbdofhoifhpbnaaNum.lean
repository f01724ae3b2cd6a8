/- Contracts of the functions on single points and numbers. -/
import Derived.Test.YtbdofhoifhpbnaaBase
import Derived.Test.YtbdofhoifhpbnaaMath
import Derived.WalkKit
import Derived.WalkSpells
import Derived.WalkLawsBesides
import Derived.BigQuiet
import Derived.Deep.QuietTactic
import Derived.Lib.Hide
namespace Go.Proofs.Ytbdofhoifhpbnaa
open Go.RowKit

set_option maxHeartbeats 400000 in
theorem inRange_any (n m : Int) (w : World) (hm : 0 ≤ m ∧ m ≤ 4611686018427387904) (r : Bool) (hr : (decide (-m ≤ n) && decide (n ≤ m)) = r) :
    Calls Try.prog 77 #[.int .i64 n, .int .i64 m] w fun e w' => e = .returned (.bool r) ∧ w = w' := by
  subst hr
  go_enter Try.func77, Try.ntmps77
  go_wp2
  · have h : -m ≤ n := by assumption
    go_ret
    exact ⟨ret_bool (by simp [h]), rfl⟩
  · have h : n < -m := by assumption
    go_ret
    exact ⟨ret_bool (by simp; omega), rfl⟩

set_option maxHeartbeats 400000 in
theorem within_any (n m : Int) (w : World) (hm : 0 ≤ m ∧ m ≤ 4611686018427387904) (r : Bool) (hr : (decide (-m ≤ n) && decide (n ≤ m)) = r) :
    Calls Try.prog 47 #[.int .i64 n, .int .i64 m] w fun e w' => e = .returned (.bool r) ∧ w = w' := by
  subst hr
  go_enter Try.func47, Try.ntmps47
  go_wp2
  · have h : -m ≤ n := by assumption
    go_ret
    exact ⟨ret_bool (by simp [h]), rfl⟩
  · have h : n < -m := by assumption
    go_ret
    exact ⟨ret_bool (by simp; omega), rfl⟩

set_option maxHeartbeats 400000 in
theorem valid_any (x y : Int) (w : World) (r : Bool) (hr : vld x y = r) :
    Calls Try.prog 56 #[.agg #[.int .i64 x, .int .i64 y]] w fun e w' => e = .returned (.bool r) ∧ Gr w w' := by
  subst hr
  cases hx : (decide (-4096 ≤ x) && decide (x ≤ 4096))
  · have e : vld x y = false := by
      cases h : vld x y
      · rfl
      · have := (vld_iff x y).1 h
        simp at hx; omega
    rw [e]
    have H := Lib.hid hx
    clear hx e
    go_enter Try.func56, Try.ntmps56
    go_wp2_with fail
    refine (inRange_any x _ _ (by omega) _ H.out).mono ?_
    rintro e w' ⟨rfl, rfl⟩
    go_wp2_with fail
    go_ret
    exact ⟨rfl, (Gr.refl _).alloc _⟩
  · cases hy : (decide (-4096 ≤ y) && decide (y ≤ 4096))
    all_goals
      have e : vld x y = (decide (-4096 ≤ y) && decide (y ≤ 4096)) := by
        simp at hx
        simp [vld, hx]
      rw [hy] at e
      rw [e]
      have H := Lib.hid hx
      have H2 := Lib.hid hy
      clear hx hy e
      go_enter Try.func56, Try.ntmps56
      go_wp2_with fail
      refine (inRange_any x _ _ (by omega) _ H.out).mono ?_
      rintro e w' ⟨rfl, rfl⟩
      go_wp2_with fail
      refine (inRange_any y _ _ (by omega) _ H2.out).mono ?_
      rintro e w' ⟨rfl, rfl⟩
      go_wp2_with fail
      go_ret
      exact ⟨rfl, (Gr.refl _).alloc _⟩

set_option maxHeartbeats 400000 in
theorem rValid_any (x y : Int) (w : World) (r : Bool) (hr : vld x y = r) :
    Calls Try.prog 49 #[.agg #[.int .i64 x, .int .i64 y]] w fun e w' => e = .returned (.bool r) ∧ Gr w w' := by
  subst hr
  go_enter Try.func49, Try.ntmps49
  go_wp2
  all_goals
    go_ret
    refine ⟨ret_bool ?_, (Gr.refl _).alloc _⟩
    unfold vld
    simp
    try omega

set_option maxHeartbeats 400000 in
theorem cross_any (ax ay bx by_ cx cy : Int) (w : World) (h1 : Co ax) (h2 : Co ay) (h3 : Co bx) (h4 : Co by_) (h5 : Co cx) (h6 : Co cy) :
    Calls Try.prog 63 #[.agg #[.int .i64 ax, .int .i64 ay], .agg #[.int .i64 bx, .int .i64 by_], .agg #[.int .i64 cx, .int .i64 cy]] w fun e w' => e = .returned (.int .i64 (crs ax ay bx by_ cx cy)) ∧ Gr w w' := by
  unfold Co at *
  have b1 := mul_bd (a := bx - ax) (b := cy - ay) (A := 8192) (B := 8192) (by omega) (by omega)
  have b2 := mul_bd (a := by_ - ay) (b := cx - ax) (A := 8192) (B := 8192) (by omega) (by omega)
  go_enter Try.func63, Try.ntmps63
  go_wp2
  go_ret
  exact ⟨rfl, by (repeat (first | exact Gr.refl _ | assumption | (refine Gr.drew ?_) | (refine Gr.drewN ?_ _) | (refine Gr.alloc ?_ _) | (refine Gr.trans ?_ (by assumption))))⟩

set_option maxHeartbeats 400000 in
theorem rcross_any (ax ay bx by_ cx cy : Int) (w : World) (h1 : Co ax) (h2 : Co ay) (h3 : Co bx) (h4 : Co by_) (h5 : Co cx) (h6 : Co cy) :
    Calls Try.prog 64 #[.agg #[.int .i64 ax, .int .i64 ay], .agg #[.int .i64 bx, .int .i64 by_], .agg #[.int .i64 cx, .int .i64 cy]] w fun e w' => e = .returned (.int .i64 (crs ax ay bx by_ cx cy)) ∧ Gr w w' := by
  unfold Co at *
  have b1 := mul_bd (a := bx - ax) (b := cy - ay) (A := 8192) (B := 8192) (by omega) (by omega)
  have b2 := mul_bd (a := by_ - ay) (b := cx - ax) (A := 8192) (B := 8192) (by omega) (by omega)
  go_enter Try.func64, Try.ntmps64
  go_wp2
  go_ret
  exact ⟨rfl, by (repeat (first | exact Gr.refl _ | assumption | (refine Gr.drew ?_) | (refine Gr.drewN ?_ _) | (refine Gr.alloc ?_ _) | (refine Gr.trans ?_ (by assumption))))⟩

set_option maxHeartbeats 400000 in
theorem isNaN_any (x : Int) (w : World) : Calls Try.prog 79 #[.int .i64 x] w fun e w' => e = .returned (.bool false) ∧ w = w' := by
  go_enter Try.func79, Try.ntmps79
  go_wp2
  go_ret
  exact ⟨ret_bool (by simp), rfl⟩

set_option maxHeartbeats 400000 in
theorem cmp_any (x y : Int) (w : World) : Calls Try.prog 60 #[.int .i64 x, .int .i64 y] w fun e w' => e = .returned (.int .i64 (sgn (x - y))) ∧ w = w' := by
  rcases Int.lt_trichotomy x y with h | h | h
  all_goals
    go_enter Try.func60, Try.ntmps60
    go_wp2_with fail
    refine (isNaN_any _ _).mono ?_
    rintro e w' ⟨rfl, rfl⟩
    go_wp2_with fail
    refine (isNaN_any _ _).mono ?_
    rintro e w' ⟨rfl, rfl⟩
    go_wp2_with fail
    go_ret
    exact ⟨ret_int (by unfold sgn; simp; omega), rfl⟩

theorem cmp_zero (x : Int) (w : World) : Calls Try.prog 60 #[.int .i64 x, .int .i64 0] w fun e w' => e = .returned (.int .i64 (sgn x)) ∧ w = w' := by
  have h := cmp_any x 0 w
  rw [Int.sub_zero] at h
  exact h

set_option maxHeartbeats 400000 in
theorem turn_any (ax ay bx by_ cx cy : Int) (w : World) (h1 : Co ax) (h2 : Co ay) (h3 : Co bx) (h4 : Co by_) (h5 : Co cx) (h6 : Co cy) :
    Calls Try.prog 65 #[.agg #[.int .i64 ax, .int .i64 ay], .agg #[.int .i64 bx, .int .i64 by_], .agg #[.int .i64 cx, .int .i64 cy]] w fun e w' => e = .returned (.int .i64 (sgn (crs ax ay bx by_ cx cy))) ∧ Gr w w' := by
  go_enter Try.func65, Try.ntmps65
  go_wp2_with fail
  refine (cross_any _ _ _ _ _ _ _ h1 h2 h3 h4 h5 h6).mono ?_
  rintro e w1 ⟨rfl, hb⟩
  go_wp2_with fail
  refine (cmp_zero _ _).mono ?_
  rintro e w' ⟨rfl, rfl⟩
  go_wp2_with fail
  go_ret
  exact ⟨rfl, by (repeat (first | exact Gr.refl _ | assumption | (refine Gr.drew ?_) | (refine Gr.drewN ?_ _) | (refine Gr.alloc ?_ _) | (refine Gr.trans ?_ (by assumption))))⟩

set_option maxHeartbeats 400000 in
theorem rSign_any (n : Int) (w : World) : Calls Try.prog 39 #[.int .i64 n] w fun e w' => e = .returned (.int .i64 (sgn n)) ∧ w = w' := by
  go_enter Try.func39, Try.ntmps39
  go_wp2
  all_goals
    go_ret
    exact ⟨ret_int (by unfold sgn; (repeat' split) <;> omega), rfl⟩

set_option maxHeartbeats 400000 in
theorem rTurn_any (ax ay bx by_ cx cy : Int) (w : World) (h1 : Co ax) (h2 : Co ay) (h3 : Co bx) (h4 : Co by_) (h5 : Co cx) (h6 : Co cy) :
    Calls Try.prog 35 #[.agg #[.int .i64 ax, .int .i64 ay], .agg #[.int .i64 bx, .int .i64 by_], .agg #[.int .i64 cx, .int .i64 cy]] w fun e w' => e = .returned (.int .i64 (sgn (crs ax ay bx by_ cx cy))) ∧ Gr w w' := by
  go_enter Try.func35, Try.ntmps35
  go_wp2_with fail
  refine (rcross_any _ _ _ _ _ _ _ h1 h2 h3 h4 h5 h6).mono ?_
  rintro e w1 ⟨rfl, hb⟩
  go_wp2_with fail
  refine (rSign_any _ _).mono ?_
  rintro e w' ⟨rfl, rfl⟩
  go_wp2_with fail
  go_ret
  exact ⟨rfl, by (repeat (first | exact Gr.refl _ | assumption | (refine Gr.drew ?_) | (refine Gr.drewN ?_ _) | (refine Gr.alloc ?_ _) | (refine Gr.trans ?_ (by assumption))))⟩

set_option maxHeartbeats 400000 in
theorem next_any (i n : Int) (w : World) (h : 0 ≤ i ∧ i < n ∧ n ≤ 281474976710656) : Calls Try.prog 34 #[.int .i64 i, .int .i64 n] w fun e w' => e = .returned (.int .i64 (if i + 1 < n then i + 1 else 0)) ∧ w = w' := by
  go_enter Try.func34, Try.ntmps34
  go_wp2
  all_goals
    go_ret
    exact ⟨ret_int (by (repeat' split) <;> omega), rfl⟩

set_option maxHeartbeats 400000 in
theorem rSquare_any (ax ay bx by_ : Int) (w : World) (h1 : Co ax) (h2 : Co ay) (h3 : Co bx) (h4 : Co by_) :
    Calls Try.prog 59 #[.agg #[.int .i64 ax, .int .i64 ay], .agg #[.int .i64 bx, .int .i64 by_]] w fun e w' => e = .returned (.int .i64 (sqd ax ay bx by_)) ∧ Gr w w' := by
  unfold Co at *
  rw [sqd_symm]
  have b1 := mul_bd (a := ax - bx) (b := ax - bx) (A := 8192) (B := 8192) (by omega) (by omega)
  have b2 := mul_bd (a := ay - by_) (b := ay - by_) (A := 8192) (B := 8192) (by omega) (by omega)
  go_enter Try.func59, Try.ntmps59
  go_wp2
  go_ret
  exact ⟨rfl, by (repeat (first | exact Gr.refl _ | assumption | (refine Gr.drew ?_) | (refine Gr.drewN ?_ _) | (refine Gr.alloc ?_ _) | (refine Gr.trans ?_ (by assumption))))⟩

end Go.Proofs.Ytbdofhoifhpbnaa
