/- Contracts of the functions on single points and numbers.
Contracts of the functions on segments. -/
import Derived.Test.YthleajmamkihaaaBase
import Derived.Test.YthleajmamkihaaaMath
import Derived.WalkKit
import Derived.WalkSpells
import Derived.WalkLawsBesides
import Derived.BigQuiet
import Derived.Deep.QuietTactic
import Derived.Lib.Hide
import Derived.Deep.RegionHeld3
namespace Go.Proofs.Ythleajmamkihaaa
open Go.RowKit

set_option maxHeartbeats 400000 in
theorem inRange_any (n m : Int) (w : World) (hm : 0 ≤ m ∧ m ≤ 4611686018427387904) (r : Bool) (hr : (decide (-m ≤ n) && decide (n ≤ m)) = r) :
    Calls Try.prog 33 #[.int .i64 n, .int .i64 m] w fun e w' => e = .returned (.bool r) ∧ w = w' := by
  subst hr
  go_enter Try.func33, Try.ntmps33
  go_wp2
  · have h : -m ≤ n := by assumption
    go_ret
    exact ⟨ret_bool (by simp [h]), rfl⟩
  · have h : n < -m := by assumption
    go_ret
    exact ⟨ret_bool (by simp; omega), rfl⟩

set_option maxHeartbeats 400000 in
theorem valid_any (x y : Int) (w : World) (r : Bool) (hr : vld x y = r) :
    Calls Try.prog 18 #[.agg #[.int .i64 x, .int .i64 y]] w fun e w' => e = .returned (.bool r) ∧ Gr w w' := by
  subst hr
  cases hx : (decide (-4096 ≤ x) && decide (x ≤ 4096))
  · have e : vld x y = false := by
      cases h : vld x y
      · rfl
      · have := (vld_iff x y).1 h
        simp at hx; omega
    rw [e]
    have H := Lib.hid hx
    clear hx e
    go_enter Try.func18, Try.ntmps18
    go_wp2_with fail
    refine (inRange_any x _ _ (by omega) _ H.out).mono ?_
    rintro e w' ⟨rfl, rfl⟩
    go_wp2_with fail
    go_ret
    exact ⟨rfl, (Gr.refl _).alloc _⟩
  · cases hy : (decide (-4096 ≤ y) && decide (y ≤ 4096))
    all_goals
      have e : vld x y = (decide (-4096 ≤ y) && decide (y ≤ 4096)) := by
        simp at hx
        simp [vld, hx]
      rw [hy] at e
      rw [e]
      have H := Lib.hid hx
      have H2 := Lib.hid hy
      clear hx hy e
      go_enter Try.func18, Try.ntmps18
      go_wp2_with fail
      refine (inRange_any x _ _ (by omega) _ H.out).mono ?_
      rintro e w' ⟨rfl, rfl⟩
      go_wp2_with fail
      refine (inRange_any y _ _ (by omega) _ H2.out).mono ?_
      rintro e w' ⟨rfl, rfl⟩
      go_wp2_with fail
      go_ret
      exact ⟨rfl, (Gr.refl _).alloc _⟩

set_option maxHeartbeats 400000 in
theorem cross_any (ax ay bx by_ cx cy : Int) (w : World) (h1 : Co ax) (h2 : Co ay) (h3 : Co bx) (h4 : Co by_) (h5 : Co cx) (h6 : Co cy) :
    Calls Try.prog 36 #[.agg #[.int .i64 ax, .int .i64 ay], .agg #[.int .i64 bx, .int .i64 by_], .agg #[.int .i64 cx, .int .i64 cy]] w fun e w' => e = .returned (.int .i64 (crs ax ay bx by_ cx cy)) ∧ Gr w w' := by
  unfold Co at *
  have b1 := mul_bd (a := bx - ax) (b := cy - ay) (A := 8192) (B := 8192) (by omega) (by omega)
  have b2 := mul_bd (a := by_ - ay) (b := cx - ax) (A := 8192) (B := 8192) (by omega) (by omega)
  go_enter Try.func36, Try.ntmps36
  go_wp2
  go_ret
  exact ⟨rfl, by (repeat (first | exact Gr.refl _ | assumption | (refine Gr.drew ?_) | (refine Gr.drewN ?_ _) | (refine Gr.alloc ?_ _) | (refine Gr.trans ?_ (by assumption))))⟩

set_option maxHeartbeats 400000 in
theorem isNaN_any (x : Int) (w : World) : Calls Try.prog 64 #[.int .i64 x] w fun e w' => e = .returned (.bool false) ∧ w = w' := by
  go_enter Try.func64, Try.ntmps64
  go_wp2
  go_ret
  exact ⟨ret_bool (by simp), rfl⟩

set_option maxHeartbeats 400000 in
theorem cmp_any (x y : Int) (w : World) : Calls Try.prog 48 #[.int .i64 x, .int .i64 y] w fun e w' => e = .returned (.int .i64 (sgn (x - y))) ∧ w = w' := by
  rcases Int.lt_trichotomy x y with h | h | h
  all_goals
    go_enter Try.func48, Try.ntmps48
    go_wp2_with fail
    refine (isNaN_any _ _).mono ?_
    rintro e w' ⟨rfl, rfl⟩
    go_wp2_with fail
    refine (isNaN_any _ _).mono ?_
    rintro e w' ⟨rfl, rfl⟩
    go_wp2_with fail
    go_ret
    exact ⟨ret_int (by unfold sgn; simp; omega), rfl⟩

theorem cmp_zero (x : Int) (w : World) : Calls Try.prog 48 #[.int .i64 x, .int .i64 0] w fun e w' => e = .returned (.int .i64 (sgn x)) ∧ w = w' := by
  have h := cmp_any x 0 w
  rw [Int.sub_zero] at h
  exact h

set_option maxHeartbeats 400000 in
theorem turn_any (ax ay bx by_ cx cy : Int) (w : World) (h1 : Co ax) (h2 : Co ay) (h3 : Co bx) (h4 : Co by_) (h5 : Co cx) (h6 : Co cy) :
    Calls Try.prog 35 #[.agg #[.int .i64 ax, .int .i64 ay], .agg #[.int .i64 bx, .int .i64 by_], .agg #[.int .i64 cx, .int .i64 cy]] w fun e w' => e = .returned (.int .i64 (sgn (crs ax ay bx by_ cx cy))) ∧ Gr w w' := by
  go_enter Try.func35, Try.ntmps35
  go_wp2_with fail
  refine (cross_any _ _ _ _ _ _ _ h1 h2 h3 h4 h5 h6).mono ?_
  rintro e w1 ⟨rfl, hb⟩
  go_wp2_with fail
  refine (cmp_zero _ _).mono ?_
  rintro e w' ⟨rfl, rfl⟩
  go_wp2_with fail
  go_ret
  exact ⟨rfl, by (repeat (first | exact Gr.refl _ | assumption | (refine Gr.drew ?_) | (refine Gr.drewN ?_ _) | (refine Gr.alloc ?_ _) | (refine Gr.trans ?_ (by assumption))))⟩

end Go.Proofs.Ythleajmamkihaaa

namespace Go.Proofs.Ythleajmamkihaaa
open Go.RowKit

theorem boxes2 {w W : World} {t u : TypeId} {ax ay bx by_ : Value} (hW : (w.alloc (.cells #[ax, ay] t)).alloc (.cells #[bx, by_] u) = W) :
    Gr w W ∧ (W.cell? ⟨w.heap.size, 0, none⟩ = some ax ∧ W.cell? ⟨w.heap.size, 1, none⟩ = some ay ∧ W.cell? ⟨w.heap.size + 1, 0, none⟩ = some bx ∧ W.cell? ⟨w.heap.size + 1, 1, none⟩ = some by_) := by
  subst hW
  exact ⟨by (repeat (first | exact Gr.refl _ | assumption | (refine Gr.drew ?_) | (refine Gr.drewN ?_ _) | (refine Gr.alloc ?_ _) | (refine Gr.trans ?_ (by assumption)))), alloc_old (alloc_new rfl rfl), alloc_old (alloc_new rfl rfl), alloc_new (by simp) rfl, alloc_new (by simp) rfl⟩
theorem boxes3 {w W : World} {t : TypeId} {ax ay bx by_ cx cy : Value} (hW : ((w.alloc (.cells #[ax, ay] t)).alloc (.cells #[bx, by_] t)).alloc (.cells #[cx, cy] t) = W) :
    Gr w W ∧ (W.cell? ⟨w.heap.size, 0, none⟩ = some ax ∧ W.cell? ⟨w.heap.size, 1, none⟩ = some ay ∧ W.cell? ⟨w.heap.size + 1, 0, none⟩ = some bx ∧ W.cell? ⟨w.heap.size + 1, 1, none⟩ = some by_ ∧
      W.cell? ⟨w.heap.size + 1 + 1, 0, none⟩ = some cx ∧ W.cell? ⟨w.heap.size + 1 + 1, 1, none⟩ = some cy) := by
  subst hW
  exact ⟨by (repeat (first | exact Gr.refl _ | assumption | (refine Gr.drew ?_) | (refine Gr.drewN ?_ _) | (refine Gr.alloc ?_ _) | (refine Gr.trans ?_ (by assumption)))), alloc_old (alloc_old (alloc_new rfl rfl)), alloc_old (alloc_old (alloc_new rfl rfl)), alloc_old (alloc_new (by simp) rfl), alloc_old (alloc_new (by simp) rfl), alloc_new (by simp) rfl, alloc_new (by simp) rfl⟩
/-- Two edges in boxes. -/
theorem boxesE {w W : World} {t u : TypeId} {a0 a1 a2 a3 b0 b1 b2 b3 : Value} (hW : (w.alloc (.cells #[a0, a1, a2, a3] t)).alloc (.cells #[b0, b1, b2, b3] u) = W) :
    Gr w W ∧ (W.cell? ⟨w.heap.size, 0, none⟩ = some a0 ∧ W.cell? ⟨w.heap.size, 1, none⟩ = some a1 ∧ W.cell? ⟨w.heap.size, 2, none⟩ = some a2 ∧ W.cell? ⟨w.heap.size, 3, none⟩ = some a3 ∧
      W.cell? ⟨w.heap.size + 1, 0, none⟩ = some b0 ∧ W.cell? ⟨w.heap.size + 1, 1, none⟩ = some b1 ∧ W.cell? ⟨w.heap.size + 1, 2, none⟩ = some b2 ∧ W.cell? ⟨w.heap.size + 1, 3, none⟩ = some b3) := by
  subst hW
  exact ⟨by (repeat (first | exact Gr.refl _ | assumption | (refine Gr.drew ?_) | (refine Gr.drewN ?_ _) | (refine Gr.alloc ?_ _) | (refine Gr.trans ?_ (by assumption)))), alloc_old (alloc_new rfl rfl), alloc_old (alloc_new rfl rfl), alloc_old (alloc_new rfl rfl), alloc_old (alloc_new rfl rfl), alloc_new (by simp) rfl, alloc_new (by simp) rfl, alloc_new (by simp) rfl, alloc_new (by simp) rfl⟩
theorem boxes4 {w W : World} {t : TypeId} {ax ay bx by_ cx cy dx dy : Value} (hW : (((w.alloc (.cells #[ax, ay] t)).alloc (.cells #[bx, by_] t)).alloc (.cells #[cx, cy] t)).alloc (.cells #[dx, dy] t) = W) :
    Gr w W ∧ (W.cell? ⟨w.heap.size, 0, none⟩ = some ax ∧ W.cell? ⟨w.heap.size, 1, none⟩ = some ay ∧ W.cell? ⟨w.heap.size + 1, 0, none⟩ = some bx ∧ W.cell? ⟨w.heap.size + 1, 1, none⟩ = some by_ ∧
      W.cell? ⟨w.heap.size + 1 + 1, 0, none⟩ = some cx ∧ W.cell? ⟨w.heap.size + 1 + 1, 1, none⟩ = some cy ∧ W.cell? ⟨w.heap.size + 1 + 1 + 1, 0, none⟩ = some dx ∧ W.cell? ⟨w.heap.size + 1 + 1 + 1, 1, none⟩ = some dy) := by
  subst hW
  exact ⟨by (repeat (first | exact Gr.refl _ | assumption | (refine Gr.drew ?_) | (refine Gr.drewN ?_ _) | (refine Gr.alloc ?_ _) | (refine Gr.trans ?_ (by assumption)))), alloc_old (alloc_old (alloc_old (alloc_new rfl rfl))), alloc_old (alloc_old (alloc_old (alloc_new rfl rfl))), alloc_old (alloc_old (alloc_new (by simp) rfl)), alloc_old (alloc_old (alloc_new (by simp) rfl)),
    alloc_old (alloc_new (by simp) rfl), alloc_old (alloc_new (by simp) rfl), alloc_new (by simp) rfl, alloc_new (by simp) rfl⟩

theorem turn_is (ax ay bx by_ cx cy : Int) (w : World) (s : Int) (hs : sgn (crs ax ay bx by_ cx cy) = s) (h1 : Co ax) (h2 : Co ay) (h3 : Co bx) (h4 : Co by_) (h5 : Co cx) (h6 : Co cy) :
    Calls Try.prog 35 #[.agg #[.int .i64 ax, .int .i64 ay], .agg #[.int .i64 bx, .int .i64 by_], .agg #[.int .i64 cx, .int .i64 cy]] w fun e w' => e = .returned (.int .i64 s) ∧ Gr w w' := by
  subst hs; exact turn_any _ _ _ _ _ _ _ h1 h2 h3 h4 h5 h6
set_option maxHeartbeats 400000 in
theorem spans_any (a b c d : Int) (w : World) (r : Bool) (hr : spansT a b c d = r) :
    Calls Try.prog 47 #[.int .i64 a, .int .i64 b, .int .i64 c, .int .i64 d] w fun e w' => e = .returned (.bool r) ∧ w = w' := by
  subst hr
  go_enter Try.func47, Try.ntmps47
  go_wp2
  all_goals
    go_ret
    refine ⟨ret_bool ?_, rfl⟩
    first | exact decide_eq_decide.2 (by omega) | exact (decide_eq_true (by omega)).symm | exact (decide_eq_false (by omega)).symm

end Go.Proofs.Ythleajmamkihaaa
