/- Contracts of the functions on single points and numbers.
Contracts of the functions on segments. -/
import Derived.Test.YtjkdjfagaakijaaBase
import Derived.Test.YtjkdjfagaakijaaMath
import Derived.WalkKit
import Derived.WalkSpells
import Derived.WalkLawsBesides
import Derived.BigQuiet
import Derived.Deep.QuietTactic
import Derived.Lib.Hide
import Derived.Deep.RegionHeld3
namespace Go.Proofs.Ytjkdjfagaakijaa
open Go.RowKit

set_option maxHeartbeats 400000 in
theorem inRange_any (n m : Int) (w : World) (hm : 0 ≤ m ∧ m ≤ 4611686018427387904) (r : Bool) (hr : (decide (-m ≤ n) && decide (n ≤ m)) = r) :
    Calls Try.prog 76 #[.int .i64 n, .int .i64 m] w fun e w' => e = .returned (.bool r) ∧ w = w' := by
  subst hr
  go_enter Try.func76, Try.ntmps76
  go_wp2
  · have h : -m ≤ n := by assumption
    go_ret
    exact ⟨ret_bool (by simp [h]), rfl⟩
  · have h : n < -m := by assumption
    go_ret
    exact ⟨ret_bool (by simp; omega), rfl⟩

set_option maxHeartbeats 400000 in
theorem within_any (n m : Int) (w : World) (hm : 0 ≤ m ∧ m ≤ 4611686018427387904) (r : Bool) (hr : (decide (-m ≤ n) && decide (n ≤ m)) = r) :
    Calls Try.prog 46 #[.int .i64 n, .int .i64 m] w fun e w' => e = .returned (.bool r) ∧ w = w' := by
  subst hr
  go_enter Try.func46, Try.ntmps46
  go_wp2
  · have h : -m ≤ n := by assumption
    go_ret
    exact ⟨ret_bool (by simp [h]), rfl⟩
  · have h : n < -m := by assumption
    go_ret
    exact ⟨ret_bool (by simp; omega), rfl⟩

set_option maxHeartbeats 400000 in
theorem valid_any (x y : Int) (w : World) (r : Bool) (hr : vld x y = r) :
    Calls Try.prog 55 #[.agg #[.int .i64 x, .int .i64 y]] w fun e w' => e = .returned (.bool r) ∧ Gr w w' := by
  subst hr
  cases hx : (decide (-4096 ≤ x) && decide (x ≤ 4096))
  · have e : vld x y = false := by
      cases h : vld x y
      · rfl
      · have := (vld_iff x y).1 h
        simp at hx; omega
    rw [e]
    have H := Lib.hid hx
    clear hx e
    go_enter Try.func55, Try.ntmps55
    go_wp2_with fail
    refine (inRange_any x _ _ (by omega) _ H.out).mono ?_
    rintro e w' ⟨rfl, rfl⟩
    go_wp2_with fail
    go_ret
    exact ⟨rfl, (Gr.refl _).alloc _⟩
  · cases hy : (decide (-4096 ≤ y) && decide (y ≤ 4096))
    all_goals
      have e : vld x y = (decide (-4096 ≤ y) && decide (y ≤ 4096)) := by
        simp at hx
        simp [vld, hx]
      rw [hy] at e
      rw [e]
      have H := Lib.hid hx
      have H2 := Lib.hid hy
      clear hx hy e
      go_enter Try.func55, Try.ntmps55
      go_wp2_with fail
      refine (inRange_any x _ _ (by omega) _ H.out).mono ?_
      rintro e w' ⟨rfl, rfl⟩
      go_wp2_with fail
      refine (inRange_any y _ _ (by omega) _ H2.out).mono ?_
      rintro e w' ⟨rfl, rfl⟩
      go_wp2_with fail
      go_ret
      exact ⟨rfl, (Gr.refl _).alloc _⟩

set_option maxHeartbeats 400000 in
theorem rValid_any (x y : Int) (w : World) (r : Bool) (hr : vld x y = r) :
    Calls Try.prog 48 #[.agg #[.int .i64 x, .int .i64 y]] w fun e w' => e = .returned (.bool r) ∧ Gr w w' := by
  subst hr
  go_enter Try.func48, Try.ntmps48
  go_wp2
  all_goals
    go_ret
    refine ⟨ret_bool ?_, (Gr.refl _).alloc _⟩
    unfold vld
    simp
    try omega

set_option maxHeartbeats 400000 in
theorem cross_any (ax ay bx by_ cx cy : Int) (w : World) (h1 : Co ax) (h2 : Co ay) (h3 : Co bx) (h4 : Co by_) (h5 : Co cx) (h6 : Co cy) :
    Calls Try.prog 62 #[.agg #[.int .i64 ax, .int .i64 ay], .agg #[.int .i64 bx, .int .i64 by_], .agg #[.int .i64 cx, .int .i64 cy]] w fun e w' => e = .returned (.int .i64 (crs ax ay bx by_ cx cy)) ∧ Gr w w' := by
  unfold Co at *
  have b1 := mul_bd (a := bx - ax) (b := cy - ay) (A := 8192) (B := 8192) (by omega) (by omega)
  have b2 := mul_bd (a := by_ - ay) (b := cx - ax) (A := 8192) (B := 8192) (by omega) (by omega)
  go_enter Try.func62, Try.ntmps62
  go_wp2
  go_ret
  exact ⟨rfl, by (repeat (first | exact Gr.refl _ | assumption | (refine Gr.drew ?_) | (refine Gr.drewN ?_ _) | (refine Gr.alloc ?_ _) | (refine Gr.trans ?_ (by assumption))))⟩

set_option maxHeartbeats 400000 in
theorem rcross_any (ax ay bx by_ cx cy : Int) (w : World) (h1 : Co ax) (h2 : Co ay) (h3 : Co bx) (h4 : Co by_) (h5 : Co cx) (h6 : Co cy) :
    Calls Try.prog 63 #[.agg #[.int .i64 ax, .int .i64 ay], .agg #[.int .i64 bx, .int .i64 by_], .agg #[.int .i64 cx, .int .i64 cy]] w fun e w' => e = .returned (.int .i64 (crs ax ay bx by_ cx cy)) ∧ Gr w w' := by
  unfold Co at *
  have b1 := mul_bd (a := bx - ax) (b := cy - ay) (A := 8192) (B := 8192) (by omega) (by omega)
  have b2 := mul_bd (a := by_ - ay) (b := cx - ax) (A := 8192) (B := 8192) (by omega) (by omega)
  go_enter Try.func63, Try.ntmps63
  go_wp2
  go_ret
  exact ⟨rfl, by (repeat (first | exact Gr.refl _ | assumption | (refine Gr.drew ?_) | (refine Gr.drewN ?_ _) | (refine Gr.alloc ?_ _) | (refine Gr.trans ?_ (by assumption))))⟩

set_option maxHeartbeats 400000 in
theorem isNaN_any (x : Int) (w : World) : Calls Try.prog 78 #[.int .i64 x] w fun e w' => e = .returned (.bool false) ∧ w = w' := by
  go_enter Try.func78, Try.ntmps78
  go_wp2
  go_ret
  exact ⟨ret_bool (by simp), rfl⟩

set_option maxHeartbeats 400000 in
theorem cmp_any (x y : Int) (w : World) : Calls Try.prog 59 #[.int .i64 x, .int .i64 y] w fun e w' => e = .returned (.int .i64 (sgn (x - y))) ∧ w = w' := by
  rcases Int.lt_trichotomy x y with h | h | h
  all_goals
    go_enter Try.func59, Try.ntmps59
    go_wp2_with fail
    refine (isNaN_any _ _).mono ?_
    rintro e w' ⟨rfl, rfl⟩
    go_wp2_with fail
    refine (isNaN_any _ _).mono ?_
    rintro e w' ⟨rfl, rfl⟩
    go_wp2_with fail
    go_ret
    exact ⟨ret_int (by unfold sgn; simp; omega), rfl⟩

theorem cmp_zero (x : Int) (w : World) : Calls Try.prog 59 #[.int .i64 x, .int .i64 0] w fun e w' => e = .returned (.int .i64 (sgn x)) ∧ w = w' := by
  have h := cmp_any x 0 w
  rw [Int.sub_zero] at h
  exact h

set_option maxHeartbeats 400000 in
theorem turn_any (ax ay bx by_ cx cy : Int) (w : World) (h1 : Co ax) (h2 : Co ay) (h3 : Co bx) (h4 : Co by_) (h5 : Co cx) (h6 : Co cy) :
    Calls Try.prog 64 #[.agg #[.int .i64 ax, .int .i64 ay], .agg #[.int .i64 bx, .int .i64 by_], .agg #[.int .i64 cx, .int .i64 cy]] w fun e w' => e = .returned (.int .i64 (sgn (crs ax ay bx by_ cx cy))) ∧ Gr w w' := by
  go_enter Try.func64, Try.ntmps64
  go_wp2_with fail
  refine (cross_any _ _ _ _ _ _ _ h1 h2 h3 h4 h5 h6).mono ?_
  rintro e w1 ⟨rfl, hb⟩
  go_wp2_with fail
  refine (cmp_zero _ _).mono ?_
  rintro e w' ⟨rfl, rfl⟩
  go_wp2_with fail
  go_ret
  exact ⟨rfl, by (repeat (first | exact Gr.refl _ | assumption | (refine Gr.drew ?_) | (refine Gr.drewN ?_ _) | (refine Gr.alloc ?_ _) | (refine Gr.trans ?_ (by assumption))))⟩

set_option maxHeartbeats 400000 in
theorem rSign_any (n : Int) (w : World) : Calls Try.prog 38 #[.int .i64 n] w fun e w' => e = .returned (.int .i64 (sgn n)) ∧ w = w' := by
  go_enter Try.func38, Try.ntmps38
  go_wp2
  all_goals
    go_ret
    exact ⟨ret_int (by unfold sgn; (repeat' split) <;> omega), rfl⟩

set_option maxHeartbeats 400000 in
theorem rTurn_any (ax ay bx by_ cx cy : Int) (w : World) (h1 : Co ax) (h2 : Co ay) (h3 : Co bx) (h4 : Co by_) (h5 : Co cx) (h6 : Co cy) :
    Calls Try.prog 34 #[.agg #[.int .i64 ax, .int .i64 ay], .agg #[.int .i64 bx, .int .i64 by_], .agg #[.int .i64 cx, .int .i64 cy]] w fun e w' => e = .returned (.int .i64 (sgn (crs ax ay bx by_ cx cy))) ∧ Gr w w' := by
  go_enter Try.func34, Try.ntmps34
  go_wp2_with fail
  refine (rcross_any _ _ _ _ _ _ _ h1 h2 h3 h4 h5 h6).mono ?_
  rintro e w1 ⟨rfl, hb⟩
  go_wp2_with fail
  refine (rSign_any _ _).mono ?_
  rintro e w' ⟨rfl, rfl⟩
  go_wp2_with fail
  go_ret
  exact ⟨rfl, by (repeat (first | exact Gr.refl _ | assumption | (refine Gr.drew ?_) | (refine Gr.drewN ?_ _) | (refine Gr.alloc ?_ _) | (refine Gr.trans ?_ (by assumption))))⟩

set_option maxHeartbeats 400000 in
theorem next_any (i n : Int) (w : World) (h : 0 ≤ i ∧ i < n ∧ n ≤ 281474976710656) : Calls Try.prog 33 #[.int .i64 i, .int .i64 n] w fun e w' => e = .returned (.int .i64 (if i + 1 < n then i + 1 else 0)) ∧ w = w' := by
  go_enter Try.func33, Try.ntmps33
  go_wp2
  all_goals
    go_ret
    exact ⟨ret_int (by (repeat' split) <;> omega), rfl⟩

set_option maxHeartbeats 400000 in
theorem rSquare_any (ax ay bx by_ : Int) (w : World) (h1 : Co ax) (h2 : Co ay) (h3 : Co bx) (h4 : Co by_) :
    Calls Try.prog 58 #[.agg #[.int .i64 ax, .int .i64 ay], .agg #[.int .i64 bx, .int .i64 by_]] w fun e w' => e = .returned (.int .i64 (sqd ax ay bx by_)) ∧ Gr w w' := by
  unfold Co at *
  rw [sqd_symm]
  have b1 := mul_bd (a := ax - bx) (b := ax - bx) (A := 8192) (B := 8192) (by omega) (by omega)
  have b2 := mul_bd (a := ay - by_) (b := ay - by_) (A := 8192) (B := 8192) (by omega) (by omega)
  go_enter Try.func58, Try.ntmps58
  go_wp2
  go_ret
  exact ⟨rfl, by (repeat (first | exact Gr.refl _ | assumption | (refine Gr.drew ?_) | (refine Gr.drewN ?_ _) | (refine Gr.alloc ?_ _) | (refine Gr.trans ?_ (by assumption))))⟩

end Go.Proofs.Ytjkdjfagaakijaa

namespace Go.Proofs.Ytjkdjfagaakijaa
open Go.RowKit

theorem boxes2 {w W : World} {t u : TypeId} {ax ay bx by_ : Value} (hW : (w.alloc (.cells #[ax, ay] t)).alloc (.cells #[bx, by_] u) = W) :
    Gr w W ∧ (W.cell? ⟨w.heap.size, 0, none⟩ = some ax ∧ W.cell? ⟨w.heap.size, 1, none⟩ = some ay ∧ W.cell? ⟨w.heap.size + 1, 0, none⟩ = some bx ∧ W.cell? ⟨w.heap.size + 1, 1, none⟩ = some by_) := by
  subst hW
  exact ⟨by (repeat (first | exact Gr.refl _ | assumption | (refine Gr.drew ?_) | (refine Gr.drewN ?_ _) | (refine Gr.alloc ?_ _) | (refine Gr.trans ?_ (by assumption)))), alloc_old (alloc_new rfl rfl), alloc_old (alloc_new rfl rfl), alloc_new (by simp) rfl, alloc_new (by simp) rfl⟩
theorem boxes3 {w W : World} {t : TypeId} {ax ay bx by_ cx cy : Value} (hW : ((w.alloc (.cells #[ax, ay] t)).alloc (.cells #[bx, by_] t)).alloc (.cells #[cx, cy] t) = W) :
    Gr w W ∧ (W.cell? ⟨w.heap.size, 0, none⟩ = some ax ∧ W.cell? ⟨w.heap.size, 1, none⟩ = some ay ∧ W.cell? ⟨w.heap.size + 1, 0, none⟩ = some bx ∧ W.cell? ⟨w.heap.size + 1, 1, none⟩ = some by_ ∧
      W.cell? ⟨w.heap.size + 1 + 1, 0, none⟩ = some cx ∧ W.cell? ⟨w.heap.size + 1 + 1, 1, none⟩ = some cy) := by
  subst hW
  exact ⟨by (repeat (first | exact Gr.refl _ | assumption | (refine Gr.drew ?_) | (refine Gr.drewN ?_ _) | (refine Gr.alloc ?_ _) | (refine Gr.trans ?_ (by assumption)))), alloc_old (alloc_old (alloc_new rfl rfl)), alloc_old (alloc_old (alloc_new rfl rfl)), alloc_old (alloc_new (by simp) rfl), alloc_old (alloc_new (by simp) rfl), alloc_new (by simp) rfl, alloc_new (by simp) rfl⟩
/-- Two edges in boxes. -/
theorem boxesE {w W : World} {t u : TypeId} {a0 a1 a2 a3 b0 b1 b2 b3 : Value} (hW : (w.alloc (.cells #[a0, a1, a2, a3] t)).alloc (.cells #[b0, b1, b2, b3] u) = W) :
    Gr w W ∧ (W.cell? ⟨w.heap.size, 0, none⟩ = some a0 ∧ W.cell? ⟨w.heap.size, 1, none⟩ = some a1 ∧ W.cell? ⟨w.heap.size, 2, none⟩ = some a2 ∧ W.cell? ⟨w.heap.size, 3, none⟩ = some a3 ∧
      W.cell? ⟨w.heap.size + 1, 0, none⟩ = some b0 ∧ W.cell? ⟨w.heap.size + 1, 1, none⟩ = some b1 ∧ W.cell? ⟨w.heap.size + 1, 2, none⟩ = some b2 ∧ W.cell? ⟨w.heap.size + 1, 3, none⟩ = some b3) := by
  subst hW
  exact ⟨by (repeat (first | exact Gr.refl _ | assumption | (refine Gr.drew ?_) | (refine Gr.drewN ?_ _) | (refine Gr.alloc ?_ _) | (refine Gr.trans ?_ (by assumption)))), alloc_old (alloc_new rfl rfl), alloc_old (alloc_new rfl rfl), alloc_old (alloc_new rfl rfl), alloc_old (alloc_new rfl rfl), alloc_new (by simp) rfl, alloc_new (by simp) rfl, alloc_new (by simp) rfl, alloc_new (by simp) rfl⟩
theorem boxes4 {w W : World} {t : TypeId} {ax ay bx by_ cx cy dx dy : Value} (hW : (((w.alloc (.cells #[ax, ay] t)).alloc (.cells #[bx, by_] t)).alloc (.cells #[cx, cy] t)).alloc (.cells #[dx, dy] t) = W) :
    Gr w W ∧ (W.cell? ⟨w.heap.size, 0, none⟩ = some ax ∧ W.cell? ⟨w.heap.size, 1, none⟩ = some ay ∧ W.cell? ⟨w.heap.size + 1, 0, none⟩ = some bx ∧ W.cell? ⟨w.heap.size + 1, 1, none⟩ = some by_ ∧
      W.cell? ⟨w.heap.size + 1 + 1, 0, none⟩ = some cx ∧ W.cell? ⟨w.heap.size + 1 + 1, 1, none⟩ = some cy ∧ W.cell? ⟨w.heap.size + 1 + 1 + 1, 0, none⟩ = some dx ∧ W.cell? ⟨w.heap.size + 1 + 1 + 1, 1, none⟩ = some dy) := by
  subst hW
  exact ⟨by (repeat (first | exact Gr.refl _ | assumption | (refine Gr.drew ?_) | (refine Gr.drewN ?_ _) | (refine Gr.alloc ?_ _) | (refine Gr.trans ?_ (by assumption)))), alloc_old (alloc_old (alloc_old (alloc_new rfl rfl))), alloc_old (alloc_old (alloc_old (alloc_new rfl rfl))), alloc_old (alloc_old (alloc_new (by simp) rfl)), alloc_old (alloc_old (alloc_new (by simp) rfl)),
    alloc_old (alloc_new (by simp) rfl), alloc_old (alloc_new (by simp) rfl), alloc_new (by simp) rfl, alloc_new (by simp) rfl⟩

theorem turn_is (ax ay bx by_ cx cy : Int) (w : World) (s : Int) (hs : sgn (crs ax ay bx by_ cx cy) = s) (h1 : Co ax) (h2 : Co ay) (h3 : Co bx) (h4 : Co by_) (h5 : Co cx) (h6 : Co cy) :
    Calls Try.prog 64 #[.agg #[.int .i64 ax, .int .i64 ay], .agg #[.int .i64 bx, .int .i64 by_], .agg #[.int .i64 cx, .int .i64 cy]] w fun e w' => e = .returned (.int .i64 s) ∧ Gr w w' := by
  subst hs; exact turn_any _ _ _ _ _ _ _ h1 h2 h3 h4 h5 h6
theorem rTurn_is (ax ay bx by_ cx cy : Int) (w : World) (s : Int) (hs : sgn (crs ax ay bx by_ cx cy) = s) (h1 : Co ax) (h2 : Co ay) (h3 : Co bx) (h4 : Co by_) (h5 : Co cx) (h6 : Co cy) :
    Calls Try.prog 34 #[.agg #[.int .i64 ax, .int .i64 ay], .agg #[.int .i64 bx, .int .i64 by_], .agg #[.int .i64 cx, .int .i64 cy]] w fun e w' => e = .returned (.int .i64 s) ∧ Gr w w' := by
  subst hs; exact rTurn_any _ _ _ _ _ _ _ h1 h2 h3 h4 h5 h6

set_option maxHeartbeats 400000 in
theorem spans_any (a b c d : Int) (w : World) (r : Bool) (hr : spansT a b c d = r) :
    Calls Try.prog 86 #[.int .i64 a, .int .i64 b, .int .i64 c, .int .i64 d] w fun e w' => e = .returned (.bool r) ∧ w = w' := by
  subst hr
  go_enter Try.func86, Try.ntmps86
  go_wp2
  all_goals
    go_ret
    refine ⟨ret_bool ?_, rfl⟩
    first | exact decide_eq_decide.2 (by omega) | exact (decide_eq_true (by omega)).symm | exact (decide_eq_false (by omega)).symm

set_option maxHeartbeats 400000 in
theorem on_any (ax ay bx by_ px py : Int) (w : World) (h1 : Co ax) (h2 : Co ay) (h3 : Co bx) (h4 : Co by_) (h5 : Co px) (h6 : Co py) (r : Bool) (hr : onL ax ay bx by_ px py = r) :
    Calls Try.prog 35 #[.agg #[.int .i64 ax, .int .i64 ay], .agg #[.int .i64 bx, .int .i64 by_], .agg #[.int .i64 px, .int .i64 py]] w fun e w' => e = .returned (.bool r) ∧ Gr w w' := by
  subst hr
  obtain ⟨s, hs⟩ : ∃ s, sgn (crs ax ay bx by_ px py) = s := ⟨_, rfl⟩
  have HS := Lib.hid hs
  clear hs
  by_cases h0 : s = 0
  · subst h0
    go_enter Try.func35, Try.ntmps35
    go_wp2_with fail
    generalize hW : World.alloc (World.alloc (World.alloc w _) _) _ = W
    obtain ⟨hwW, k1, k2, k3, k4, k5, k6⟩ := boxes3 hW
    clear hW
    refine (rTurn_is _ _ _ _ _ _ _ _ HS.out h1 h2 h3 h4 h5 h6).mono ?_
    rintro e w1 ⟨rfl, hb⟩
    have l1 := hb.keep k1
    have l2 := hb.keep k2
    have l3 := hb.keep k3
    have l4 := hb.keep k4
    have l5 := hb.keep k5
    have l6 := hb.keep k6
    go_wp2_with fail
    all_goals
      go_ret
      refine ⟨ret_bool ?_, by (repeat (first | exact Gr.refl _ | assumption | (refine Gr.drew ?_) | (refine Gr.drewN ?_ _) | (refine Gr.alloc ?_ _) | (refine Gr.trans ?_ (by assumption))))⟩
      have hs := HS.out
      first | exact decide_eq_decide.2 (by omega) | exact (decide_eq_true (by omega)).symm | exact (decide_eq_false (by omega)).symm
  · have h0' : (s == 0) = false := by simpa using h0
    go_enter Try.func35, Try.ntmps35
    go_wp2_with fail
    refine (rTurn_is _ _ _ _ _ _ _ _ HS.out h1 h2 h3 h4 h5 h6).mono ?_
    rintro e w1 ⟨rfl, hb⟩
    go_wp2_with fail
    all_goals
      go_ret
      refine ⟨ret_bool ?_, by (repeat (first | exact Gr.refl _ | assumption | (refine Gr.drew ?_) | (refine Gr.drewN ?_ _) | (refine Gr.alloc ?_ _) | (refine Gr.trans ?_ (by assumption))))⟩
      have hs := HS.out
      exact (decide_eq_false (by omega)).symm

set_option maxRecDepth 100000 in
set_option maxHeartbeats 1000000 in
theorem meet_one (ax ay bx by_ cx cy dx dy : Int) (w : World) (h1 : Co ax) (h2 : Co ay) (h3 : Co bx) (h4 : Co by_) (h5 : Co cx) (h6 : Co cy) (h7 : Co dx) (h8 : Co dy)
    (b1 : -1 ≤ sgn (crs ax ay bx by_ cx cy) * sgn (crs ax ay bx by_ dx dy) ∧ sgn (crs ax ay bx by_ cx cy) * sgn (crs ax ay bx by_ dx dy) ≤ 1)
    (b2 : -1 ≤ sgn (crs cx cy dx dy ax ay) * sgn (crs cx cy dx dy bx by_) ∧ sgn (crs cx cy dx dy ax ay) * sgn (crs cx cy dx dy bx by_) ≤ 1) (h12 : sgn (crs ax ay bx by_ cx cy) * sgn (crs ax ay bx by_ dx dy) < 0) (h34 : sgn (crs cx cy dx dy ax ay) * sgn (crs cx cy dx dy bx by_) < 0) :
    Calls Try.prog 36 #[.agg #[.int .i64 ax, .int .i64 ay], .agg #[.int .i64 bx, .int .i64 by_], .agg #[.int .i64 cx, .int .i64 cy], .agg #[.int .i64 dx, .int .i64 dy]] w fun e w' => e = .returned (.bool true) ∧ Gr w w' := by
  go_enter Try.func36, Try.ntmps36
  go_wp2_with fail
  generalize hW : World.alloc (World.alloc (World.alloc (World.alloc w _) _) _) _ = W
  obtain ⟨hwW, k1, k2, k3, k4, k5, k6, k7, k8⟩ := boxes4 hW
  clear hW
  have e1 : IntKind.i64.wrap (sgn (crs ax ay bx by_ cx cy) * sgn (crs ax ay bx by_ dx dy)) = sgn (crs ax ay bx by_ cx cy) * sgn (crs ax ay bx by_ dx dy) := IntWalk.i64_in _ (by omega)
  have e2 : IntKind.i64.wrap (sgn (crs cx cy dx dy ax ay) * sgn (crs cx cy dx dy bx by_)) = sgn (crs cx cy dx dy ax ay) * sgn (crs cx cy dx dy bx by_) := IntWalk.i64_in _ (by omega)
  go_region_held3 (fun w' => Gr w w' ∧ w'.cell? ⟨w.heap.size, 0, none⟩ = some (.int .i64 ax) ∧ w'.cell? ⟨w.heap.size, 1, none⟩ = some (.int .i64 ay) ∧ w'.cell? ⟨w.heap.size + 1, 0, none⟩ = some (.int .i64 bx) ∧ w'.cell? ⟨w.heap.size + 1, 1, none⟩ = some (.int .i64 by_) ∧ w'.cell? ⟨w.heap.size + 1 + 1, 0, none⟩ = some (.int .i64 cx) ∧ w'.cell? ⟨w.heap.size + 1 + 1, 1, none⟩ = some (.int .i64 cy) ∧ w'.cell? ⟨w.heap.size + 1 + 1 + 1, 0, none⟩ = some (.int .i64 dx) ∧ w'.cell? ⟨w.heap.size + 1 + 1 + 1, 1, none⟩ = some (.int .i64 dy))  (first | (refine ⟨Gr.drew ?_, ?_⟩; (assumption); go_keep) | (go_split_ands; refine ⟨Gr.trans ?_ (by assumption), ?_⟩; (assumption); (repeat' apply And.intro) <;> (refine Gr.keep (by assumption) ?_; assumption)))  (first | (go_at_call 34; refine (rTurn_any _ _ _ _ _ _ _ (by assumption) (by assumption) (by assumption) (by assumption) (by assumption) (by assumption)).mono ?_; rintro e w1 ⟨rfl, hb⟩))
  rename_i hHeld
  obtain ⟨hB, l1, l2, l3, l4, l5, l6, l7, l8⟩ := hHeld
  clear k1 k2 k3 k4 k5 k6 k7 k8 e1 e2
  go_wp2_with fail
  go_ret
  exact ⟨rfl, hB⟩

set_option maxRecDepth 100000 in
set_option maxHeartbeats 2000000 in
theorem meet_two (ax ay bx by_ cx cy dx dy : Int) (w : World) (h1 : Co ax) (h2 : Co ay) (h3 : Co bx) (h4 : Co by_) (h5 : Co cx) (h6 : Co cy) (h7 : Co dx) (h8 : Co dy)
    (b1 : -1 ≤ sgn (crs ax ay bx by_ cx cy) * sgn (crs ax ay bx by_ dx dy) ∧ sgn (crs ax ay bx by_ cx cy) * sgn (crs ax ay bx by_ dx dy) ≤ 1)
    (b2 : -1 ≤ sgn (crs cx cy dx dy ax ay) * sgn (crs cx cy dx dy bx by_) ∧ sgn (crs cx cy dx dy ax ay) * sgn (crs cx cy dx dy bx by_) ≤ 1) (h12 : sgn (crs ax ay bx by_ cx cy) * sgn (crs ax ay bx by_ dx dy) < 0) (h34 : 0 ≤ sgn (crs cx cy dx dy ax ay) * sgn (crs cx cy dx dy bx by_))
    (o1 o2 o3 o4 : Bool) (q1 : Hid (onL ax ay bx by_ cx cy = o1)) (q2 : Hid (onL ax ay bx by_ dx dy = o2)) (q3 : Hid (onL cx cy dx dy ax ay = o3)) (q4 : Hid (onL cx cy dx dy bx by_ = o4)) :
    Calls Try.prog 36 #[.agg #[.int .i64 ax, .int .i64 ay], .agg #[.int .i64 bx, .int .i64 by_], .agg #[.int .i64 cx, .int .i64 cy], .agg #[.int .i64 dx, .int .i64 dy]] w fun e w' => e = .returned (.bool (o1 || (o2 || (o3 || o4)))) ∧ Gr w w' := by
  have hd : decide (sgn (crs cx cy dx dy ax ay) * sgn (crs cx cy dx dy bx by_) < 0) = false := decide_eq_false (by omega)
  go_enter Try.func36, Try.ntmps36
  go_wp2_with fail
  generalize hW : World.alloc (World.alloc (World.alloc (World.alloc w _) _) _) _ = W
  obtain ⟨hwW, k1, k2, k3, k4, k5, k6, k7, k8⟩ := boxes4 hW
  clear hW
  have e1 : IntKind.i64.wrap (sgn (crs ax ay bx by_ cx cy) * sgn (crs ax ay bx by_ dx dy)) = sgn (crs ax ay bx by_ cx cy) * sgn (crs ax ay bx by_ dx dy) := IntWalk.i64_in _ (by omega)
  have e2 : IntKind.i64.wrap (sgn (crs cx cy dx dy ax ay) * sgn (crs cx cy dx dy bx by_)) = sgn (crs cx cy dx dy ax ay) * sgn (crs cx cy dx dy bx by_) := IntWalk.i64_in _ (by omega)
  go_region_held3 (fun w' => Gr w w' ∧ w'.cell? ⟨w.heap.size, 0, none⟩ = some (.int .i64 ax) ∧ w'.cell? ⟨w.heap.size, 1, none⟩ = some (.int .i64 ay) ∧ w'.cell? ⟨w.heap.size + 1, 0, none⟩ = some (.int .i64 bx) ∧ w'.cell? ⟨w.heap.size + 1, 1, none⟩ = some (.int .i64 by_) ∧ w'.cell? ⟨w.heap.size + 1 + 1, 0, none⟩ = some (.int .i64 cx) ∧ w'.cell? ⟨w.heap.size + 1 + 1, 1, none⟩ = some (.int .i64 cy) ∧ w'.cell? ⟨w.heap.size + 1 + 1 + 1, 0, none⟩ = some (.int .i64 dx) ∧ w'.cell? ⟨w.heap.size + 1 + 1 + 1, 1, none⟩ = some (.int .i64 dy))  (first | (refine ⟨Gr.drew ?_, ?_⟩; (assumption); go_keep) | (go_split_ands; refine ⟨Gr.trans ?_ (by assumption), ?_⟩; (assumption); (repeat' apply And.intro) <;> (refine Gr.keep (by assumption) ?_; assumption)))  (first | (go_at_call 34; refine (rTurn_any _ _ _ _ _ _ _ (by assumption) (by assumption) (by assumption) (by assumption) (by assumption) (by assumption)).mono ?_; rintro e w1 ⟨rfl, hb⟩))
  rename_i hHeld
  obtain ⟨hB, l1, l2, l3, l4, l5, l6, l7, l8⟩ := hHeld
  clear k1 k2 k3 k4 k5 k6 k7 k8 e1 e2
  rcases o1 with _ | _
  case true =>
    go_wp2_with fail
    refine (on_any _ _ _ _ _ _ _ h1 h2 h3 h4 h5 h6 _ q1.out).mono ?_
    rintro e w2 ⟨rfl, hc⟩
    replace hB := hB.trans hc
    replace l1 := hc.keep l1
    replace l2 := hc.keep l2
    replace l3 := hc.keep l3
    replace l4 := hc.keep l4
    replace l5 := hc.keep l5
    replace l6 := hc.keep l6
    replace l7 := hc.keep l7
    replace l8 := hc.keep l8
    clear hc

    go_wp2_with fail
    go_ret
    exact ⟨rfl, hB⟩
  rcases o2 with _ | _
  case true =>
    go_wp2_with fail
    refine (on_any _ _ _ _ _ _ _ h1 h2 h3 h4 h5 h6 _ q1.out).mono ?_
    rintro e w2 ⟨rfl, hc⟩
    replace hB := hB.trans hc
    replace l1 := hc.keep l1
    replace l2 := hc.keep l2
    replace l3 := hc.keep l3
    replace l4 := hc.keep l4
    replace l5 := hc.keep l5
    replace l6 := hc.keep l6
    replace l7 := hc.keep l7
    replace l8 := hc.keep l8
    clear hc

    go_wp2_with fail
    refine (on_any _ _ _ _ _ _ _ h1 h2 h3 h4 h7 h8 _ q2.out).mono ?_
    rintro e w2 ⟨rfl, hc⟩
    replace hB := hB.trans hc
    replace l1 := hc.keep l1
    replace l2 := hc.keep l2
    replace l3 := hc.keep l3
    replace l4 := hc.keep l4
    replace l5 := hc.keep l5
    replace l6 := hc.keep l6
    replace l7 := hc.keep l7
    replace l8 := hc.keep l8
    clear hc

    go_wp2_with fail
    go_ret
    exact ⟨rfl, hB⟩
  rcases o3 with _ | _
  case true =>
    go_wp2_with fail
    refine (on_any _ _ _ _ _ _ _ h1 h2 h3 h4 h5 h6 _ q1.out).mono ?_
    rintro e w2 ⟨rfl, hc⟩
    replace hB := hB.trans hc
    replace l1 := hc.keep l1
    replace l2 := hc.keep l2
    replace l3 := hc.keep l3
    replace l4 := hc.keep l4
    replace l5 := hc.keep l5
    replace l6 := hc.keep l6
    replace l7 := hc.keep l7
    replace l8 := hc.keep l8
    clear hc

    go_wp2_with fail
    refine (on_any _ _ _ _ _ _ _ h1 h2 h3 h4 h7 h8 _ q2.out).mono ?_
    rintro e w2 ⟨rfl, hc⟩
    replace hB := hB.trans hc
    replace l1 := hc.keep l1
    replace l2 := hc.keep l2
    replace l3 := hc.keep l3
    replace l4 := hc.keep l4
    replace l5 := hc.keep l5
    replace l6 := hc.keep l6
    replace l7 := hc.keep l7
    replace l8 := hc.keep l8
    clear hc

    go_wp2_with fail
    refine (on_any _ _ _ _ _ _ _ h5 h6 h7 h8 h1 h2 _ q3.out).mono ?_
    rintro e w2 ⟨rfl, hc⟩
    replace hB := hB.trans hc
    replace l1 := hc.keep l1
    replace l2 := hc.keep l2
    replace l3 := hc.keep l3
    replace l4 := hc.keep l4
    replace l5 := hc.keep l5
    replace l6 := hc.keep l6
    replace l7 := hc.keep l7
    replace l8 := hc.keep l8
    clear hc

    go_wp2_with fail
    go_ret
    exact ⟨rfl, hB⟩
  case false =>
    go_wp2_with fail
    refine (on_any _ _ _ _ _ _ _ h1 h2 h3 h4 h5 h6 _ q1.out).mono ?_
    rintro e w2 ⟨rfl, hc⟩
    replace hB := hB.trans hc
    replace l1 := hc.keep l1
    replace l2 := hc.keep l2
    replace l3 := hc.keep l3
    replace l4 := hc.keep l4
    replace l5 := hc.keep l5
    replace l6 := hc.keep l6
    replace l7 := hc.keep l7
    replace l8 := hc.keep l8
    clear hc

    go_wp2_with fail
    refine (on_any _ _ _ _ _ _ _ h1 h2 h3 h4 h7 h8 _ q2.out).mono ?_
    rintro e w2 ⟨rfl, hc⟩
    replace hB := hB.trans hc
    replace l1 := hc.keep l1
    replace l2 := hc.keep l2
    replace l3 := hc.keep l3
    replace l4 := hc.keep l4
    replace l5 := hc.keep l5
    replace l6 := hc.keep l6
    replace l7 := hc.keep l7
    replace l8 := hc.keep l8
    clear hc

    go_wp2_with fail
    refine (on_any _ _ _ _ _ _ _ h5 h6 h7 h8 h1 h2 _ q3.out).mono ?_
    rintro e w2 ⟨rfl, hc⟩
    replace hB := hB.trans hc
    replace l1 := hc.keep l1
    replace l2 := hc.keep l2
    replace l3 := hc.keep l3
    replace l4 := hc.keep l4
    replace l5 := hc.keep l5
    replace l6 := hc.keep l6
    replace l7 := hc.keep l7
    replace l8 := hc.keep l8
    clear hc

    go_wp2_with fail
    refine (on_any _ _ _ _ _ _ _ h5 h6 h7 h8 h3 h4 _ q4.out).mono ?_
    rintro e w2 ⟨rfl, hc⟩
    replace hB := hB.trans hc
    replace l1 := hc.keep l1
    replace l2 := hc.keep l2
    replace l3 := hc.keep l3
    replace l4 := hc.keep l4
    replace l5 := hc.keep l5
    replace l6 := hc.keep l6
    replace l7 := hc.keep l7
    replace l8 := hc.keep l8
    clear hc

    go_wp2_with fail
    go_ret
    exact ⟨rfl, hB⟩

end Go.Proofs.Ytjkdjfagaakijaa
