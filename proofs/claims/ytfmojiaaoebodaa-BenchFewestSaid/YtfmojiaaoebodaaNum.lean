/- Contracts of the functions on single points and numbers.
Contracts of the functions on segments. -/
import Derived.Test.YtfmojiaaoebodaaBase
import Derived.Test.YtfmojiaaoebodaaMath
import Derived.WalkKit
import Derived.WalkSpells
import Derived.WalkLawsBesides
import Derived.BigQuiet
import Derived.Deep.QuietTactic
import Derived.Lib.Hide
import Derived.Deep.RegionHeld3
namespace Go.Proofs.Ytfmojiaaoebodaa
open Go.RowKit

set_option maxHeartbeats 400000 in
theorem isNaN_any (x : Int) (w : World) : Calls Try.prog 66 #[.int .i64 x] w fun e w' => e = .returned (.bool false) ∧ w = w' := by
  go_enter Try.func66, Try.ntmps66
  go_wp2
  go_ret
  exact ⟨ret_bool (by simp), rfl⟩

set_option maxHeartbeats 400000 in
theorem cmp_any (x y : Int) (w : World) : Calls Try.prog 51 #[.int .i64 x, .int .i64 y] w fun e w' => e = .returned (.int .i64 (sgn (x - y))) ∧ w = w' := by
  rcases Int.lt_trichotomy x y with h | h | h
  all_goals
    go_enter Try.func51, Try.ntmps51
    go_wp2_with fail
    refine (isNaN_any _ _).mono ?_
    rintro e w' ⟨rfl, rfl⟩
    go_wp2_with fail
    refine (isNaN_any _ _).mono ?_
    rintro e w' ⟨rfl, rfl⟩
    go_wp2_with fail
    go_ret
    exact ⟨ret_int (by unfold sgn; simp; omega), rfl⟩

theorem cmp_zero (x : Int) (w : World) : Calls Try.prog 51 #[.int .i64 x, .int .i64 0] w fun e w' => e = .returned (.int .i64 (sgn x)) ∧ w = w' := by
  have h := cmp_any x 0 w
  rw [Int.sub_zero] at h
  exact h

end Go.Proofs.Ytfmojiaaoebodaa

namespace Go.Proofs.Ytfmojiaaoebodaa
open Go.RowKit

theorem boxes2 {w W : World} {t u : TypeId} {ax ay bx by_ : Value} (hW : (w.alloc (.cells #[ax, ay] t)).alloc (.cells #[bx, by_] u) = W) :
    Gr w W ∧ (W.cell? ⟨w.heap.size, 0, none⟩ = some ax ∧ W.cell? ⟨w.heap.size, 1, none⟩ = some ay ∧ W.cell? ⟨w.heap.size + 1, 0, none⟩ = some bx ∧ W.cell? ⟨w.heap.size + 1, 1, none⟩ = some by_) := by
  subst hW
  exact ⟨by (repeat (first | exact Gr.refl _ | assumption | (refine Gr.drew ?_) | (refine Gr.drewN ?_ _) | (refine Gr.alloc ?_ _) | (refine Gr.trans ?_ (by assumption)))), alloc_old (alloc_new rfl rfl), alloc_old (alloc_new rfl rfl), alloc_new (by simp) rfl, alloc_new (by simp) rfl⟩
theorem boxes3 {w W : World} {t : TypeId} {ax ay bx by_ cx cy : Value} (hW : ((w.alloc (.cells #[ax, ay] t)).alloc (.cells #[bx, by_] t)).alloc (.cells #[cx, cy] t) = W) :
    Gr w W ∧ (W.cell? ⟨w.heap.size, 0, none⟩ = some ax ∧ W.cell? ⟨w.heap.size, 1, none⟩ = some ay ∧ W.cell? ⟨w.heap.size + 1, 0, none⟩ = some bx ∧ W.cell? ⟨w.heap.size + 1, 1, none⟩ = some by_ ∧
      W.cell? ⟨w.heap.size + 1 + 1, 0, none⟩ = some cx ∧ W.cell? ⟨w.heap.size + 1 + 1, 1, none⟩ = some cy) := by
  subst hW
  exact ⟨by (repeat (first | exact Gr.refl _ | assumption | (refine Gr.drew ?_) | (refine Gr.drewN ?_ _) | (refine Gr.alloc ?_ _) | (refine Gr.trans ?_ (by assumption)))), alloc_old (alloc_old (alloc_new rfl rfl)), alloc_old (alloc_old (alloc_new rfl rfl)), alloc_old (alloc_new (by simp) rfl), alloc_old (alloc_new (by simp) rfl), alloc_new (by simp) rfl, alloc_new (by simp) rfl⟩
/-- Two edges in boxes. -/
theorem boxesE {w W : World} {t u : TypeId} {a0 a1 a2 a3 b0 b1 b2 b3 : Value} (hW : (w.alloc (.cells #[a0, a1, a2, a3] t)).alloc (.cells #[b0, b1, b2, b3] u) = W) :
    Gr w W ∧ (W.cell? ⟨w.heap.size, 0, none⟩ = some a0 ∧ W.cell? ⟨w.heap.size, 1, none⟩ = some a1 ∧ W.cell? ⟨w.heap.size, 2, none⟩ = some a2 ∧ W.cell? ⟨w.heap.size, 3, none⟩ = some a3 ∧
      W.cell? ⟨w.heap.size + 1, 0, none⟩ = some b0 ∧ W.cell? ⟨w.heap.size + 1, 1, none⟩ = some b1 ∧ W.cell? ⟨w.heap.size + 1, 2, none⟩ = some b2 ∧ W.cell? ⟨w.heap.size + 1, 3, none⟩ = some b3) := by
  subst hW
  exact ⟨by (repeat (first | exact Gr.refl _ | assumption | (refine Gr.drew ?_) | (refine Gr.drewN ?_ _) | (refine Gr.alloc ?_ _) | (refine Gr.trans ?_ (by assumption)))), alloc_old (alloc_new rfl rfl), alloc_old (alloc_new rfl rfl), alloc_old (alloc_new rfl rfl), alloc_old (alloc_new rfl rfl), alloc_new (by simp) rfl, alloc_new (by simp) rfl, alloc_new (by simp) rfl, alloc_new (by simp) rfl⟩
theorem boxes4 {w W : World} {t : TypeId} {ax ay bx by_ cx cy dx dy : Value} (hW : (((w.alloc (.cells #[ax, ay] t)).alloc (.cells #[bx, by_] t)).alloc (.cells #[cx, cy] t)).alloc (.cells #[dx, dy] t) = W) :
    Gr w W ∧ (W.cell? ⟨w.heap.size, 0, none⟩ = some ax ∧ W.cell? ⟨w.heap.size, 1, none⟩ = some ay ∧ W.cell? ⟨w.heap.size + 1, 0, none⟩ = some bx ∧ W.cell? ⟨w.heap.size + 1, 1, none⟩ = some by_ ∧
      W.cell? ⟨w.heap.size + 1 + 1, 0, none⟩ = some cx ∧ W.cell? ⟨w.heap.size + 1 + 1, 1, none⟩ = some cy ∧ W.cell? ⟨w.heap.size + 1 + 1 + 1, 0, none⟩ = some dx ∧ W.cell? ⟨w.heap.size + 1 + 1 + 1, 1, none⟩ = some dy) := by
  subst hW
  exact ⟨by (repeat (first | exact Gr.refl _ | assumption | (refine Gr.drew ?_) | (refine Gr.drewN ?_ _) | (refine Gr.alloc ?_ _) | (refine Gr.trans ?_ (by assumption)))), alloc_old (alloc_old (alloc_old (alloc_new rfl rfl))), alloc_old (alloc_old (alloc_old (alloc_new rfl rfl))), alloc_old (alloc_old (alloc_new (by simp) rfl)), alloc_old (alloc_old (alloc_new (by simp) rfl)),
    alloc_old (alloc_new (by simp) rfl), alloc_old (alloc_new (by simp) rfl), alloc_new (by simp) rfl, alloc_new (by simp) rfl⟩

end Go.Proofs.Ytfmojiaaoebodaa
