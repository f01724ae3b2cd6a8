/- For any three points, the law silversidelaw01.PlaneTurns returns true, its arguments read behind the call as before it, and memory that was there and the outside world are as they were. No condition on the arguments. -/
import Derived.Test.YtfihmjobnffjfaaPlaneTurns
import Derived.Test.YtfihmjobnffjfaaSeat
namespace Go.Proofs.Ytfihmjobnffjfaa
open Go.RowKit Go.Joins Go.ChangeShapes Go.WideShapes Go.ChangeAt

set_option maxHeartbeats 40000000 in
theorem planeTurns_closed : joinedFacts Try.pinned.checked.prog 3 Try.f3 Rows.planeTurnsSpec Rows.planeTurnsRow = true := by
  unfold joinedFacts
  simp only [Bool.and_eq_true]
  repeat' apply And.intro
  all_goals first
    | (with_reducible exact may_enter)
    | (with_reducible refine no_lifts ?_; rfl)
    | (with_reducible refine make_cut ?_; rfl)
    | (as_aux_lemma => kernel_rfl)

theorem planeTurns : Rows.PlaneTurnsSaid :=
  OpenClaim.holds_of_wide 3 Try.f3 rfl rfl rfl rfl rfl rfl rfl ⟨rfl, rfl, rfl, rfl, rfl⟩ rfl rfl rfl rfl rfl (by kernel_rfl) Try.func3 planeTurns_closed
    (of_decide_eq_true (by kernel_rfl)) (by unfold Func.isWrapper; first | (rw [if_pos (by decide +kernel)]; kernel_rfl) | (rw [if_neg (by decide +kernel)]; exact ⟨rfl, rfl⟩))
    (fun os started H enc _ => planeTurns_lifted os started H enc)

end Go.Proofs.Ytfihmjobnffjfaa
