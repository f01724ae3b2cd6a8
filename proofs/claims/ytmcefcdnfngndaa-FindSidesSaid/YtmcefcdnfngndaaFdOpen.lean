/- Layer 7: arguments of the laws, opened. -/
import Derived.Test.YtmcefcdnfngndaaLift
import Derived.Carry
namespace Go.Proofs.Ytmcefcdnfngndaa
open Go.RowKit Go.Deep Go.Joins Go.ChangeShapes Go.WideShapes Go.ChangeAt

theorem int_bound {x : Int} (h : (Lit.int .i64 x).wf = true) : -9223372036854775808 ≤ x ∧ x ≤ 9223372036854775807 := by
  have h' : (decide ((-9223372036854775808 : Int) ≤ x) && decide (x ≤ 9223372036854775807)) = true := h
  rw [Bool.and_eq_true, decide_eq_true_eq, decide_eq_true_eq] at h'
  exact h'

end Go.Proofs.Ytmcefcdnfngndaa
