/- Maps whose keys are pairs of numbers. -/
import Derived.Test.YtfmojiaaoebodaaMapG
import Derived.Test.YtfmojiaaoebodaaLift
import Derived.WideKeyPair
namespace Go.Proofs.Ytfmojiaaoebodaa
open Go.RowKit
open Go.Maps (Keyed)

/-- A pair as a key, a number as an element. -/
def pairK (p : Int × Int) : Value := .agg #[.int .i64 p.1, .int .i64 p.2]
def intV (n : Int) : Value := .int .i64 n
theorem pairK_inj (a b : Int × Int) (h : pairK a = pairK b) : a = b := by
  unfold pairK at h
  injection h with h
  injection h with h
  injection h with h1 h
  injection h with h2 h
  injection h1 with _ h1
  injection h2 with _ h2
  exact Prod.ext h1 h2
theorem pair_arr : WideMaps.ArrKey Try.prog 67 3 2 := ⟨Try.underlying67, by kernel_rfl, by kernel_rfl, by kernel_rfl⟩
theorem pair_keyed : Keyed Try.prog 67 := Keyed.of_law pair_arr.law
theorem int_wf {a : Int} (h : -9223372036854775808 ≤ a ∧ a ≤ 9223372036854775807) : (Lit.int .i64 a).wf = true := by
  have e1 : IntKind.i64.min = -9223372036854775808 := by decide
  have e2 : IntKind.i64.max = 9223372036854775807 := by decide
  simp [Lit.wf, e1, e2]
  omega
theorem pair_key {p : Int × Int} (h1 : -9223372036854775808 ≤ p.1 ∧ p.1 ≤ 9223372036854775807) (h2 : -9223372036854775808 ≤ p.2 ∧ p.2 ≤ 9223372036854775807) : ∃ kl, keyOf Try.prog 67 (pairK p) = some kl :=
  ⟨_, WideMaps.keyOf_pair pair_arr Try.underlying3 ⟨Try.prog.types.size - 1, by kernel_rfl⟩ (int_wf h1) (int_wf h2)⟩

end Go.Proofs.Ytfmojiaaoebodaa
