/- Layer 2: the laws' remainder. -/
import Derived.Test.YtcojionipffanabCTame
namespace Go.Proofs.Ytcojionipffanab
open Go.RowKit
set_option linter.unusedSimpArgs false

/-- the laws' remainder of any number by a positive one -/
def modL (x n : Int) : Int := wrap64 ((IntKind.u64.wrap x).tmod n)

theorem modL_le {x n : Int} (h1 : 0 < n) (h2 : n ≤ 9223372036854775807) : 0 ≤ modL x n ∧ modL x n < n := by
  have hx : 0 ≤ IntKind.u64.wrap x := by
    simp only [IntKind.wrap, IntKind.signed]
    first | (exact Int.emod_nonneg _ (by decide)) | omega
  have e : (IntKind.u64.wrap x).tmod n = (IntKind.u64.wrap x) % n := Int.tmod_eq_emod_of_nonneg hx
  have a := Int.emod_nonneg (IntKind.u64.wrap x) (by omega : n ≠ 0)
  have b := Int.emod_lt_of_pos (IntKind.u64.wrap x) h1
  unfold modL
  rw [e, show wrap64 (IntKind.u64.wrap x % n) = IntKind.u64.wrap x % n from IntWalk.wrap64_in _ (by omega)]
  exact ⟨a, b⟩

set_option maxRecDepth 100000 in
theorem mod_any (x n : Int) (w : World) (h1 : 0 < n) (h2 : n ≤ 9223372036854775807) :
    Calls Try.prog 25 #[.int .i64 x, .int .i64 n] w fun e w' => e = .returned (.int .i64 (modL x n)) ∧ w' = w := by
  have e0 : IntKind.u64.wrap n = n := by
    simp only [IntKind.wrap, IntKind.signed]
    first | (exact Int.emod_eq_of_lt (by omega) (by simp [IntKind.bits]; omega)) | omega
  have e1 : (n == 0) = false := by simp; omega
  go_enter Try.func25, Try.ntmps25
  go_wp2_with fail
  go_ret
  exact ⟨rfl, rfl⟩

end Go.Proofs.Ytcojionipffanab
