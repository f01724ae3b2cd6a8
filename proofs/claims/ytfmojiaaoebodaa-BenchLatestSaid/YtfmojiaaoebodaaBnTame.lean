/- Layer 4: the law's tame. -/
import Derived.Test.YtfmojiaaoebodaaBnLaw
import Derived.Deep.CutRange
import Derived.StillTailTactics
namespace Go.Proofs.Ytfmojiaaoebodaa
open Go.RowKit
set_option linter.unusedSimpArgs false

/-- the laws' remainder of any number by a positive one -/
def modL (x n : Int) : Int := wrap64 ((IntKind.u64.wrap x).tmod n)

theorem modL_le {x n : Int} (h1 : 0 < n) (h2 : n ≤ 9223372036854775807) : 0 ≤ modL x n ∧ modL x n < n := by
  have hx : 0 ≤ IntKind.u64.wrap x := by
    simp only [IntKind.wrap, IntKind.signed]
    first | (exact Int.emod_nonneg _ (by decide)) | omega
  have e : (IntKind.u64.wrap x).tmod n = (IntKind.u64.wrap x) % n := Int.tmod_eq_emod_of_nonneg hx
  have a := Int.emod_nonneg (IntKind.u64.wrap x) (by omega : n ≠ 0)
  have b := Int.emod_lt_of_pos (IntKind.u64.wrap x) h1
  unfold modL
  rw [e, show wrap64 (IntKind.u64.wrap x % n) = IntKind.u64.wrap x % n from IntWalk.wrap64_in _ (by omega)]
  exact ⟨a, b⟩

/-- A job made valid. -/
def tmJ (q : Jb) : Jb := if okJ q = true then q else (modL q.1 12, modL q.1 12 + 1 + modL q.2.1 9, 1 + modL q.2.2 6)
theorem tmJ_ok (q : Jb) : okJ (tmJ q) = true := by
  unfold tmJ
  split
  · assumption
  · have h1 := modL_le (x := q.1) (n := 12) (by omega) (by omega)
    have h2 := modL_le (x := q.2.1) (n := 9) (by omega) (by omega)
    have h3 := modL_le (x := q.2.2) (n := 6) (by omega) (by omega)
    unfold okJ
    exact decide_eq_true (by dsimp only; omega)
/-- A number of benches made valid. -/
def tmB (B : Int) : Int := if 1 ≤ B ∧ B ≤ 8 then B else 1 + modL B 8
theorem tmB_ok (B : Int) : 1 ≤ tmB B ∧ tmB B ≤ 8 := by
  unfold tmB
  have := modL_le (x := B) (n := 8) (by omega) (by omega)
  split <;> omega
/-- Jobs made valid. -/
def tmL4 (most : Nat) (l : List Jb) : List Jb := (l.take most).map tmJ
theorem tm_task {B : Int} {most : Nat} {l : List Jb} (h : most ≤ 32) : okT (tmB B) (tmL4 most l) = true := by
  unfold okT
  have := tmB_ok B
  rw [decide_eq_true this.1, decide_eq_true this.2, decide_eq_true (by unfold tmL4; rw [List.length_map, List.length_take]; omega)]
  simp only [Bool.true_and, List.all_eq_true]
  intro x hx
  obtain ⟨q, -, rfl⟩ := List.mem_map.1 hx
  exact tmJ_ok q

theorem ret_tm {a b : Int} {v : Value} (h : a = b) : Ending.returned (.tuple #[.int .i64 b, v]) = .returned (.tuple #[.int .i64 a, v]) := by rw [h]
end Go.Proofs.Ytfmojiaaoebodaa
