/-
  No cell of these rows narrows 'for every input' (looked for: loops, veiled, ifaces, maps, wideKeys, modest, calm, conditions, laid).
  DERIVED. THE GIVEN ROWS OF THIS SEAT. 3 by the template 'for every input the law returns true; each argument reads behind the call as it read before'; 0 by the template 'total and deterministic' (their statements: YtfmojiaaoebodaaTotals.lean).
  GIVEN WITH THE SEED: the statements are not yours to turn. If you find one false, say at which input.
  Laid BY PROGRAM, IN A SANDBOX (cutbox-rows.mjs): the forced cells as the released guide's own fill.sh prints them over the translation e73bccf90af976c5… (all of the seat's roots in one cut). By AI agents, Wed Nov 11 2026. No macro, syntax, notation, axiom, sorry.
-/
import Derived.Test.YtfmojiaaoebodaaChecked
import GoSem.Claim
import GoSem.ClaimJoined
import GoSem.ClaimMapViews
import Derived.JoinedTies
import Derived.KernelRfl
namespace Go.Proofs.Ytfmojiaaoebodaa
/- THE CELL 'sum', in the pinned program and in every row, IS THE sha256 OF THE DUMP (.gsa) THAT YtfmojiaaoebodaaProg.lean LOADS. Nothing in Lean hashes anything: it is a label: what it is worth is what the hold of that sum in a sandbox is worth. -/
noncomputable def Try.pinned : Pinned := { name := "ytfmojiaaoebodaa", sum := "e73bccf90af976c509fcdc84e0b5284f8a1d604dff1636ccb9f0d452a8fd2f56", checked := Try.checked }
namespace Rows
def none {H : Type} : Left H := { results := [], args := [] }

/-- 'silversidelaw04.BenchPlans': WHATEVER THE INPUT: true; the input reads as it did. -/
def benchPlansSpec : ChangeSpec := { name := "benchPlans", fn := fun _ => fun
  | [d1, d2] => { results := [.lit (.bool true)], args := [d1, d2] }
  | _ => none }
def benchPlansRow : OpenClaim := { program := "ytfmojiaaoebodaa", sum := "e73bccf90af976c509fcdc84e0b5284f8a1d604dff1636ccb9f0d452a8fd2f56", func := "silverside/silversidelaw04.BenchPlans", spec := "benchPlans", unfollowed := true, recurses := true, plainKeys := false, apart := false }
def BenchPlansSaid : Prop := benchPlansRow.holds Try.pinned (OpenSpec.ofChange benchPlansSpec)

/-- ITS FALSE NEIGHBOUR: 'it returns false'. Refute it at one input. -/
def benchPlansWrong : ChangeSpec := { name := "benchPlans", fn := fun _ => fun
  | [d1, d2] => { results := [.lit (.bool false)], args := [d1, d2] }
  | _ => none }
def BenchPlansWrongFalsely : Prop := benchPlansRow.holds Try.pinned (OpenSpec.ofChange benchPlansWrong)

/-- 'silversidelaw04.BenchFewest': WHATEVER THE INPUT: true; the input reads as it did. -/
def benchFewestSpec : ChangeSpec := { name := "benchFewest", fn := fun _ => fun
  | [d] => { results := [.lit (.bool true)], args := [d] }
  | _ => none }
def benchFewestRow : OpenClaim := { program := "ytfmojiaaoebodaa", sum := "e73bccf90af976c509fcdc84e0b5284f8a1d604dff1636ccb9f0d452a8fd2f56", func := "silverside/silversidelaw04.BenchFewest", spec := "benchFewest", unfollowed := true, recurses := true, plainKeys := false, apart := false }
def BenchFewestSaid : Prop := benchFewestRow.holds Try.pinned (OpenSpec.ofChange benchFewestSpec)

/-- ITS FALSE NEIGHBOUR: 'it returns false'. Refute it at one input. -/
def benchFewestWrong : ChangeSpec := { name := "benchFewest", fn := fun _ => fun
  | [d] => { results := [.lit (.bool false)], args := [d] }
  | _ => none }
def BenchFewestWrongFalsely : Prop := benchFewestRow.holds Try.pinned (OpenSpec.ofChange benchFewestWrong)

/-- 'silversidelaw04.BenchLatest': WHATEVER THE INPUT: true; the input reads as it did. -/
def benchLatestSpec : ChangeSpec := { name := "benchLatest", fn := fun _ => fun
  | [d1, d2] => { results := [.lit (.bool true)], args := [d1, d2] }
  | _ => none }
def benchLatestRow : OpenClaim := { program := "ytfmojiaaoebodaa", sum := "e73bccf90af976c509fcdc84e0b5284f8a1d604dff1636ccb9f0d452a8fd2f56", func := "silverside/silversidelaw04.BenchLatest", spec := "benchLatest", unfollowed := true, recurses := true, plainKeys := false, apart := false }
def BenchLatestSaid : Prop := benchLatestRow.holds Try.pinned (OpenSpec.ofChange benchLatestSpec)

/-- ITS FALSE NEIGHBOUR: 'it returns false'. Refute it at one input. -/
def benchLatestWrong : ChangeSpec := { name := "benchLatest", fn := fun _ => fun
  | [d1, d2] => { results := [.lit (.bool false)], args := [d1, d2] }
  | _ => none }
def BenchLatestWrongFalsely : Prop := benchLatestRow.holds Try.pinned (OpenSpec.ofChange benchLatestWrong)

/- THE SECOND FORM. 'bulk': how many values and letters a reading holds, each counted each time it is reached (what is shared counts as often as it is met; a slice's spare places count too). A statement '..UptoSaid' is the law's where the arguments, and the package variables that the reading takes, are together of bulk at most 1048576: NARROWER than '..Said'. Prove '..Said' where nothing that the law and all that it calls make is longer than what came in: it says more and counts as full. Else prove '..UptoSaid'. A law counts once. -/
mutual
def uptoBulk {H : Type} : DataW H → Nat
  | .lit (.string bytes) => bytes.length + 1
  | .lit _ => 1
  | .nil => 1
  | .ptr d => uptoBulk d + 1
  | .slice elems spare => uptoBulkAll elems + uptoBulkAll spare + 1
  | .agg parts => uptoBulkAll parts + 1
  | .iface _ d => uptoBulk d + 1
  | .map entries => uptoBulkEntries entries + 1
  | .held _ => 1
def uptoBulkAll {H : Type} : List (DataW H) → Nat
  | [] => 0
  | d :: r => uptoBulk d + uptoBulkAll r
def uptoBulkEntries {H : Type} : List (Lit × DataW H) → Nat
  | [] => 0
  | x :: r => uptoBulkEntry x + uptoBulkEntries r
def uptoBulkEntry {H : Type} : Lit × DataW H → Nat
  | (.string bytes, d) => bytes.length + uptoBulk d + 1
  | (_, d) => uptoBulk d + 1
 end
def uptoSmall : (H : Type) → List (DataW H) → Bool := fun _ ds => decide (uptoBulkAll ds ≤ 1048576)
def OpenSpec.upto (s : _root_.Go.ChangeSpec) : _root_.Go.OpenSpec := { _root_.Go.OpenSpec.ofChange s with cond := some uptoSmall }

/-- 'silversidelaw04.BenchPlans', WHERE WHAT IT READS IS OF BULK AT MOST 1048576: true; the input reads as it did. -/
def benchPlansUptoRow : OpenClaim := { program := "ytfmojiaaoebodaa", sum := "e73bccf90af976c509fcdc84e0b5284f8a1d604dff1636ccb9f0d452a8fd2f56", func := "silverside/silversidelaw04.BenchPlans", spec := "benchPlans", unfollowed := true, recurses := true, plainKeys := false, apart := false, narrowed := true }
def BenchPlansUptoSaid : Prop := benchPlansUptoRow.holds Try.pinned (OpenSpec.upto benchPlansSpec)

/-- 'silversidelaw04.BenchFewest', WHERE WHAT IT READS IS OF BULK AT MOST 1048576: true; the input reads as it did. -/
def benchFewestUptoRow : OpenClaim := { program := "ytfmojiaaoebodaa", sum := "e73bccf90af976c509fcdc84e0b5284f8a1d604dff1636ccb9f0d452a8fd2f56", func := "silverside/silversidelaw04.BenchFewest", spec := "benchFewest", unfollowed := true, recurses := true, plainKeys := false, apart := false, narrowed := true }
def BenchFewestUptoSaid : Prop := benchFewestUptoRow.holds Try.pinned (OpenSpec.upto benchFewestSpec)

/-- 'silversidelaw04.BenchLatest', WHERE WHAT IT READS IS OF BULK AT MOST 1048576: true; the input reads as it did. -/
def benchLatestUptoRow : OpenClaim := { program := "ytfmojiaaoebodaa", sum := "e73bccf90af976c509fcdc84e0b5284f8a1d604dff1636ccb9f0d452a8fd2f56", func := "silverside/silversidelaw04.BenchLatest", spec := "benchLatest", unfollowed := true, recurses := true, plainKeys := false, apart := false, narrowed := true }
def BenchLatestUptoSaid : Prop := benchLatestUptoRow.holds Try.pinned (OpenSpec.upto benchLatestSpec)

end Rows
end Go.Proofs.Ytfmojiaaoebodaa
