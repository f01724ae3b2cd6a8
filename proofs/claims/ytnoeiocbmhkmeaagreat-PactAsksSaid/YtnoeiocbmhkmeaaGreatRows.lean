/-
  No cell of these rows narrows 'for every input' (looked for: loops, veiled, ifaces, maps, wideKeys, modest, calm, conditions, laid).
  DERIVED. THE GIVEN ROWS OF THIS SEAT. 5 by the template 'for every input the law returns true; each argument reads behind the call as it read before'; 0 by the template 'total and deterministic' (their statements: YtnoeiocbmhkmeaaGreatTotals.lean).
  GIVEN WITH THE SEED: the statements are not yours to turn. If you find one false, say at which input.
  Laid BY PROGRAM, IN A SANDBOX (cutbox-rows.mjs): the forced cells as the released guide's own fill.sh prints them over the translation 2832a5720e3012da… (all of the seat's roots in one cut). By AI agents, Wed Nov 11 2026. No macro, syntax, notation, axiom, sorry.
-/
import Derived.Test.YtnoeiocbmhkmeaaGreatChecked
import GoSem.Claim
import GoSem.ClaimJoined
import GoSem.ClaimMapViews
import Derived.JoinedTies
import Derived.KernelRfl
namespace Go.Proofs.YtnoeiocbmhkmeaaGreat
/- THE CELL 'sum', in the pinned program and in every row, IS THE sha256 OF THE DUMP (.gsa) THAT YtnoeiocbmhkmeaaGreatProg.lean LOADS. Nothing in Lean hashes anything: it is a label: what it is worth is what the hold of that sum in a sandbox is worth. -/
noncomputable def Tryz.pinned : Pinned := { name := "ytnoeiocbmhkmeaagreat", sum := "2832a5720e3012da85eb7dc45bb2c58d6e20cb3baca2278013fa9878a44873b4", checked := Tryz.checked }
namespace Rows
def none {H : Type} : Left H := { results := [], args := [] }

/-- 'silversidelaw05.PactRuns': WHATEVER THE INPUT: true; the input reads as it did. -/
def pactRunsSpec : ChangeSpec := { name := "pactRuns", fn := fun _ => fun
  | [d1, d2] => { results := [.lit (.bool true)], args := [d1, d2] }
  | _ => none }
def pactRunsRow : OpenClaim := { program := "ytnoeiocbmhkmeaagreat", sum := "2832a5720e3012da85eb7dc45bb2c58d6e20cb3baca2278013fa9878a44873b4", func := "silverside/silversidelaw05.PactRuns", spec := "pactRuns", unfollowed := true, recurses := true, apart := false }
def PactRunsSaid : Prop := pactRunsRow.holds Tryz.pinned (OpenSpec.ofChange pactRunsSpec)

/-- ITS FALSE NEIGHBOUR: 'it returns false'. Refute it at one input. -/
def pactRunsWrong : ChangeSpec := { name := "pactRuns", fn := fun _ => fun
  | [d1, d2] => { results := [.lit (.bool false)], args := [d1, d2] }
  | _ => none }
def PactRunsWrongFalsely : Prop := pactRunsRow.holds Tryz.pinned (OpenSpec.ofChange pactRunsWrong)

/-- 'silversidelaw05.PactLong': WHATEVER THE INPUT: true; the input reads as it did. -/
def pactLongSpec : ChangeSpec := { name := "pactLong", fn := fun _ => fun
  | [d1, d2] => { results := [.lit (.bool true)], args := [d1, d2] }
  | _ => none }
def pactLongRow : OpenClaim := { program := "ytnoeiocbmhkmeaagreat", sum := "2832a5720e3012da85eb7dc45bb2c58d6e20cb3baca2278013fa9878a44873b4", func := "silverside/silversidelaw05.PactLong", spec := "pactLong", unfollowed := true, recurses := true, apart := false }
def PactLongSaid : Prop := pactLongRow.holds Tryz.pinned (OpenSpec.ofChange pactLongSpec)

/-- ITS FALSE NEIGHBOUR: 'it returns false'. Refute it at one input. -/
def pactLongWrong : ChangeSpec := { name := "pactLong", fn := fun _ => fun
  | [d1, d2] => { results := [.lit (.bool false)], args := [d1, d2] }
  | _ => none }
def PactLongWrongFalsely : Prop := pactLongRow.holds Tryz.pinned (OpenSpec.ofChange pactLongWrong)

/-- 'silversidelaw05.PactAsks': WHATEVER THE INPUT: true; the input reads as it did. -/
def pactAsksSpec : ChangeSpec := { name := "pactAsks", fn := fun _ => fun
  | [d1, d2, d3] => { results := [.lit (.bool true)], args := [d1, d2, d3] }
  | _ => none }
def pactAsksRow : OpenClaim := { program := "ytnoeiocbmhkmeaagreat", sum := "2832a5720e3012da85eb7dc45bb2c58d6e20cb3baca2278013fa9878a44873b4", func := "silverside/silversidelaw05.PactAsks", spec := "pactAsks", unfollowed := true, recurses := true, apart := false }
def PactAsksSaid : Prop := pactAsksRow.holds Tryz.pinned (OpenSpec.ofChange pactAsksSpec)

/-- ITS FALSE NEIGHBOUR: 'it returns false'. Refute it at one input. -/
def pactAsksWrong : ChangeSpec := { name := "pactAsks", fn := fun _ => fun
  | [d1, d2, d3] => { results := [.lit (.bool false)], args := [d1, d2, d3] }
  | _ => none }
def PactAsksWrongFalsely : Prop := pactAsksRow.holds Tryz.pinned (OpenSpec.ofChange pactAsksWrong)

/-- 'silversidelaw05.PactClones': WHATEVER THE INPUT: true; the input reads as it did. -/
def pactClonesSpec : ChangeSpec := { name := "pactClones", fn := fun _ => fun
  | [d1, d2, d3] => { results := [.lit (.bool true)], args := [d1, d2, d3] }
  | _ => none }
def pactClonesRow : OpenClaim := { program := "ytnoeiocbmhkmeaagreat", sum := "2832a5720e3012da85eb7dc45bb2c58d6e20cb3baca2278013fa9878a44873b4", func := "silverside/silversidelaw05.PactClones", spec := "pactClones", inPlace := ["maps.clone"], unfollowed := true, recurses := true, apart := false }
def PactClonesSaid : Prop := pactClonesRow.holds Tryz.pinned (OpenSpec.ofChange pactClonesSpec)

/-- ITS FALSE NEIGHBOUR: 'it returns false'. Refute it at one input. -/
def pactClonesWrong : ChangeSpec := { name := "pactClones", fn := fun _ => fun
  | [d1, d2, d3] => { results := [.lit (.bool false)], args := [d1, d2, d3] }
  | _ => none }
def PactClonesWrongFalsely : Prop := pactClonesRow.holds Tryz.pinned (OpenSpec.ofChange pactClonesWrong)

/-- 'silversidelaw05.PactOwn': WHATEVER THE INPUT: true; the input reads as it did. -/
def pactOwnSpec : ChangeSpec := { name := "pactOwn", fn := fun _ => fun
  | [d1, d2] => { results := [.lit (.bool true)], args := [d1, d2] }
  | _ => none }
def pactOwnRow : OpenClaim := { program := "ytnoeiocbmhkmeaagreat", sum := "2832a5720e3012da85eb7dc45bb2c58d6e20cb3baca2278013fa9878a44873b4", func := "silverside/silversidelaw05.PactOwn", spec := "pactOwn", unfollowed := true, recurses := true, apart := false }
def PactOwnSaid : Prop := pactOwnRow.holds Tryz.pinned (OpenSpec.ofChange pactOwnSpec)

/-- ITS FALSE NEIGHBOUR: 'it returns false'. Refute it at one input. -/
def pactOwnWrong : ChangeSpec := { name := "pactOwn", fn := fun _ => fun
  | [d1, d2] => { results := [.lit (.bool false)], args := [d1, d2] }
  | _ => none }
def PactOwnWrongFalsely : Prop := pactOwnRow.holds Tryz.pinned (OpenSpec.ofChange pactOwnWrong)

/- THE SECOND FORM. 'bulk': how many values and letters a reading holds, each counted each time it is reached (what is shared counts as often as it is met; a slice's spare places count too). A statement '..UptoSaid' is the law's where the arguments, and the package variables that the reading takes, are together of bulk at most 1048576: NARROWER than '..Said'. Prove '..Said' where nothing that the law and all that it calls make is longer than what came in: it says more and counts as full. Else prove '..UptoSaid'. A law counts once. -/
mutual
def uptoBulk {H : Type} : DataW H → Nat
  | .lit (.string bytes) => bytes.length + 1
  | .lit _ => 1
  | .nil => 1
  | .ptr d => uptoBulk d + 1
  | .slice elems spare => uptoBulkAll elems + uptoBulkAll spare + 1
  | .agg parts => uptoBulkAll parts + 1
  | .iface _ d => uptoBulk d + 1
  | .map entries => uptoBulkEntries entries + 1
  | .held _ => 1
def uptoBulkAll {H : Type} : List (DataW H) → Nat
  | [] => 0
  | d :: r => uptoBulk d + uptoBulkAll r
def uptoBulkEntries {H : Type} : List (Lit × DataW H) → Nat
  | [] => 0
  | x :: r => uptoBulkEntry x + uptoBulkEntries r
def uptoBulkEntry {H : Type} : Lit × DataW H → Nat
  | (.string bytes, d) => bytes.length + uptoBulk d + 1
  | (_, d) => uptoBulk d + 1
 end
def uptoSmall : (H : Type) → List (DataW H) → Bool := fun _ ds => decide (uptoBulkAll ds ≤ 1048576)
def OpenSpec.upto (s : _root_.Go.ChangeSpec) : _root_.Go.OpenSpec := { _root_.Go.OpenSpec.ofChange s with cond := some uptoSmall }

/-- 'silversidelaw05.PactRuns', WHERE WHAT IT READS IS OF BULK AT MOST 1048576: true; the input reads as it did. -/
def pactRunsUptoRow : OpenClaim := { program := "ytnoeiocbmhkmeaagreat", sum := "2832a5720e3012da85eb7dc45bb2c58d6e20cb3baca2278013fa9878a44873b4", func := "silverside/silversidelaw05.PactRuns", spec := "pactRuns", unfollowed := true, recurses := true, apart := false, narrowed := true }
def PactRunsUptoSaid : Prop := pactRunsUptoRow.holds Tryz.pinned (OpenSpec.upto pactRunsSpec)

/-- 'silversidelaw05.PactLong', WHERE WHAT IT READS IS OF BULK AT MOST 1048576: true; the input reads as it did. -/
def pactLongUptoRow : OpenClaim := { program := "ytnoeiocbmhkmeaagreat", sum := "2832a5720e3012da85eb7dc45bb2c58d6e20cb3baca2278013fa9878a44873b4", func := "silverside/silversidelaw05.PactLong", spec := "pactLong", unfollowed := true, recurses := true, apart := false, narrowed := true }
def PactLongUptoSaid : Prop := pactLongUptoRow.holds Tryz.pinned (OpenSpec.upto pactLongSpec)

/-- 'silversidelaw05.PactAsks', WHERE WHAT IT READS IS OF BULK AT MOST 1048576: true; the input reads as it did. -/
def pactAsksUptoRow : OpenClaim := { program := "ytnoeiocbmhkmeaagreat", sum := "2832a5720e3012da85eb7dc45bb2c58d6e20cb3baca2278013fa9878a44873b4", func := "silverside/silversidelaw05.PactAsks", spec := "pactAsks", unfollowed := true, recurses := true, apart := false, narrowed := true }
def PactAsksUptoSaid : Prop := pactAsksUptoRow.holds Tryz.pinned (OpenSpec.upto pactAsksSpec)

/-- 'silversidelaw05.PactClones', WHERE WHAT IT READS IS OF BULK AT MOST 1048576: true; the input reads as it did. -/
def pactClonesUptoRow : OpenClaim := { program := "ytnoeiocbmhkmeaagreat", sum := "2832a5720e3012da85eb7dc45bb2c58d6e20cb3baca2278013fa9878a44873b4", func := "silverside/silversidelaw05.PactClones", spec := "pactClones", inPlace := ["maps.clone"], unfollowed := true, recurses := true, apart := false, narrowed := true }
def PactClonesUptoSaid : Prop := pactClonesUptoRow.holds Tryz.pinned (OpenSpec.upto pactClonesSpec)

/-- 'silversidelaw05.PactOwn', WHERE WHAT IT READS IS OF BULK AT MOST 1048576: true; the input reads as it did. -/
def pactOwnUptoRow : OpenClaim := { program := "ytnoeiocbmhkmeaagreat", sum := "2832a5720e3012da85eb7dc45bb2c58d6e20cb3baca2278013fa9878a44873b4", func := "silverside/silversidelaw05.PactOwn", spec := "pactOwn", unfollowed := true, recurses := true, apart := false, narrowed := true }
def PactOwnUptoSaid : Prop := pactOwnUptoRow.holds Tryz.pinned (OpenSpec.upto pactOwnSpec)

end Rows
end Go.Proofs.YtnoeiocbmhkmeaaGreat
