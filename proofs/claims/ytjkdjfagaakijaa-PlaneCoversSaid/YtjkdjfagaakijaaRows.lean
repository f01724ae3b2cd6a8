/-
  No cell of these rows narrows 'for every input' (looked for: loops, veiled, ifaces, maps, wideKeys, modest, calm, conditions, laid).
  DERIVED. THE GIVEN ROWS OF THIS SEAT. 7 by the template 'for every input the law returns true; each argument reads behind the call as it read before'; 0 by the template 'total and deterministic' (their statements: YtjkdjfagaakijaaTotals.lean).
  GIVEN WITH THE SEED: the statements are not yours to turn. If you find one false, say at which input.
  Laid BY PROGRAM, IN A SANDBOX (cutbox-rows.mjs): the forced cells as the released guide's own fill.sh prints them over the translation 302ff27d50b21b4f… (all of the seat's roots in one cut). By AI agents, Wed Nov 11 2026. No macro, syntax, notation, axiom, sorry.
-/
import Derived.Test.YtjkdjfagaakijaaChecked
import GoSem.Claim
import GoSem.ClaimJoined
import GoSem.ClaimMapViews
import Derived.JoinedTies
import Derived.KernelRfl
namespace Go.Proofs.Ytjkdjfagaakijaa
/- THE CELL 'sum', in the pinned program and in every row, IS THE sha256 OF THE DUMP (.gsa) THAT YtjkdjfagaakijaaProg.lean LOADS. Nothing in Lean hashes anything: it is a label: what it is worth is what the hold of that sum in a sandbox is worth. -/
noncomputable def Try.pinned : Pinned := { name := "ytjkdjfagaakijaa", sum := "302ff27d50b21b4ffe589b378292be819010d69c2875a882e8062a8a65809463", checked := Try.checked }
namespace Rows
def none {H : Type} : Left H := { results := [], args := [] }

/-- 'silversidelaw01.PlaneTriangles': WHATEVER THE INPUT: true; the input reads as it did. -/
def planeTrianglesSpec : ChangeSpec := { name := "planeTriangles", fn := fun _ => fun
  | [d] => { results := [.lit (.bool true)], args := [d] }
  | _ => none }
def planeTrianglesRow : OpenClaim := { program := "ytjkdjfagaakijaa", sum := "302ff27d50b21b4ffe589b378292be819010d69c2875a882e8062a8a65809463", func := "silverside/silversidelaw01.PlaneTriangles", spec := "planeTriangles", unfollowed := true, recurses := true, plainKeys := false, apart := false }
def PlaneTrianglesSaid : Prop := planeTrianglesRow.holds Try.pinned (OpenSpec.ofChange planeTrianglesSpec)

/-- ITS FALSE NEIGHBOUR: 'it returns false'. Refute it at one input. -/
def planeTrianglesWrong : ChangeSpec := { name := "planeTriangles", fn := fun _ => fun
  | [d] => { results := [.lit (.bool false)], args := [d] }
  | _ => none }
def PlaneTrianglesWrongFalsely : Prop := planeTrianglesRow.holds Try.pinned (OpenSpec.ofChange planeTrianglesWrong)

/-- 'silversidelaw01.PlaneCovers': WHATEVER THE INPUT: true; the input reads as it did. -/
def planeCoversSpec : ChangeSpec := { name := "planeCovers", fn := fun _ => fun
  | [d1, d2] => { results := [.lit (.bool true)], args := [d1, d2] }
  | _ => none }
def planeCoversRow : OpenClaim := { program := "ytjkdjfagaakijaa", sum := "302ff27d50b21b4ffe589b378292be819010d69c2875a882e8062a8a65809463", func := "silverside/silversidelaw01.PlaneCovers", spec := "planeCovers", unfollowed := true, recurses := true, plainKeys := false, apart := false }
def PlaneCoversSaid : Prop := planeCoversRow.holds Try.pinned (OpenSpec.ofChange planeCoversSpec)

/-- ITS FALSE NEIGHBOUR: 'it returns false'. Refute it at one input. -/
def planeCoversWrong : ChangeSpec := { name := "planeCovers", fn := fun _ => fun
  | [d1, d2] => { results := [.lit (.bool false)], args := [d1, d2] }
  | _ => none }
def PlaneCoversWrongFalsely : Prop := planeCoversRow.holds Try.pinned (OpenSpec.ofChange planeCoversWrong)

/-- 'silversidelaw01.PlaneSeparates': WHATEVER THE INPUT: true; the input reads as it did. -/
def planeSeparatesSpec : ChangeSpec := { name := "planeSeparates", fn := fun _ => fun
  | [d1, d2] => { results := [.lit (.bool true)], args := [d1, d2] }
  | _ => none }
def planeSeparatesRow : OpenClaim := { program := "ytjkdjfagaakijaa", sum := "302ff27d50b21b4ffe589b378292be819010d69c2875a882e8062a8a65809463", func := "silverside/silversidelaw01.PlaneSeparates", spec := "planeSeparates", unfollowed := true, recurses := true, plainKeys := false, apart := false }
def PlaneSeparatesSaid : Prop := planeSeparatesRow.holds Try.pinned (OpenSpec.ofChange planeSeparatesSpec)

/-- ITS FALSE NEIGHBOUR: 'it returns false'. Refute it at one input. -/
def planeSeparatesWrong : ChangeSpec := { name := "planeSeparates", fn := fun _ => fun
  | [d1, d2] => { results := [.lit (.bool false)], args := [d1, d2] }
  | _ => none }
def PlaneSeparatesWrongFalsely : Prop := planeSeparatesRow.holds Try.pinned (OpenSpec.ofChange planeSeparatesWrong)

/-- 'silversidelaw01.PlaneTiles': WHATEVER THE INPUT: true; the input reads as it did. -/
def planeTilesSpec : ChangeSpec := { name := "planeTiles", fn := fun _ => fun
  | [d1, d2] => { results := [.lit (.bool true)], args := [d1, d2] }
  | _ => none }
def planeTilesRow : OpenClaim := { program := "ytjkdjfagaakijaa", sum := "302ff27d50b21b4ffe589b378292be819010d69c2875a882e8062a8a65809463", func := "silverside/silversidelaw01.PlaneTiles", spec := "planeTiles", unfollowed := true, recurses := true, plainKeys := false, apart := false }
def PlaneTilesSaid : Prop := planeTilesRow.holds Try.pinned (OpenSpec.ofChange planeTilesSpec)

/-- ITS FALSE NEIGHBOUR: 'it returns false'. Refute it at one input. -/
def planeTilesWrong : ChangeSpec := { name := "planeTiles", fn := fun _ => fun
  | [d1, d2] => { results := [.lit (.bool false)], args := [d1, d2] }
  | _ => none }
def PlaneTilesWrongFalsely : Prop := planeTilesRow.holds Try.pinned (OpenSpec.ofChange planeTilesWrong)

/-- 'silversidelaw01.PlaneOnce': WHATEVER THE INPUT: true; the input reads as it did. -/
def planeOnceSpec : ChangeSpec := { name := "planeOnce", fn := fun _ => fun
  | [d1, d2, d3] => { results := [.lit (.bool true)], args := [d1, d2, d3] }
  | _ => none }
def planeOnceRow : OpenClaim := { program := "ytjkdjfagaakijaa", sum := "302ff27d50b21b4ffe589b378292be819010d69c2875a882e8062a8a65809463", func := "silverside/silversidelaw01.PlaneOnce", spec := "planeOnce", unfollowed := true, recurses := true, plainKeys := false, apart := false }
def PlaneOnceSaid : Prop := planeOnceRow.holds Try.pinned (OpenSpec.ofChange planeOnceSpec)

/-- ITS FALSE NEIGHBOUR: 'it returns false'. Refute it at one input. -/
def planeOnceWrong : ChangeSpec := { name := "planeOnce", fn := fun _ => fun
  | [d1, d2, d3] => { results := [.lit (.bool false)], args := [d1, d2, d3] }
  | _ => none }
def PlaneOnceWrongFalsely : Prop := planeOnceRow.holds Try.pinned (OpenSpec.ofChange planeOnceWrong)

/-- 'silversidelaw01.PlaneMeets': WHATEVER THE INPUT: true; the input reads as it did. -/
def planeMeetsSpec : ChangeSpec := { name := "planeMeets", fn := fun _ => fun
  | [d1, d2] => { results := [.lit (.bool true)], args := [d1, d2] }
  | _ => none }
def planeMeetsRow : OpenClaim := { program := "ytjkdjfagaakijaa", sum := "302ff27d50b21b4ffe589b378292be819010d69c2875a882e8062a8a65809463", func := "silverside/silversidelaw01.PlaneMeets", spec := "planeMeets", unfollowed := true, recurses := true, plainKeys := false, apart := false }
def PlaneMeetsSaid : Prop := planeMeetsRow.holds Try.pinned (OpenSpec.ofChange planeMeetsSpec)

/-- ITS FALSE NEIGHBOUR: 'it returns false'. Refute it at one input. -/
def planeMeetsWrong : ChangeSpec := { name := "planeMeets", fn := fun _ => fun
  | [d1, d2] => { results := [.lit (.bool false)], args := [d1, d2] }
  | _ => none }
def PlaneMeetsWrongFalsely : Prop := planeMeetsRow.holds Try.pinned (OpenSpec.ofChange planeMeetsWrong)

/-- 'silversidelaw01.PlaneOwn': WHATEVER THE INPUT: true; the input reads as it did. -/
def planeOwnSpec : ChangeSpec := { name := "planeOwn", fn := fun _ => fun
  | [d] => { results := [.lit (.bool true)], args := [d] }
  | _ => none }
def planeOwnRow : OpenClaim := { program := "ytjkdjfagaakijaa", sum := "302ff27d50b21b4ffe589b378292be819010d69c2875a882e8062a8a65809463", func := "silverside/silversidelaw01.PlaneOwn", spec := "planeOwn", unfollowed := true, recurses := true, plainKeys := false, apart := false }
def PlaneOwnSaid : Prop := planeOwnRow.holds Try.pinned (OpenSpec.ofChange planeOwnSpec)

/-- ITS FALSE NEIGHBOUR: 'it returns false'. Refute it at one input. -/
def planeOwnWrong : ChangeSpec := { name := "planeOwn", fn := fun _ => fun
  | [d] => { results := [.lit (.bool false)], args := [d] }
  | _ => none }
def PlaneOwnWrongFalsely : Prop := planeOwnRow.holds Try.pinned (OpenSpec.ofChange planeOwnWrong)

/- THE SECOND FORM. 'bulk': how many values and letters a reading holds, each counted each time it is reached (what is shared counts as often as it is met; a slice's spare places count too). A statement '..UptoSaid' is the law's where the arguments, and the package variables that the reading takes, are together of bulk at most 1048576: NARROWER than '..Said'. Prove '..Said' where nothing that the law and all that it calls make is longer than what came in: it says more and counts as full. Else prove '..UptoSaid'. A law counts once. -/
mutual
def uptoBulk {H : Type} : DataW H → Nat
  | .lit (.string bytes) => bytes.length + 1
  | .lit _ => 1
  | .nil => 1
  | .ptr d => uptoBulk d + 1
  | .slice elems spare => uptoBulkAll elems + uptoBulkAll spare + 1
  | .agg parts => uptoBulkAll parts + 1
  | .iface _ d => uptoBulk d + 1
  | .map entries => uptoBulkEntries entries + 1
  | .held _ => 1
def uptoBulkAll {H : Type} : List (DataW H) → Nat
  | [] => 0
  | d :: r => uptoBulk d + uptoBulkAll r
def uptoBulkEntries {H : Type} : List (Lit × DataW H) → Nat
  | [] => 0
  | x :: r => uptoBulkEntry x + uptoBulkEntries r
def uptoBulkEntry {H : Type} : Lit × DataW H → Nat
  | (.string bytes, d) => bytes.length + uptoBulk d + 1
  | (_, d) => uptoBulk d + 1
 end
def uptoSmall : (H : Type) → List (DataW H) → Bool := fun _ ds => decide (uptoBulkAll ds ≤ 1048576)
def OpenSpec.upto (s : _root_.Go.ChangeSpec) : _root_.Go.OpenSpec := { _root_.Go.OpenSpec.ofChange s with cond := some uptoSmall }

/-- 'silversidelaw01.PlaneTriangles', WHERE WHAT IT READS IS OF BULK AT MOST 1048576: true; the input reads as it did. -/
def planeTrianglesUptoRow : OpenClaim := { program := "ytjkdjfagaakijaa", sum := "302ff27d50b21b4ffe589b378292be819010d69c2875a882e8062a8a65809463", func := "silverside/silversidelaw01.PlaneTriangles", spec := "planeTriangles", unfollowed := true, recurses := true, plainKeys := false, apart := false, narrowed := true }
def PlaneTrianglesUptoSaid : Prop := planeTrianglesUptoRow.holds Try.pinned (OpenSpec.upto planeTrianglesSpec)

/-- 'silversidelaw01.PlaneCovers', WHERE WHAT IT READS IS OF BULK AT MOST 1048576: true; the input reads as it did. -/
def planeCoversUptoRow : OpenClaim := { program := "ytjkdjfagaakijaa", sum := "302ff27d50b21b4ffe589b378292be819010d69c2875a882e8062a8a65809463", func := "silverside/silversidelaw01.PlaneCovers", spec := "planeCovers", unfollowed := true, recurses := true, plainKeys := false, apart := false, narrowed := true }
def PlaneCoversUptoSaid : Prop := planeCoversUptoRow.holds Try.pinned (OpenSpec.upto planeCoversSpec)

/-- 'silversidelaw01.PlaneSeparates', WHERE WHAT IT READS IS OF BULK AT MOST 1048576: true; the input reads as it did. -/
def planeSeparatesUptoRow : OpenClaim := { program := "ytjkdjfagaakijaa", sum := "302ff27d50b21b4ffe589b378292be819010d69c2875a882e8062a8a65809463", func := "silverside/silversidelaw01.PlaneSeparates", spec := "planeSeparates", unfollowed := true, recurses := true, plainKeys := false, apart := false, narrowed := true }
def PlaneSeparatesUptoSaid : Prop := planeSeparatesUptoRow.holds Try.pinned (OpenSpec.upto planeSeparatesSpec)

/-- 'silversidelaw01.PlaneTiles', WHERE WHAT IT READS IS OF BULK AT MOST 1048576: true; the input reads as it did. -/
def planeTilesUptoRow : OpenClaim := { program := "ytjkdjfagaakijaa", sum := "302ff27d50b21b4ffe589b378292be819010d69c2875a882e8062a8a65809463", func := "silverside/silversidelaw01.PlaneTiles", spec := "planeTiles", unfollowed := true, recurses := true, plainKeys := false, apart := false, narrowed := true }
def PlaneTilesUptoSaid : Prop := planeTilesUptoRow.holds Try.pinned (OpenSpec.upto planeTilesSpec)

/-- 'silversidelaw01.PlaneOnce', WHERE WHAT IT READS IS OF BULK AT MOST 1048576: true; the input reads as it did. -/
def planeOnceUptoRow : OpenClaim := { program := "ytjkdjfagaakijaa", sum := "302ff27d50b21b4ffe589b378292be819010d69c2875a882e8062a8a65809463", func := "silverside/silversidelaw01.PlaneOnce", spec := "planeOnce", unfollowed := true, recurses := true, plainKeys := false, apart := false, narrowed := true }
def PlaneOnceUptoSaid : Prop := planeOnceUptoRow.holds Try.pinned (OpenSpec.upto planeOnceSpec)

/-- 'silversidelaw01.PlaneMeets', WHERE WHAT IT READS IS OF BULK AT MOST 1048576: true; the input reads as it did. -/
def planeMeetsUptoRow : OpenClaim := { program := "ytjkdjfagaakijaa", sum := "302ff27d50b21b4ffe589b378292be819010d69c2875a882e8062a8a65809463", func := "silverside/silversidelaw01.PlaneMeets", spec := "planeMeets", unfollowed := true, recurses := true, plainKeys := false, apart := false, narrowed := true }
def PlaneMeetsUptoSaid : Prop := planeMeetsUptoRow.holds Try.pinned (OpenSpec.upto planeMeetsSpec)

/-- 'silversidelaw01.PlaneOwn', WHERE WHAT IT READS IS OF BULK AT MOST 1048576: true; the input reads as it did. -/
def planeOwnUptoRow : OpenClaim := { program := "ytjkdjfagaakijaa", sum := "302ff27d50b21b4ffe589b378292be819010d69c2875a882e8062a8a65809463", func := "silverside/silversidelaw01.PlaneOwn", spec := "planeOwn", unfollowed := true, recurses := true, plainKeys := false, apart := false, narrowed := true }
def PlaneOwnUptoSaid : Prop := planeOwnUptoRow.holds Try.pinned (OpenSpec.upto planeOwnSpec)

end Rows
end Go.Proofs.Ytjkdjfagaakijaa
