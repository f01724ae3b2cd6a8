/-
  No cell of these rows narrows 'for every input' (looked for: loops, veiled, ifaces, maps, wideKeys, modest, calm, conditions, laid).
  DERIVED. THE GIVEN ROWS OF THIS SEAT. 6 by the template 'for every input the law returns true; each argument reads behind the call as it read before'; 0 by the template 'total and deterministic' (their statements: YtmcefcdnfngndaaTotals.lean).
  GIVEN WITH THE SEED: the statements are not yours to turn. If you find one false, say at which input.
  Laid BY PROGRAM, IN A SANDBOX (cutbox-rows.mjs): the forced cells as the released guide's own fill.sh prints them over the translation 4bd0bd0470d9eb1e… (all of the seat's roots in one cut). By AI agents, Wed Nov 11 2026. No macro, syntax, notation, axiom, sorry.
-/
import Derived.Test.YtmcefcdnfngndaaChecked
import GoSem.Claim
import GoSem.ClaimJoined
import GoSem.ClaimMapViews
import Derived.JoinedTies
import Derived.KernelRfl
namespace Go.Proofs.Ytmcefcdnfngndaa
/- THE CELL 'sum', in the pinned program and in every row, IS THE sha256 OF THE DUMP (.gsa) THAT YtmcefcdnfngndaaProg.lean LOADS. Nothing in Lean hashes anything: it is a label: what it is worth is what the hold of that sum in a sandbox is worth. -/
noncomputable def Try.pinned : Pinned := { name := "ytmcefcdnfngndaa", sum := "4bd0bd0470d9eb1ed8f6c5ad609c11a701d766812e47adc1076ec08136eb7ef1", checked := Try.checked }
namespace Rows
def none {H : Type} : Left H := { results := [], args := [] }

/-- 'silversidelaw07.FindOrders': WHATEVER THE INPUT: true; the input reads as it did. -/
def findOrdersSpec : ChangeSpec := { name := "findOrders", fn := fun _ => fun
  | [d] => { results := [.lit (.bool true)], args := [d] }
  | _ => none }
def findOrdersRow : OpenClaim := { program := "ytmcefcdnfngndaa", sum := "4bd0bd0470d9eb1ed8f6c5ad609c11a701d766812e47adc1076ec08136eb7ef1", func := "silverside/silversidelaw07.FindOrders", spec := "findOrders", unfollowed := true, recurses := true, apart := false }
def FindOrdersSaid : Prop := findOrdersRow.holds Try.pinned (OpenSpec.ofChange findOrdersSpec)

/-- ITS FALSE NEIGHBOUR: 'it returns false'. Refute it at one input. -/
def findOrdersWrong : ChangeSpec := { name := "findOrders", fn := fun _ => fun
  | [d] => { results := [.lit (.bool false)], args := [d] }
  | _ => none }
def FindOrdersWrongFalsely : Prop := findOrdersRow.holds Try.pinned (OpenSpec.ofChange findOrdersWrong)

/-- 'silversidelaw07.FindFinds': WHATEVER THE INPUT: true; the input reads as it did. -/
def findFindsSpec : ChangeSpec := { name := "findFinds", fn := fun _ => fun
  | [d1, d2] => { results := [.lit (.bool true)], args := [d1, d2] }
  | _ => none }
def findFindsRow : OpenClaim := { program := "ytmcefcdnfngndaa", sum := "4bd0bd0470d9eb1ed8f6c5ad609c11a701d766812e47adc1076ec08136eb7ef1", func := "silverside/silversidelaw07.FindFinds", spec := "findFinds", unfollowed := true, recurses := true, apart := false }
def FindFindsSaid : Prop := findFindsRow.holds Try.pinned (OpenSpec.ofChange findFindsSpec)

/-- ITS FALSE NEIGHBOUR: 'it returns false'. Refute it at one input. -/
def findFindsWrong : ChangeSpec := { name := "findFinds", fn := fun _ => fun
  | [d1, d2] => { results := [.lit (.bool false)], args := [d1, d2] }
  | _ => none }
def FindFindsWrongFalsely : Prop := findFindsRow.holds Try.pinned (OpenSpec.ofChange findFindsWrong)

/-- 'silversidelaw07.FindCommon': WHATEVER THE INPUT: true; the input reads as it did. -/
def findCommonSpec : ChangeSpec := { name := "findCommon", fn := fun _ => fun
  | [d1, d2] => { results := [.lit (.bool true)], args := [d1, d2] }
  | _ => none }
def findCommonRow : OpenClaim := { program := "ytmcefcdnfngndaa", sum := "4bd0bd0470d9eb1ed8f6c5ad609c11a701d766812e47adc1076ec08136eb7ef1", func := "silverside/silversidelaw07.FindCommon", spec := "findCommon", unfollowed := true, recurses := true, apart := false }
def FindCommonSaid : Prop := findCommonRow.holds Try.pinned (OpenSpec.ofChange findCommonSpec)

/-- ITS FALSE NEIGHBOUR: 'it returns false'. Refute it at one input. -/
def findCommonWrong : ChangeSpec := { name := "findCommon", fn := fun _ => fun
  | [d1, d2] => { results := [.lit (.bool false)], args := [d1, d2] }
  | _ => none }
def FindCommonWrongFalsely : Prop := findCommonRow.holds Try.pinned (OpenSpec.ofChange findCommonWrong)

/-- 'silversidelaw07.FindTurns': WHATEVER THE INPUT: true; the input reads as it did. -/
def findTurnsSpec : ChangeSpec := { name := "findTurns", fn := fun _ => fun
  | [d] => { results := [.lit (.bool true)], args := [d] }
  | _ => none }
def findTurnsRow : OpenClaim := { program := "ytmcefcdnfngndaa", sum := "4bd0bd0470d9eb1ed8f6c5ad609c11a701d766812e47adc1076ec08136eb7ef1", func := "silverside/silversidelaw07.FindTurns", spec := "findTurns", unfollowed := true, recurses := true, apart := false }
def FindTurnsSaid : Prop := findTurnsRow.holds Try.pinned (OpenSpec.ofChange findTurnsSpec)

/-- ITS FALSE NEIGHBOUR: 'it returns false'. Refute it at one input. -/
def findTurnsWrong : ChangeSpec := { name := "findTurns", fn := fun _ => fun
  | [d] => { results := [.lit (.bool false)], args := [d] }
  | _ => none }
def FindTurnsWrongFalsely : Prop := findTurnsRow.holds Try.pinned (OpenSpec.ofChange findTurnsWrong)

/-- 'silversidelaw07.FindSides': WHATEVER THE INPUT: true; the input reads as it did. -/
def findSidesSpec : ChangeSpec := { name := "findSides", fn := fun _ => fun
  | [d1, d2] => { results := [.lit (.bool true)], args := [d1, d2] }
  | _ => none }
def findSidesRow : OpenClaim := { program := "ytmcefcdnfngndaa", sum := "4bd0bd0470d9eb1ed8f6c5ad609c11a701d766812e47adc1076ec08136eb7ef1", func := "silverside/silversidelaw07.FindSides", spec := "findSides", unfollowed := true, recurses := true, apart := false }
def FindSidesSaid : Prop := findSidesRow.holds Try.pinned (OpenSpec.ofChange findSidesSpec)

/-- ITS FALSE NEIGHBOUR: 'it returns false'. Refute it at one input. -/
def findSidesWrong : ChangeSpec := { name := "findSides", fn := fun _ => fun
  | [d1, d2] => { results := [.lit (.bool false)], args := [d1, d2] }
  | _ => none }
def FindSidesWrongFalsely : Prop := findSidesRow.holds Try.pinned (OpenSpec.ofChange findSidesWrong)

/-- 'silversidelaw07.FindSums': WHATEVER THE INPUT: true; the input reads as it did. -/
def findSumsSpec : ChangeSpec := { name := "findSums", fn := fun _ => fun
  | [d] => { results := [.lit (.bool true)], args := [d] }
  | _ => none }
def findSumsRow : OpenClaim := { program := "ytmcefcdnfngndaa", sum := "4bd0bd0470d9eb1ed8f6c5ad609c11a701d766812e47adc1076ec08136eb7ef1", func := "silverside/silversidelaw07.FindSums", spec := "findSums", unfollowed := true, recurses := true, apart := false }
def FindSumsSaid : Prop := findSumsRow.holds Try.pinned (OpenSpec.ofChange findSumsSpec)

/-- ITS FALSE NEIGHBOUR: 'it returns false'. Refute it at one input. -/
def findSumsWrong : ChangeSpec := { name := "findSums", fn := fun _ => fun
  | [d] => { results := [.lit (.bool false)], args := [d] }
  | _ => none }
def FindSumsWrongFalsely : Prop := findSumsRow.holds Try.pinned (OpenSpec.ofChange findSumsWrong)

/- THE SECOND FORM. 'bulk': how many values and letters a reading holds, each counted each time it is reached (what is shared counts as often as it is met; a slice's spare places count too). A statement '..UptoSaid' is the law's where the arguments, and the package variables that the reading takes, are together of bulk at most 1048576: NARROWER than '..Said'. Prove '..Said' where nothing that the law and all that it calls make is longer than what came in: it says more and counts as full. Else prove '..UptoSaid'. A law counts once. -/
mutual
def uptoBulk {H : Type} : DataW H → Nat
  | .lit (.string bytes) => bytes.length + 1
  | .lit _ => 1
  | .nil => 1
  | .ptr d => uptoBulk d + 1
  | .slice elems spare => uptoBulkAll elems + uptoBulkAll spare + 1
  | .agg parts => uptoBulkAll parts + 1
  | .iface _ d => uptoBulk d + 1
  | .map entries => uptoBulkEntries entries + 1
  | .held _ => 1
def uptoBulkAll {H : Type} : List (DataW H) → Nat
  | [] => 0
  | d :: r => uptoBulk d + uptoBulkAll r
def uptoBulkEntries {H : Type} : List (Lit × DataW H) → Nat
  | [] => 0
  | x :: r => uptoBulkEntry x + uptoBulkEntries r
def uptoBulkEntry {H : Type} : Lit × DataW H → Nat
  | (.string bytes, d) => bytes.length + uptoBulk d + 1
  | (_, d) => uptoBulk d + 1
 end
def uptoSmall : (H : Type) → List (DataW H) → Bool := fun _ ds => decide (uptoBulkAll ds ≤ 1048576)
def OpenSpec.upto (s : _root_.Go.ChangeSpec) : _root_.Go.OpenSpec := { _root_.Go.OpenSpec.ofChange s with cond := some uptoSmall }

/-- 'silversidelaw07.FindOrders', WHERE WHAT IT READS IS OF BULK AT MOST 1048576: true; the input reads as it did. -/
def findOrdersUptoRow : OpenClaim := { program := "ytmcefcdnfngndaa", sum := "4bd0bd0470d9eb1ed8f6c5ad609c11a701d766812e47adc1076ec08136eb7ef1", func := "silverside/silversidelaw07.FindOrders", spec := "findOrders", unfollowed := true, recurses := true, apart := false, narrowed := true }
def FindOrdersUptoSaid : Prop := findOrdersUptoRow.holds Try.pinned (OpenSpec.upto findOrdersSpec)

/-- 'silversidelaw07.FindFinds', WHERE WHAT IT READS IS OF BULK AT MOST 1048576: true; the input reads as it did. -/
def findFindsUptoRow : OpenClaim := { program := "ytmcefcdnfngndaa", sum := "4bd0bd0470d9eb1ed8f6c5ad609c11a701d766812e47adc1076ec08136eb7ef1", func := "silverside/silversidelaw07.FindFinds", spec := "findFinds", unfollowed := true, recurses := true, apart := false, narrowed := true }
def FindFindsUptoSaid : Prop := findFindsUptoRow.holds Try.pinned (OpenSpec.upto findFindsSpec)

/-- 'silversidelaw07.FindCommon', WHERE WHAT IT READS IS OF BULK AT MOST 1048576: true; the input reads as it did. -/
def findCommonUptoRow : OpenClaim := { program := "ytmcefcdnfngndaa", sum := "4bd0bd0470d9eb1ed8f6c5ad609c11a701d766812e47adc1076ec08136eb7ef1", func := "silverside/silversidelaw07.FindCommon", spec := "findCommon", unfollowed := true, recurses := true, apart := false, narrowed := true }
def FindCommonUptoSaid : Prop := findCommonUptoRow.holds Try.pinned (OpenSpec.upto findCommonSpec)

/-- 'silversidelaw07.FindTurns', WHERE WHAT IT READS IS OF BULK AT MOST 1048576: true; the input reads as it did. -/
def findTurnsUptoRow : OpenClaim := { program := "ytmcefcdnfngndaa", sum := "4bd0bd0470d9eb1ed8f6c5ad609c11a701d766812e47adc1076ec08136eb7ef1", func := "silverside/silversidelaw07.FindTurns", spec := "findTurns", unfollowed := true, recurses := true, apart := false, narrowed := true }
def FindTurnsUptoSaid : Prop := findTurnsUptoRow.holds Try.pinned (OpenSpec.upto findTurnsSpec)

/-- 'silversidelaw07.FindSides', WHERE WHAT IT READS IS OF BULK AT MOST 1048576: true; the input reads as it did. -/
def findSidesUptoRow : OpenClaim := { program := "ytmcefcdnfngndaa", sum := "4bd0bd0470d9eb1ed8f6c5ad609c11a701d766812e47adc1076ec08136eb7ef1", func := "silverside/silversidelaw07.FindSides", spec := "findSides", unfollowed := true, recurses := true, apart := false, narrowed := true }
def FindSidesUptoSaid : Prop := findSidesUptoRow.holds Try.pinned (OpenSpec.upto findSidesSpec)

/-- 'silversidelaw07.FindSums', WHERE WHAT IT READS IS OF BULK AT MOST 1048576: true; the input reads as it did. -/
def findSumsUptoRow : OpenClaim := { program := "ytmcefcdnfngndaa", sum := "4bd0bd0470d9eb1ed8f6c5ad609c11a701d766812e47adc1076ec08136eb7ef1", func := "silverside/silversidelaw07.FindSums", spec := "findSums", unfollowed := true, recurses := true, apart := false, narrowed := true }
def FindSumsUptoSaid : Prop := findSumsUptoRow.holds Try.pinned (OpenSpec.upto findSumsSpec)

end Rows
end Go.Proofs.Ytmcefcdnfngndaa
