/-
  No cell of these rows narrows 'for every input' (looked for: loops, veiled, ifaces, maps, wideKeys, modest, calm, conditions, laid).
  DERIVED. THE GIVEN ROWS OF THIS SEAT. 6 by the template 'for every input the law returns true; each argument reads behind the call as it read before'; 0 by the template 'total and deterministic' (their statements: YtnoeiocbmhkmeaaTotals.lean).
  GIVEN WITH THE SEED: the statements are not yours to turn. If you find one false, say at which input.
  Laid BY PROGRAM, IN A SANDBOX (cutbox-rows.mjs): the forced cells as the released guide's own fill.sh prints them over the translation 881d157f60bd4bbb… (all of the seat's roots in one cut). By AI agents, Wed Nov 11 2026. No macro, syntax, notation, axiom, sorry.
-/
import Derived.Test.YtnoeiocbmhkmeaaChecked
import GoSem.Claim
import GoSem.ClaimJoined
import GoSem.ClaimMapViews
import Derived.JoinedTies
import Derived.KernelRfl
namespace Go.Proofs.Ytnoeiocbmhkmeaa
/- THE CELL 'sum', in the pinned program and in every row, IS THE sha256 OF THE DUMP (.gsa) THAT YtnoeiocbmhkmeaaProg.lean LOADS. Nothing in Lean hashes anything: it is a label: what it is worth is what the hold of that sum in a sandbox is worth. -/
noncomputable def Try.pinned : Pinned := { name := "ytnoeiocbmhkmeaa", sum := "881d157f60bd4bbbe042d914bbc50af11627829d82e5edcb2bc45393c47b5773", checked := Try.checked }
namespace Rows
def none {H : Type} : Left H := { results := [], args := [] }

/-- 'silversidelaw05.PactNew': WHATEVER THE INPUT: true; the input reads as it did. -/
def pactNewSpec : ChangeSpec := { name := "pactNew", fn := fun _ => fun
  | [d] => { results := [.lit (.bool true)], args := [d] }
  | _ => none }
def pactNewRow : OpenClaim := { program := "ytnoeiocbmhkmeaa", sum := "881d157f60bd4bbbe042d914bbc50af11627829d82e5edcb2bc45393c47b5773", func := "silverside/silversidelaw05.PactNew", spec := "pactNew", unfollowed := true, recurses := true, apart := false }
def PactNewSaid : Prop := pactNewRow.holds Try.pinned (OpenSpec.ofChange pactNewSpec)

/-- ITS FALSE NEIGHBOUR: 'it returns false'. Refute it at one input. -/
def pactNewWrong : ChangeSpec := { name := "pactNew", fn := fun _ => fun
  | [d] => { results := [.lit (.bool false)], args := [d] }
  | _ => none }
def PactNewWrongFalsely : Prop := pactNewRow.holds Try.pinned (OpenSpec.ofChange pactNewWrong)

/-- 'silversidelaw05.PactVoid': WHATEVER THE INPUT: true; the input reads as it did. -/
def pactVoidSpec : ChangeSpec := { name := "pactVoid", fn := fun _ => fun
  | [d] => { results := [.lit (.bool true)], args := [d] }
  | _ => none }
def pactVoidRow : OpenClaim := { program := "ytnoeiocbmhkmeaa", sum := "881d157f60bd4bbbe042d914bbc50af11627829d82e5edcb2bc45393c47b5773", func := "silverside/silversidelaw05.PactVoid", spec := "pactVoid", inPlace := ["maps.clone"], unfollowed := true, recurses := true, apart := false }
def PactVoidSaid : Prop := pactVoidRow.holds Try.pinned (OpenSpec.ofChange pactVoidSpec)

/-- ITS FALSE NEIGHBOUR: 'it returns false'. Refute it at one input. -/
def pactVoidWrong : ChangeSpec := { name := "pactVoid", fn := fun _ => fun
  | [d] => { results := [.lit (.bool false)], args := [d] }
  | _ => none }
def PactVoidWrongFalsely : Prop := pactVoidRow.holds Try.pinned (OpenSpec.ofChange pactVoidWrong)

/-- 'silversidelaw05.PactAgrees': WHATEVER THE INPUT: true; the input reads as it did. -/
def pactAgreesSpec : ChangeSpec := { name := "pactAgrees", fn := fun _ => fun
  | [d1, d2] => { results := [.lit (.bool true)], args := [d1, d2] }
  | _ => none }
def pactAgreesRow : OpenClaim := { program := "ytnoeiocbmhkmeaa", sum := "881d157f60bd4bbbe042d914bbc50af11627829d82e5edcb2bc45393c47b5773", func := "silverside/silversidelaw05.PactAgrees", spec := "pactAgrees", unfollowed := true, recurses := true, apart := false }
def PactAgreesSaid : Prop := pactAgreesRow.holds Try.pinned (OpenSpec.ofChange pactAgreesSpec)

/-- ITS FALSE NEIGHBOUR: 'it returns false'. Refute it at one input. -/
def pactAgreesWrong : ChangeSpec := { name := "pactAgrees", fn := fun _ => fun
  | [d1, d2] => { results := [.lit (.bool false)], args := [d1, d2] }
  | _ => none }
def PactAgreesWrongFalsely : Prop := pactAgreesRow.holds Try.pinned (OpenSpec.ofChange pactAgreesWrong)

/-- 'silversidelaw05.PactSettles': WHATEVER THE INPUT: true; the input reads as it did. -/
def pactSettlesSpec : ChangeSpec := { name := "pactSettles", fn := fun _ => fun
  | [d1, d2, d3] => { results := [.lit (.bool true)], args := [d1, d2, d3] }
  | _ => none }
def pactSettlesRow : OpenClaim := { program := "ytnoeiocbmhkmeaa", sum := "881d157f60bd4bbbe042d914bbc50af11627829d82e5edcb2bc45393c47b5773", func := "silverside/silversidelaw05.PactSettles", spec := "pactSettles", unfollowed := true, recurses := true, apart := false }
def PactSettlesSaid : Prop := pactSettlesRow.holds Try.pinned (OpenSpec.ofChange pactSettlesSpec)

/-- ITS FALSE NEIGHBOUR: 'it returns false'. Refute it at one input. -/
def pactSettlesWrong : ChangeSpec := { name := "pactSettles", fn := fun _ => fun
  | [d1, d2, d3] => { results := [.lit (.bool false)], args := [d1, d2, d3] }
  | _ => none }
def PactSettlesWrongFalsely : Prop := pactSettlesRow.holds Try.pinned (OpenSpec.ofChange pactSettlesWrong)

/-- 'silversidelaw05.PactStocks': WHATEVER THE INPUT: true; the input reads as it did. -/
def pactStocksSpec : ChangeSpec := { name := "pactStocks", fn := fun _ => fun
  | [d1, d2, d3] => { results := [.lit (.bool true)], args := [d1, d2, d3] }
  | _ => none }
def pactStocksRow : OpenClaim := { program := "ytnoeiocbmhkmeaa", sum := "881d157f60bd4bbbe042d914bbc50af11627829d82e5edcb2bc45393c47b5773", func := "silverside/silversidelaw05.PactStocks", spec := "pactStocks", unfollowed := true, recurses := true, apart := false }
def PactStocksSaid : Prop := pactStocksRow.holds Try.pinned (OpenSpec.ofChange pactStocksSpec)

/-- ITS FALSE NEIGHBOUR: 'it returns false'. Refute it at one input. -/
def pactStocksWrong : ChangeSpec := { name := "pactStocks", fn := fun _ => fun
  | [d1, d2, d3] => { results := [.lit (.bool false)], args := [d1, d2, d3] }
  | _ => none }
def PactStocksWrongFalsely : Prop := pactStocksRow.holds Try.pinned (OpenSpec.ofChange pactStocksWrong)

/-- 'silversidelaw05.PactPays': WHATEVER THE INPUT: true; the input reads as it did. -/
def pactPaysSpec : ChangeSpec := { name := "pactPays", fn := fun _ => fun
  | [d1, d2] => { results := [.lit (.bool true)], args := [d1, d2] }
  | _ => none }
def pactPaysRow : OpenClaim := { program := "ytnoeiocbmhkmeaa", sum := "881d157f60bd4bbbe042d914bbc50af11627829d82e5edcb2bc45393c47b5773", func := "silverside/silversidelaw05.PactPays", spec := "pactPays", unfollowed := true, recurses := true, apart := false }
def PactPaysSaid : Prop := pactPaysRow.holds Try.pinned (OpenSpec.ofChange pactPaysSpec)

/-- ITS FALSE NEIGHBOUR: 'it returns false'. Refute it at one input. -/
def pactPaysWrong : ChangeSpec := { name := "pactPays", fn := fun _ => fun
  | [d1, d2] => { results := [.lit (.bool false)], args := [d1, d2] }
  | _ => none }
def PactPaysWrongFalsely : Prop := pactPaysRow.holds Try.pinned (OpenSpec.ofChange pactPaysWrong)

/- THE SECOND FORM. 'bulk': how many values and letters a reading holds, each counted each time it is reached (what is shared counts as often as it is met; a slice's spare places count too). A statement '..UptoSaid' is the law's where the arguments, and the package variables that the reading takes, are together of bulk at most 1048576: NARROWER than '..Said'. Prove '..Said' where nothing that the law and all that it calls make is longer than what came in: it says more and counts as full. Else prove '..UptoSaid'. A law counts once. -/
mutual
def uptoBulk {H : Type} : DataW H → Nat
  | .lit (.string bytes) => bytes.length + 1
  | .lit _ => 1
  | .nil => 1
  | .ptr d => uptoBulk d + 1
  | .slice elems spare => uptoBulkAll elems + uptoBulkAll spare + 1
  | .agg parts => uptoBulkAll parts + 1
  | .iface _ d => uptoBulk d + 1
  | .map entries => uptoBulkEntries entries + 1
  | .held _ => 1
def uptoBulkAll {H : Type} : List (DataW H) → Nat
  | [] => 0
  | d :: r => uptoBulk d + uptoBulkAll r
def uptoBulkEntries {H : Type} : List (Lit × DataW H) → Nat
  | [] => 0
  | x :: r => uptoBulkEntry x + uptoBulkEntries r
def uptoBulkEntry {H : Type} : Lit × DataW H → Nat
  | (.string bytes, d) => bytes.length + uptoBulk d + 1
  | (_, d) => uptoBulk d + 1
 end
def uptoSmall : (H : Type) → List (DataW H) → Bool := fun _ ds => decide (uptoBulkAll ds ≤ 1048576)
def OpenSpec.upto (s : _root_.Go.ChangeSpec) : _root_.Go.OpenSpec := { _root_.Go.OpenSpec.ofChange s with cond := some uptoSmall }

/-- 'silversidelaw05.PactNew', WHERE WHAT IT READS IS OF BULK AT MOST 1048576: true; the input reads as it did. -/
def pactNewUptoRow : OpenClaim := { program := "ytnoeiocbmhkmeaa", sum := "881d157f60bd4bbbe042d914bbc50af11627829d82e5edcb2bc45393c47b5773", func := "silverside/silversidelaw05.PactNew", spec := "pactNew", unfollowed := true, recurses := true, apart := false, narrowed := true }
def PactNewUptoSaid : Prop := pactNewUptoRow.holds Try.pinned (OpenSpec.upto pactNewSpec)

/-- 'silversidelaw05.PactVoid', WHERE WHAT IT READS IS OF BULK AT MOST 1048576: true; the input reads as it did. -/
def pactVoidUptoRow : OpenClaim := { program := "ytnoeiocbmhkmeaa", sum := "881d157f60bd4bbbe042d914bbc50af11627829d82e5edcb2bc45393c47b5773", func := "silverside/silversidelaw05.PactVoid", spec := "pactVoid", inPlace := ["maps.clone"], unfollowed := true, recurses := true, apart := false, narrowed := true }
def PactVoidUptoSaid : Prop := pactVoidUptoRow.holds Try.pinned (OpenSpec.upto pactVoidSpec)

/-- 'silversidelaw05.PactAgrees', WHERE WHAT IT READS IS OF BULK AT MOST 1048576: true; the input reads as it did. -/
def pactAgreesUptoRow : OpenClaim := { program := "ytnoeiocbmhkmeaa", sum := "881d157f60bd4bbbe042d914bbc50af11627829d82e5edcb2bc45393c47b5773", func := "silverside/silversidelaw05.PactAgrees", spec := "pactAgrees", unfollowed := true, recurses := true, apart := false, narrowed := true }
def PactAgreesUptoSaid : Prop := pactAgreesUptoRow.holds Try.pinned (OpenSpec.upto pactAgreesSpec)

/-- 'silversidelaw05.PactSettles', WHERE WHAT IT READS IS OF BULK AT MOST 1048576: true; the input reads as it did. -/
def pactSettlesUptoRow : OpenClaim := { program := "ytnoeiocbmhkmeaa", sum := "881d157f60bd4bbbe042d914bbc50af11627829d82e5edcb2bc45393c47b5773", func := "silverside/silversidelaw05.PactSettles", spec := "pactSettles", unfollowed := true, recurses := true, apart := false, narrowed := true }
def PactSettlesUptoSaid : Prop := pactSettlesUptoRow.holds Try.pinned (OpenSpec.upto pactSettlesSpec)

/-- 'silversidelaw05.PactStocks', WHERE WHAT IT READS IS OF BULK AT MOST 1048576: true; the input reads as it did. -/
def pactStocksUptoRow : OpenClaim := { program := "ytnoeiocbmhkmeaa", sum := "881d157f60bd4bbbe042d914bbc50af11627829d82e5edcb2bc45393c47b5773", func := "silverside/silversidelaw05.PactStocks", spec := "pactStocks", unfollowed := true, recurses := true, apart := false, narrowed := true }
def PactStocksUptoSaid : Prop := pactStocksUptoRow.holds Try.pinned (OpenSpec.upto pactStocksSpec)

/-- 'silversidelaw05.PactPays', WHERE WHAT IT READS IS OF BULK AT MOST 1048576: true; the input reads as it did. -/
def pactPaysUptoRow : OpenClaim := { program := "ytnoeiocbmhkmeaa", sum := "881d157f60bd4bbbe042d914bbc50af11627829d82e5edcb2bc45393c47b5773", func := "silverside/silversidelaw05.PactPays", spec := "pactPays", unfollowed := true, recurses := true, apart := false, narrowed := true }
def PactPaysUptoSaid : Prop := pactPaysUptoRow.holds Try.pinned (OpenSpec.upto pactPaysSpec)

end Rows
end Go.Proofs.Ytnoeiocbmhkmeaa
