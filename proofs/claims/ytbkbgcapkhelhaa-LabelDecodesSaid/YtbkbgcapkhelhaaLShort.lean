/- Layer 3: at most the first 300 bytes. -/
import Derived.Test.YtbkbgcapkhelhaaLAwake
import Derived.Laws.IdiomStrings
namespace Go.Proofs.Ytbkbgcapkhelhaa
open Go.RowKit
set_option linter.unusedSimpArgs false

def ShortPost (w : World) (e : Ending) (w' : World) : Prop := ∃ t : ByteArray, e = .returned (.string t) ∧ t.size ≤ 300 ∧ w' = w
theorem short_any (s : ByteArray) (w : World) : Calls Try.prog 17 #[.string s] w (ShortPost w) := by
  go_enter Try.func17, Try.ntmps17
  go_wp2_with fail
  go_ret
  refine ⟨s.extract 0 (min (s.size : Int) 300).toNat, rfl, ?_, rfl⟩
  rw [ByteArray.size_extract]
  omega
end Go.Proofs.Ytbkbgcapkhelhaa
