/- Rows of points of the call's own; the library's Compact on them. -/
import Derived.Test.YthleajmamkihaaaPts
import Derived.Lib.SliceRun
namespace Go.Proofs.Ythleajmamkihaaa
open Go.RowKit
set_option linter.unusedSimpArgs false

end Go.Proofs.Ythleajmamkihaaa
