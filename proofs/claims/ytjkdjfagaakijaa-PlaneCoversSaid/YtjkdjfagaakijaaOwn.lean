/- Rows of points of the call's own; the library's Compact on them. -/
import Derived.Test.YtjkdjfagaakijaaEdges
import Derived.Lib.SliceRun
namespace Go.Proofs.Ytjkdjfagaakijaa
open Go.RowKit
set_option linter.unusedSimpArgs false

end Go.Proofs.Ytjkdjfagaakijaa
