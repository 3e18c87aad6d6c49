/- Bytes turned into a string. No Go text. -/
import Derived.Test.YtgfhniiidejmoaaDoorA05
import Derived.Laws.IdiomStrings
namespace Go.Proofs.YtgfhniiidejmoaaDoor
open Go.RowKit
set_option linter.unusedVariables false

end Go.Proofs.YtgfhniiidejmoaaDoor
