/- Contracts of the reference: Near. -/
import Derived.Test.YtgfhniiidejmoaaDoorA36
namespace Go.Proofs.YtgfhniiidejmoaaDoor
open Go.RowKit
set_option linter.unusedVariables false

/-! ### Near -/
end Go.Proofs.YtgfhniiidejmoaaDoor
