/- Contracts of package wide's texts: decimals. · Texts of package wide's integers: the bytes of String. · Contracts of package wide's texts: String. -/
import Derived.Test.YtgfhniiidejmoaaDoorA31
import Derived.Test.YtgfhniiidejmoaaDoorA32
import Derived.Test.YtgfhniiidejmoaaDoorA34
namespace Go.Proofs.YtgfhniiidejmoaaDoor
open Go.RowKit
set_option linter.unusedVariables false

end Go.Proofs.YtgfhniiidejmoaaDoor
namespace Go.Proofs.YtgfhniiidejmoaaDoor
open Go.RowKit
set_option linter.unusedVariables false

end Go.Proofs.YtgfhniiidejmoaaDoor
namespace Go.Proofs.YtgfhniiidejmoaaDoor
open Go.RowKit
set_option linter.unusedVariables false

end Go.Proofs.YtgfhniiidejmoaaDoor
