/- Contracts of the reference: Near. -/
import Derived.Test.YtgfhniiidejmoaaGreatDoorB34
namespace Go.Proofs.YtgfhniiidejmoaaGreatDoor
open Go.RowKit
set_option linter.unusedVariables false

/-! ### Near -/
end Go.Proofs.YtgfhniiidejmoaaGreatDoor
