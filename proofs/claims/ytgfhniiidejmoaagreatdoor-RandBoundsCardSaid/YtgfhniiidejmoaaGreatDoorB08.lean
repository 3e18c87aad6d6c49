/- The contracts of the reference's Sum, Bytes, Pair. -/
import Derived.Test.YtgfhniiidejmoaaGreatDoorB07
import Derived.Test.YtgfhniiidejmoaaGreatDoorB05
import Derived.Test.YtgfhniiidejmoaaGreatDoorB01
import Derived.Test.YtgfhniiidejmoaaGreatDoorB06
namespace Go.Proofs.YtgfhniiidejmoaaGreatDoor
open Go.RowKit
set_option linter.unusedVariables false

/-! ### Bytes, Pair -/
end Go.Proofs.YtgfhniiidejmoaaGreatDoor
