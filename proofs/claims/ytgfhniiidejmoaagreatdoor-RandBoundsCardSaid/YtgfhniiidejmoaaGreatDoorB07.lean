/- The contract of the reference's Words. -/
import Derived.Test.YtgfhniiidejmoaaGreatDoorB03
import Derived.Test.YtgfhniiidejmoaaGreatDoorB01
import Derived.Maps.AppendAt
namespace Go.Proofs.YtgfhniiidejmoaaGreatDoor
open Go.RowKit
set_option linter.unusedVariables false

end Go.Proofs.YtgfhniiidejmoaaGreatDoor
