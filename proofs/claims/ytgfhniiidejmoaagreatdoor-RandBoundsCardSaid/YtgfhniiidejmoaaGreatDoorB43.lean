/- The reference of rand: Digit, digits. -/
import Derived.Test.YtgfhniiidejmoaaGreatDoorB39
import Derived.Test.YtgfhniiidejmoaaGreatDoorB31
import Derived.Test.YtgfhniiidejmoaaGreatDoorB32
namespace Go.Proofs.YtgfhniiidejmoaaGreatDoor
open Go.RowKit
set_option linter.unusedVariables false

end Go.Proofs.YtgfhniiidejmoaaGreatDoor
