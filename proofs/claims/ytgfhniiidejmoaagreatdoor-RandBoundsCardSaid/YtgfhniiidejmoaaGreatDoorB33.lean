/- Contracts of package wide's texts: decimals. · Texts of package wide's integers: the bytes of String. · Contracts of package wide's texts: String. -/
import Derived.Test.YtgfhniiidejmoaaGreatDoorB29
import Derived.Test.YtgfhniiidejmoaaGreatDoorB30
import Derived.Test.YtgfhniiidejmoaaGreatDoorB32
namespace Go.Proofs.YtgfhniiidejmoaaGreatDoor
open Go.RowKit
set_option linter.unusedVariables false

end Go.Proofs.YtgfhniiidejmoaaGreatDoor
namespace Go.Proofs.YtgfhniiidejmoaaGreatDoor
open Go.RowKit
set_option linter.unusedVariables false

end Go.Proofs.YtgfhniiidejmoaaGreatDoor
namespace Go.Proofs.YtgfhniiidejmoaaGreatDoor
open Go.RowKit
set_option linter.unusedVariables false

end Go.Proofs.YtgfhniiidejmoaaGreatDoor
