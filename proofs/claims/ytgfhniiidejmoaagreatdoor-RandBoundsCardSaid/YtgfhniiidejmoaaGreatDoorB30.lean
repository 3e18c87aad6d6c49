/- Bytes turned into a string. No Go text. -/
import Derived.Test.YtgfhniiidejmoaaGreatDoorB05
import Derived.Laws.IdiomStrings
namespace Go.Proofs.YtgfhniiidejmoaaGreatDoor
open Go.RowKit
set_option linter.unusedVariables false

end Go.Proofs.YtgfhniiidejmoaaGreatDoor
