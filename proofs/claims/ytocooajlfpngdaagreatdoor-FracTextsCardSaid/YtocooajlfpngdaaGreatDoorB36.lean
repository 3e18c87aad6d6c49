/- Contracts of package frac: Compare. -/
import Derived.Test.YtocooajlfpngdaaGreatDoorB35
import Derived.BigRegion
import Derived.Deep.LoopGhost
namespace Go.Proofs.YtocooajlfpngdaaGreatDoor
open Go.RowKit
set_option linter.unusedVariables false

end Go.Proofs.YtocooajlfpngdaaGreatDoor
