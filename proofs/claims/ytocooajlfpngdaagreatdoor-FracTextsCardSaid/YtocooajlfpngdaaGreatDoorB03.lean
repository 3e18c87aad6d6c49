/- Contracts of the reference's small functions: Around, Short. -/
import Derived.Test.YtocooajlfpngdaaGreatDoorChecked
import Derived.Test.YtocooajlfpngdaaGreatDoorB01
import Derived.Test.YtocooajlfpngdaaGreatDoorB02
import Derived.WalkKit
import Derived.Outline
import Derived.OwnWalk
import Derived.Lib.Hide
import Derived.Deep.QuietTactic
import Derived.BigQuiet
import Derived.IntWalk
namespace Go.Proofs.YtocooajlfpngdaaGreatDoor
open Go.RowKit
set_option linter.unusedVariables false

theorem ret_int {k : IntKind} {a b : Int} (h : a = b) : Ending.returned (.int k a) = .returned (.int k b) := by rw [h]
theorem ret_bool {a b : Bool} (h : a = b) : Ending.returned (.bool a) = .returned (.bool b) := by rw [h]

/-! ### Around -/
/-! ### Short -/
/-! ### a type's facts -/
theorem int_info : (Tryz.prog.info? 3).map (fun i => (i.zero, i.size, i.bytes)) = some (some (.int .i64 0), 1, 8) := by kernel_rfl
end Go.Proofs.YtocooajlfpngdaaGreatDoor
