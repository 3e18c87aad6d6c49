/- From what a row reads to the words of the walks. -/
import Derived.Test.YtgfhniiidejmoaaGreatDoorRows
import Derived.Test.YtgfhniiidejmoaaGreatDoorB02
import Derived.Test.YtgfhniiidejmoaaGreatDoorB01
import Derived.WalkKit
import Derived.ProofKit
import Derived.OpenShut
namespace Go.Proofs.YtgfhniiidejmoaaGreatDoor
open Go.RowKit

theorem wf_i64 {n : Int} (h : (Lit.int .i64 n).wf = true) : -9223372036854775808 ≤ n ∧ n ≤ 9223372036854775807 := by
  have := bounds_i64 h; omega
end Go.Proofs.YtgfhniiidejmoaaGreatDoor
