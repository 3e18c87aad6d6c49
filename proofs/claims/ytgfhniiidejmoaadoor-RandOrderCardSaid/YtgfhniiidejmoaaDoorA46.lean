/- From what a row reads to the words of the walks. -/
import Derived.Test.YtgfhniiidejmoaaDoorRows
import Derived.Test.YtgfhniiidejmoaaDoorA02
import Derived.Test.YtgfhniiidejmoaaDoorA01
import Derived.WalkKit
import Derived.ProofKit
import Derived.OpenShut
namespace Go.Proofs.YtgfhniiidejmoaaDoor
open Go.RowKit

theorem wf_i64 {n : Int} (h : (Lit.int .i64 n).wf = true) : -9223372036854775808 ≤ n ∧ n ≤ 9223372036854775807 := by
  have := bounds_i64 h; omega
end Go.Proofs.YtgfhniiidejmoaaDoor
