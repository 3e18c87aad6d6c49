/- The contract of hash.mix. -/
import Derived.Test.YtjnjglkmabnlfaaRef
namespace Go.Proofs.Ytjnjglkmabnlfaa
open Go.RowKit
set_option linter.unusedVariables false

theorem hash_mix (s x : Int) (w : World) :
    Calls Try.prog 66 #[.int .u64 s, .int .u64 x] w fun e w' => e = .returned (.int .u64 (mixI s x)) ∧ w = w' := by
  go_enter Try.func66, Try.ntmps66
  go_wp2
  go_ret
  exact ⟨rfl, rfl⟩
end Go.Proofs.Ytjnjglkmabnlfaa
