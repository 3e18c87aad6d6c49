/- From the condition of a row with more variables to the variable 'rounds'. -/
import Derived.Test.YtgfhniiidejmoaaGreatDoorB47
import Derived.LaidSub
namespace Go.Proofs.YtgfhniiidejmoaaGreatDoor
open Go.RowKit
set_option linter.unusedVariables false

theorem rounds_in {l : List (String × DataW Unit)} {W : World} (hl : l.filter (fun x => x.1 == "refuter/rand.rounds") = [("refuter/rand.rounds", Rows.laid_refuter_rand_rounds)]) (h : laidMetH Tryz.prog l W) : RoundsAt W := by
  have h2 := laidMetH.filter (fun x => x.1 == "refuter/rand.rounds") h
  rw [hl] at h2
  exact rounds_at h2
end Go.Proofs.YtgfhniiidejmoaaGreatDoor
