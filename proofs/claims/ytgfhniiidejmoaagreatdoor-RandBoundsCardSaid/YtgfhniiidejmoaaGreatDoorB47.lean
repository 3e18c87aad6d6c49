/- From the row's condition to the variable 'rounds'. -/
import Derived.Test.YtgfhniiidejmoaaGreatDoorB12
import Derived.Test.YtgfhniiidejmoaaGreatDoorRows
import Derived.Lib.LaidTab
import Derived.MakeChecks
import Derived.LaidMore
namespace Go.Proofs.YtgfhniiidejmoaaGreatDoor
open Go.RowKit
set_option linter.unusedVariables false

theorem rounds_of (l : List (String × DataW Unit)) {W : World} (h : laidMet Tryz.prog (("refuter/rand.rounds", Lib.tabData .i64 [0, 1, 2, 3]) :: l) W) : RoundsAt W := by
  have ht : Lib.TabIs Tryz.prog W "refuter/rand.rounds" .i64 [0, 1, 2, 3] := Lib.tabIs_of_head (g := 0) (t := 153) (e := 3) (n := 4) (by kernel_rfl) (by kernel_rfl) Tryz.underlying153 Tryz.underlying3 (by kernel_rfl) (by kernel_rfl) h
  unfold Lib.TabIs World.var? at ht
  rw [show Tryz.prog.globalNamed "refuter/rand.rounds" = some 0 by kernel_rfl] at ht
  simp only [Option.bind_some] at ht
  cases hh : W.heap[0]? with
  | none => rw [hh] at ht; cases ht
  | some o =>
    rw [hh] at ht
    cases o with
    | cells cs t fr =>
      obtain rfl := Option.some.inj ht
      exact ⟨t, fr, hh⟩
    | _ => cases ht
theorem rounds_at {W : World} (h : laidMetH Tryz.prog [("refuter/rand.rounds", Rows.laid_refuter_rand_rounds)] W) : RoundsAt W := by
  rw [MakeChecks.laidMetH_plain _ _ _ (by kernel_rfl)] at h
  exact rounds_of [] h
end Go.Proofs.YtgfhniiidejmoaaGreatDoor
