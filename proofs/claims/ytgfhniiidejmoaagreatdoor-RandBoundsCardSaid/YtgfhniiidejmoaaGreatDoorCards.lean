/-
  DERIVED. GIVEN WITH THE SEED: THE CARDS: each row of YtgfhniiidejmoaaGreatDoorRows.lean that lists a variable, with what it lists TIED to the program's text (the seventh form; the later family's looks); each row that meets fmt, with fmt's text TOLD by the authors' own Lean function (tested against real Go, not proved from fmt's source: count such statements apart). THE CARD IS WHAT COUNTS. Prove the row's statement (the work); the ties are given (YtgfhniiidejmoaaGreatDoorTie.lean); close each card by the builder's one call (the guide's Derived/Test/ToyasCard.lean, 'card_holds'). Laid BY PROGRAM, IN A SANDBOX (cutbox-door.mjs). By AI agents, Wed Nov 11 2026. No macro, syntax, notation, axiom, sorry.
-/
import Derived.Test.YtgfhniiidejmoaaGreatDoorRows
import GoSem.ClaimSeven
namespace Go.Proofs.YtgfhniiidejmoaaGreatDoor
namespace Rows

/-- THE TIED CARD OF 'refuterlaw05.RandBig'. -/
def randBigCard : Claim7 := { stood := { row := randBigRow, standIns := [], harness := (true, "0df8654538a1d041ff0701685bc8c532005f3191c5f04965328e1796ec212724"), looks := true }, kinds := [], alts := [], laidByText := true, laidKinds := [.data, .data, .data, .sentinel, .sentinel, .data], laidTests := true, laidLooks := .later }
def RandBigCardSaid : Prop := Claim7.holds Tryz.pinned (.plain (OpenSpec.ofChange randBigSpec)) randBigCard

/-- THE TIED CARD OF 'refuterlaw05.RandBounds'. -/
def randBoundsCard : Claim7 := { stood := { row := randBoundsRow, standIns := [], harness := (true, "0df8654538a1d041ff0701685bc8c532005f3191c5f04965328e1796ec212724"), looks := true }, kinds := [], alts := [], laidByText := true, laidKinds := [.data, .data, .data, .sentinel, .sentinel, .data], laidTests := true, laidLooks := .later }
def RandBoundsCardSaid : Prop := Claim7.holds Tryz.pinned (.plain (OpenSpec.ofChange randBoundsSpec)) randBoundsCard

/-- THE SECOND FORM's CARD OF 'refuterlaw05.RandBig'. -/
def randBigUptoCard : Claim7 := { stood := { row := randBigUptoRow, standIns := [], harness := (true, "0df8654538a1d041ff0701685bc8c532005f3191c5f04965328e1796ec212724"), looks := true }, kinds := [], alts := [], laidByText := true, laidKinds := [.data, .data, .data, .sentinel, .sentinel, .data], laidTests := true, laidLooks := .later }
def RandBigUptoCardSaid : Prop := Claim7.holds Tryz.pinned (.plain (OpenSpec.upto randBigSpec)) randBigUptoCard

/-- THE SECOND FORM's CARD OF 'refuterlaw05.RandBounds'. -/
def randBoundsUptoCard : Claim7 := { stood := { row := randBoundsUptoRow, standIns := [], harness := (true, "0df8654538a1d041ff0701685bc8c532005f3191c5f04965328e1796ec212724"), looks := true }, kinds := [], alts := [], laidByText := true, laidKinds := [.data, .data, .data, .sentinel, .sentinel, .data], laidTests := true, laidLooks := .later }
def RandBoundsUptoCardSaid : Prop := Claim7.holds Tryz.pinned (.plain (OpenSpec.upto randBoundsSpec)) randBoundsUptoCard
end Rows
end Go.Proofs.YtgfhniiidejmoaaGreatDoor
