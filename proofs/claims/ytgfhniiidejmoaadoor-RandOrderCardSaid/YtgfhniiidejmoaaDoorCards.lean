/-
  DERIVED. GIVEN WITH THE SEED: THE CARDS: each row of YtgfhniiidejmoaaDoorRows.lean that lists a variable, with what it lists TIED to the program's text (the seventh form; the later family's looks); each row that meets fmt, with fmt's text TOLD by the authors' own Lean function (tested against real Go, not proved from fmt's source: count such statements apart). THE CARD IS WHAT COUNTS. Prove the row's statement (the work); the ties are given (YtgfhniiidejmoaaDoorTie.lean); close each card by the builder's one call (the guide's Derived/Test/ToyasCard.lean, 'card_holds'). Laid BY PROGRAM, IN A SANDBOX (cutbox-door.mjs). By AI agents, Wed Nov 11 2026. No macro, syntax, notation, axiom, sorry.
-/
import Derived.Test.YtgfhniiidejmoaaDoorRows
import GoSem.ClaimSeven
namespace Go.Proofs.YtgfhniiidejmoaaDoor
namespace Rows

/-- THE TIED CARD OF 'refuterlaw05.RandWords'. -/
def randWordsCard : Claim7 := { stood := { row := randWordsRow, standIns := [], harness := (true, "c789f5d8f61efd8e27b5eeffadd754ca68284629fa2148f01c1412cd1a5be65d"), looks := false }, kinds := [], alts := [], laidByText := true, laidKinds := [.data], laidTests := true, laidLooks := .later }
def RandWordsCardSaid : Prop := Claim7.holds Tryd.pinned (.plain (OpenSpec.ofChange randWordsSpec)) randWordsCard

/-- THE TIED CARD OF 'refuterlaw05.RandBelow'. -/
def randBelowCard : Claim7 := { stood := { row := randBelowRow, standIns := [], harness := (true, "c789f5d8f61efd8e27b5eeffadd754ca68284629fa2148f01c1412cd1a5be65d"), looks := false }, kinds := [], alts := [], laidByText := true, laidKinds := [.data], laidTests := true, laidLooks := .later }
def RandBelowCardSaid : Prop := Claim7.holds Tryd.pinned (.plain (OpenSpec.ofChange randBelowSpec)) randBelowCard

/-- THE TIED CARD OF 'refuterlaw05.RandPicks'. -/
def randPicksCard : Claim7 := { stood := { row := randPicksRow, standIns := [], harness := (true, "c789f5d8f61efd8e27b5eeffadd754ca68284629fa2148f01c1412cd1a5be65d"), looks := false }, kinds := [], alts := [], laidByText := true, laidKinds := [.data], laidTests := true, laidLooks := .later }
def RandPicksCardSaid : Prop := Claim7.holds Tryd.pinned (.plain (OpenSpec.ofChange randPicksSpec)) randPicksCard

/-- THE TIED CARD OF 'refuterlaw05.RandOrder'. -/
def randOrderCard : Claim7 := { stood := { row := randOrderRow, standIns := [], harness := (true, "c789f5d8f61efd8e27b5eeffadd754ca68284629fa2148f01c1412cd1a5be65d"), looks := false }, kinds := [], alts := [], laidByText := true, laidKinds := [.data], laidTests := true, laidLooks := .later }
def RandOrderCardSaid : Prop := Claim7.holds Tryd.pinned (.plain (OpenSpec.ofChange randOrderSpec)) randOrderCard

/-- THE TIED CARD OF 'refuterlaw05.RandShuffles'. -/
def randShufflesCard : Claim7 := { stood := { row := randShufflesRow, standIns := [], harness := (true, "c789f5d8f61efd8e27b5eeffadd754ca68284629fa2148f01c1412cd1a5be65d"), looks := false }, kinds := [], alts := [], laidByText := true, laidKinds := [.data], laidTests := true, laidLooks := .later }
def RandShufflesCardSaid : Prop := Claim7.holds Tryd.pinned (.plain (OpenSpec.ofChange randShufflesSpec)) randShufflesCard

/-- THE TIED CARD OF 'refuterlaw05.RandAgrees'. -/
def randAgreesCard : Claim7 := { stood := { row := randAgreesRow, standIns := [], harness := (true, "c789f5d8f61efd8e27b5eeffadd754ca68284629fa2148f01c1412cd1a5be65d"), looks := false }, kinds := [], alts := [], laidByText := true, laidKinds := [.data], laidTests := true, laidLooks := .later }
def RandAgreesCardSaid : Prop := Claim7.holds Tryd.pinned (.plain (OpenSpec.ofChange randAgreesSpec)) randAgreesCard

/-- THE SECOND FORM's CARD OF 'refuterlaw05.RandWords'. -/
def randWordsUptoCard : Claim7 := { stood := { row := randWordsUptoRow, standIns := [], harness := (true, "c789f5d8f61efd8e27b5eeffadd754ca68284629fa2148f01c1412cd1a5be65d"), looks := false }, kinds := [], alts := [], laidByText := true, laidKinds := [.data], laidTests := true, laidLooks := .later }
def RandWordsUptoCardSaid : Prop := Claim7.holds Tryd.pinned (.plain (OpenSpec.upto randWordsSpec)) randWordsUptoCard

/-- THE SECOND FORM's CARD OF 'refuterlaw05.RandBelow'. -/
def randBelowUptoCard : Claim7 := { stood := { row := randBelowUptoRow, standIns := [], harness := (true, "c789f5d8f61efd8e27b5eeffadd754ca68284629fa2148f01c1412cd1a5be65d"), looks := false }, kinds := [], alts := [], laidByText := true, laidKinds := [.data], laidTests := true, laidLooks := .later }
def RandBelowUptoCardSaid : Prop := Claim7.holds Tryd.pinned (.plain (OpenSpec.upto randBelowSpec)) randBelowUptoCard

/-- THE SECOND FORM's CARD OF 'refuterlaw05.RandPicks'. -/
def randPicksUptoCard : Claim7 := { stood := { row := randPicksUptoRow, standIns := [], harness := (true, "c789f5d8f61efd8e27b5eeffadd754ca68284629fa2148f01c1412cd1a5be65d"), looks := false }, kinds := [], alts := [], laidByText := true, laidKinds := [.data], laidTests := true, laidLooks := .later }
def RandPicksUptoCardSaid : Prop := Claim7.holds Tryd.pinned (.plain (OpenSpec.upto randPicksSpec)) randPicksUptoCard

/-- THE SECOND FORM's CARD OF 'refuterlaw05.RandOrder'. -/
def randOrderUptoCard : Claim7 := { stood := { row := randOrderUptoRow, standIns := [], harness := (true, "c789f5d8f61efd8e27b5eeffadd754ca68284629fa2148f01c1412cd1a5be65d"), looks := false }, kinds := [], alts := [], laidByText := true, laidKinds := [.data], laidTests := true, laidLooks := .later }
def RandOrderUptoCardSaid : Prop := Claim7.holds Tryd.pinned (.plain (OpenSpec.upto randOrderSpec)) randOrderUptoCard

/-- THE SECOND FORM's CARD OF 'refuterlaw05.RandShuffles'. -/
def randShufflesUptoCard : Claim7 := { stood := { row := randShufflesUptoRow, standIns := [], harness := (true, "c789f5d8f61efd8e27b5eeffadd754ca68284629fa2148f01c1412cd1a5be65d"), looks := false }, kinds := [], alts := [], laidByText := true, laidKinds := [.data], laidTests := true, laidLooks := .later }
def RandShufflesUptoCardSaid : Prop := Claim7.holds Tryd.pinned (.plain (OpenSpec.upto randShufflesSpec)) randShufflesUptoCard

/-- THE SECOND FORM's CARD OF 'refuterlaw05.RandAgrees'. -/
def randAgreesUptoCard : Claim7 := { stood := { row := randAgreesUptoRow, standIns := [], harness := (true, "c789f5d8f61efd8e27b5eeffadd754ca68284629fa2148f01c1412cd1a5be65d"), looks := false }, kinds := [], alts := [], laidByText := true, laidKinds := [.data], laidTests := true, laidLooks := .later }
def RandAgreesUptoCardSaid : Prop := Claim7.holds Tryd.pinned (.plain (OpenSpec.upto randAgreesSpec)) randAgreesUptoCard
end Rows
end Go.Proofs.YtgfhniiidejmoaaDoor
