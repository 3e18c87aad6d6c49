/-
  NARROWER THAN 'FOR EVERY INPUT', by the rows' own cells (each row's printed sentence says how): RandWords: laid · RandBelow: laid · RandPicks: laid · RandOrder: laid · RandShuffles: laid · RandAgrees: laid.
  DERIVED. THE GIVEN ROWS OF THIS SEAT. 6 by the template 'for every input the law returns true; each argument reads behind the call as it read before'; 0 by the template 'total and deterministic' (their statements: YtgfhniiidejmoaaDoorTotals.lean).
  GIVEN WITH THE SEED: the statements are not yours to turn. If you find one false, say at which input.
  Laid BY PROGRAM, IN A SANDBOX (cutbox-rows.mjs): the forced cells as the released guide's own fill.sh prints them over the translation 0a69ceafaff02c41… (all of the seat's roots in one cut). By AI agents, Wed Nov 11 2026. No macro, syntax, notation, axiom, sorry.
-/
import Derived.Test.YtgfhniiidejmoaaDoorChecked
import GoSem.Claim
import GoSem.ClaimJoined
import GoSem.ClaimMapViews
import Derived.JoinedTies
import Derived.KernelRfl
namespace Go.Proofs.YtgfhniiidejmoaaDoor
/- THE CELL 'sum', in the pinned program and in every row, IS THE sha256 OF THE DUMP (.gsa) THAT YtgfhniiidejmoaaDoorProg.lean LOADS. Nothing in Lean hashes anything: it is a label: what it is worth is what the hold of that sum in a sandbox is worth. -/
noncomputable def Tryd.pinned : Pinned := { name := "ytgfhniiidejmoaadoor", sum := "0a69ceafaff02c41c310a0995335f5676f47fbf90a2cc6d67dfd8f34b1fa152b", checked := Tryd.checked }
namespace Rows
def none {H : Type} : Left H := { results := [], args := [] }

/- WHAT THE LISTED PACKAGE-LEVEL VARIABLES READ AS WHEN THE CALL BEGINS. Each datum BY PROGRAM (the guide's laid-datum.mjs) off the statement by which the dump's own 'gosem.cut.vars' lays the variable. In a bare row this is a premise. The card (YtgfhniiidejmoaaDoorCards.lean) ties it to the program's text. -/
def laid_refuter_rand_rounds {H : Type} : DataW H := .agg [.lit (.int .i64 0), .lit (.int .i64 1), .lit (.int .i64 2), .lit (.int .i64 3)]

/-- 'refuterlaw05.RandWords': WHATEVER THE INPUT: true; the input reads as it did. -/
def randWordsSpec : ChangeSpec := { name := "randWords", fn := fun _ => fun
  | [d1, d2, d3] => { results := [.lit (.bool true)], args := [d1, d2, d3] }
  | _ => none }
def randWordsRow : OpenClaim := { program := "ytgfhniiidejmoaadoor", sum := "0a69ceafaff02c41c310a0995335f5676f47fbf90a2cc6d67dfd8f34b1fa152b", func := "refuter/refuterlaw05.RandWords", spec := "randWords", unfollowed := true, recurses := true, named := ["refuter/rand.rounds"], apart := false, laid := [("refuter/rand.rounds", laid_refuter_rand_rounds)] }
def RandWordsSaid : Prop := randWordsRow.holds Tryd.pinned (OpenSpec.ofChange randWordsSpec)

/-- ITS FALSE NEIGHBOUR: 'it returns false'. Refute it at one input. -/
def randWordsWrong : ChangeSpec := { name := "randWords", fn := fun _ => fun
  | [d1, d2, d3] => { results := [.lit (.bool false)], args := [d1, d2, d3] }
  | _ => none }
def RandWordsWrongFalsely : Prop := randWordsRow.holds Tryd.pinned (OpenSpec.ofChange randWordsWrong)

/-- 'refuterlaw05.RandBelow': WHATEVER THE INPUT: true; the input reads as it did. -/
def randBelowSpec : ChangeSpec := { name := "randBelow", fn := fun _ => fun
  | [d1, d2, d3, d4] => { results := [.lit (.bool true)], args := [d1, d2, d3, d4] }
  | _ => none }
def randBelowRow : OpenClaim := { program := "ytgfhniiidejmoaadoor", sum := "0a69ceafaff02c41c310a0995335f5676f47fbf90a2cc6d67dfd8f34b1fa152b", func := "refuter/refuterlaw05.RandBelow", spec := "randBelow", unfollowed := true, recurses := true, named := ["refuter/rand.rounds"], apart := false, laid := [("refuter/rand.rounds", laid_refuter_rand_rounds)] }
def RandBelowSaid : Prop := randBelowRow.holds Tryd.pinned (OpenSpec.ofChange randBelowSpec)

/-- ITS FALSE NEIGHBOUR: 'it returns false'. Refute it at one input. -/
def randBelowWrong : ChangeSpec := { name := "randBelow", fn := fun _ => fun
  | [d1, d2, d3, d4] => { results := [.lit (.bool false)], args := [d1, d2, d3, d4] }
  | _ => none }
def RandBelowWrongFalsely : Prop := randBelowRow.holds Tryd.pinned (OpenSpec.ofChange randBelowWrong)

/-- 'refuterlaw05.RandPicks': WHATEVER THE INPUT: true; the input reads as it did. -/
def randPicksSpec : ChangeSpec := { name := "randPicks", fn := fun _ => fun
  | [d1, d2, d3, d4, d5] => { results := [.lit (.bool true)], args := [d1, d2, d3, d4, d5] }
  | _ => none }
def randPicksRow : OpenClaim := { program := "ytgfhniiidejmoaadoor", sum := "0a69ceafaff02c41c310a0995335f5676f47fbf90a2cc6d67dfd8f34b1fa152b", func := "refuter/refuterlaw05.RandPicks", spec := "randPicks", unfollowed := true, recurses := true, named := ["refuter/rand.rounds"], apart := false, laid := [("refuter/rand.rounds", laid_refuter_rand_rounds)] }
def RandPicksSaid : Prop := randPicksRow.holds Tryd.pinned (OpenSpec.ofChange randPicksSpec)

/-- ITS FALSE NEIGHBOUR: 'it returns false'. Refute it at one input. -/
def randPicksWrong : ChangeSpec := { name := "randPicks", fn := fun _ => fun
  | [d1, d2, d3, d4, d5] => { results := [.lit (.bool false)], args := [d1, d2, d3, d4, d5] }
  | _ => none }
def RandPicksWrongFalsely : Prop := randPicksRow.holds Tryd.pinned (OpenSpec.ofChange randPicksWrong)

/-- 'refuterlaw05.RandOrder': WHATEVER THE INPUT: true; the input reads as it did. -/
def randOrderSpec : ChangeSpec := { name := "randOrder", fn := fun _ => fun
  | [d1, d2, d3, d4] => { results := [.lit (.bool true)], args := [d1, d2, d3, d4] }
  | _ => none }
def randOrderRow : OpenClaim := { program := "ytgfhniiidejmoaadoor", sum := "0a69ceafaff02c41c310a0995335f5676f47fbf90a2cc6d67dfd8f34b1fa152b", func := "refuter/refuterlaw05.RandOrder", spec := "randOrder", unfollowed := true, recurses := true, named := ["refuter/rand.rounds"], apart := false, laid := [("refuter/rand.rounds", laid_refuter_rand_rounds)] }
def RandOrderSaid : Prop := randOrderRow.holds Tryd.pinned (OpenSpec.ofChange randOrderSpec)

/-- ITS FALSE NEIGHBOUR: 'it returns false'. Refute it at one input. -/
def randOrderWrong : ChangeSpec := { name := "randOrder", fn := fun _ => fun
  | [d1, d2, d3, d4] => { results := [.lit (.bool false)], args := [d1, d2, d3, d4] }
  | _ => none }
def RandOrderWrongFalsely : Prop := randOrderRow.holds Tryd.pinned (OpenSpec.ofChange randOrderWrong)

/-- 'refuterlaw05.RandShuffles': WHATEVER THE INPUT: true; the input reads as it did. -/
def randShufflesSpec : ChangeSpec := { name := "randShuffles", fn := fun _ => fun
  | [d1, d2] => { results := [.lit (.bool true)], args := [d1, d2] }
  | _ => none }
def randShufflesRow : OpenClaim := { program := "ytgfhniiidejmoaadoor", sum := "0a69ceafaff02c41c310a0995335f5676f47fbf90a2cc6d67dfd8f34b1fa152b", func := "refuter/refuterlaw05.RandShuffles", spec := "randShuffles", unfollowed := true, recurses := true, named := ["refuter/rand.rounds"], apart := false, laid := [("refuter/rand.rounds", laid_refuter_rand_rounds)] }
def RandShufflesSaid : Prop := randShufflesRow.holds Tryd.pinned (OpenSpec.ofChange randShufflesSpec)

/-- ITS FALSE NEIGHBOUR: 'it returns false'. Refute it at one input. -/
def randShufflesWrong : ChangeSpec := { name := "randShuffles", fn := fun _ => fun
  | [d1, d2] => { results := [.lit (.bool false)], args := [d1, d2] }
  | _ => none }
def RandShufflesWrongFalsely : Prop := randShufflesRow.holds Tryd.pinned (OpenSpec.ofChange randShufflesWrong)

/-- 'refuterlaw05.RandAgrees': WHATEVER THE INPUT: true; the input reads as it did. -/
def randAgreesSpec : ChangeSpec := { name := "randAgrees", fn := fun _ => fun
  | [d1, d2, d3] => { results := [.lit (.bool true)], args := [d1, d2, d3] }
  | _ => none }
def randAgreesRow : OpenClaim := { program := "ytgfhniiidejmoaadoor", sum := "0a69ceafaff02c41c310a0995335f5676f47fbf90a2cc6d67dfd8f34b1fa152b", func := "refuter/refuterlaw05.RandAgrees", spec := "randAgrees", unfollowed := true, recurses := true, named := ["refuter/rand.rounds"], apart := false, laid := [("refuter/rand.rounds", laid_refuter_rand_rounds)] }
def RandAgreesSaid : Prop := randAgreesRow.holds Tryd.pinned (OpenSpec.ofChange randAgreesSpec)

/-- ITS FALSE NEIGHBOUR: 'it returns false'. Refute it at one input. -/
def randAgreesWrong : ChangeSpec := { name := "randAgrees", fn := fun _ => fun
  | [d1, d2, d3] => { results := [.lit (.bool false)], args := [d1, d2, d3] }
  | _ => none }
def RandAgreesWrongFalsely : Prop := randAgreesRow.holds Tryd.pinned (OpenSpec.ofChange randAgreesWrong)

/- THE SECOND FORM. 'bulk': how many values and letters a reading holds, each counted each time it is reached (what is shared counts as often as it is met; a slice's spare places count too). A statement '..UptoSaid' is the law's where the arguments, and the package variables that the reading takes, are together of bulk at most 1048576: NARROWER than '..Said'. Prove '..Said' where nothing that the law and all that it calls make is longer than what came in: it says more and counts as full. Else prove '..UptoSaid'. A law counts once. -/
mutual
def uptoBulk {H : Type} : DataW H → Nat
  | .lit (.string bytes) => bytes.length + 1
  | .lit _ => 1
  | .nil => 1
  | .ptr d => uptoBulk d + 1
  | .slice elems spare => uptoBulkAll elems + uptoBulkAll spare + 1
  | .agg parts => uptoBulkAll parts + 1
  | .iface _ d => uptoBulk d + 1
  | .map entries => uptoBulkEntries entries + 1
  | .held _ => 1
def uptoBulkAll {H : Type} : List (DataW H) → Nat
  | [] => 0
  | d :: r => uptoBulk d + uptoBulkAll r
def uptoBulkEntries {H : Type} : List (Lit × DataW H) → Nat
  | [] => 0
  | x :: r => uptoBulkEntry x + uptoBulkEntries r
def uptoBulkEntry {H : Type} : Lit × DataW H → Nat
  | (.string bytes, d) => bytes.length + uptoBulk d + 1
  | (_, d) => uptoBulk d + 1
 end
def uptoSmall : (H : Type) → List (DataW H) → Bool := fun _ ds => decide (uptoBulkAll ds ≤ 1048576)
def OpenSpec.upto (s : _root_.Go.ChangeSpec) : _root_.Go.OpenSpec := { _root_.Go.OpenSpec.ofChange s with cond := some uptoSmall }

/-- 'refuterlaw05.RandWords', WHERE WHAT IT READS IS OF BULK AT MOST 1048576: true; the input reads as it did. -/
def randWordsUptoRow : OpenClaim := { program := "ytgfhniiidejmoaadoor", sum := "0a69ceafaff02c41c310a0995335f5676f47fbf90a2cc6d67dfd8f34b1fa152b", func := "refuter/refuterlaw05.RandWords", spec := "randWords", unfollowed := true, recurses := true, named := ["refuter/rand.rounds"], apart := false, laid := [("refuter/rand.rounds", laid_refuter_rand_rounds)], narrowed := true }
def RandWordsUptoSaid : Prop := randWordsUptoRow.holds Tryd.pinned (OpenSpec.upto randWordsSpec)

/-- 'refuterlaw05.RandBelow', WHERE WHAT IT READS IS OF BULK AT MOST 1048576: true; the input reads as it did. -/
def randBelowUptoRow : OpenClaim := { program := "ytgfhniiidejmoaadoor", sum := "0a69ceafaff02c41c310a0995335f5676f47fbf90a2cc6d67dfd8f34b1fa152b", func := "refuter/refuterlaw05.RandBelow", spec := "randBelow", unfollowed := true, recurses := true, named := ["refuter/rand.rounds"], apart := false, laid := [("refuter/rand.rounds", laid_refuter_rand_rounds)], narrowed := true }
def RandBelowUptoSaid : Prop := randBelowUptoRow.holds Tryd.pinned (OpenSpec.upto randBelowSpec)

/-- 'refuterlaw05.RandPicks', WHERE WHAT IT READS IS OF BULK AT MOST 1048576: true; the input reads as it did. -/
def randPicksUptoRow : OpenClaim := { program := "ytgfhniiidejmoaadoor", sum := "0a69ceafaff02c41c310a0995335f5676f47fbf90a2cc6d67dfd8f34b1fa152b", func := "refuter/refuterlaw05.RandPicks", spec := "randPicks", unfollowed := true, recurses := true, named := ["refuter/rand.rounds"], apart := false, laid := [("refuter/rand.rounds", laid_refuter_rand_rounds)], narrowed := true }
def RandPicksUptoSaid : Prop := randPicksUptoRow.holds Tryd.pinned (OpenSpec.upto randPicksSpec)

/-- 'refuterlaw05.RandOrder', WHERE WHAT IT READS IS OF BULK AT MOST 1048576: true; the input reads as it did. -/
def randOrderUptoRow : OpenClaim := { program := "ytgfhniiidejmoaadoor", sum := "0a69ceafaff02c41c310a0995335f5676f47fbf90a2cc6d67dfd8f34b1fa152b", func := "refuter/refuterlaw05.RandOrder", spec := "randOrder", unfollowed := true, recurses := true, named := ["refuter/rand.rounds"], apart := false, laid := [("refuter/rand.rounds", laid_refuter_rand_rounds)], narrowed := true }
def RandOrderUptoSaid : Prop := randOrderUptoRow.holds Tryd.pinned (OpenSpec.upto randOrderSpec)

/-- 'refuterlaw05.RandShuffles', WHERE WHAT IT READS IS OF BULK AT MOST 1048576: true; the input reads as it did. -/
def randShufflesUptoRow : OpenClaim := { program := "ytgfhniiidejmoaadoor", sum := "0a69ceafaff02c41c310a0995335f5676f47fbf90a2cc6d67dfd8f34b1fa152b", func := "refuter/refuterlaw05.RandShuffles", spec := "randShuffles", unfollowed := true, recurses := true, named := ["refuter/rand.rounds"], apart := false, laid := [("refuter/rand.rounds", laid_refuter_rand_rounds)], narrowed := true }
def RandShufflesUptoSaid : Prop := randShufflesUptoRow.holds Tryd.pinned (OpenSpec.upto randShufflesSpec)

/-- 'refuterlaw05.RandAgrees', WHERE WHAT IT READS IS OF BULK AT MOST 1048576: true; the input reads as it did. -/
def randAgreesUptoRow : OpenClaim := { program := "ytgfhniiidejmoaadoor", sum := "0a69ceafaff02c41c310a0995335f5676f47fbf90a2cc6d67dfd8f34b1fa152b", func := "refuter/refuterlaw05.RandAgrees", spec := "randAgrees", unfollowed := true, recurses := true, named := ["refuter/rand.rounds"], apart := false, laid := [("refuter/rand.rounds", laid_refuter_rand_rounds)], narrowed := true }
def RandAgreesUptoSaid : Prop := randAgreesUptoRow.holds Tryd.pinned (OpenSpec.upto randAgreesSpec)

end Rows
end Go.Proofs.YtgfhniiidejmoaaDoor
