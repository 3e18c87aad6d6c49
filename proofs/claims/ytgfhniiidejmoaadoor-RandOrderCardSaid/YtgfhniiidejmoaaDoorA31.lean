/- Contracts of package wide's texts: fromDecimals. · Contracts of package wide's texts: Parse. · Contracts of package wide's texts: slices.Reverse at bytes. -/
import Derived.Test.YtgfhniiidejmoaaDoorA30
import Derived.Lib.AtoiErrMem
namespace Go.Proofs.YtgfhniiidejmoaaDoor
open Go.RowKit
set_option linter.unusedVariables false

end Go.Proofs.YtgfhniiidejmoaaDoor
namespace Go.Proofs.YtgfhniiidejmoaaDoor
open Go.RowKit
set_option linter.unusedVariables false

end Go.Proofs.YtgfhniiidejmoaaDoor
namespace Go.Proofs.YtgfhniiidejmoaaDoor
open Go.RowKit
set_option linter.unusedVariables false

/-- a row half turned round -/
def RevI (bs : List Int) (i j : Nat) (M : List Int) : Prop :=
  M.length = bs.length ∧ ∀ k, k < bs.length → M[k]?.getD 0 = if k < i ∨ j < k then bs[bs.length - 1 - k]?.getD 0 else bs[k]?.getD 0
theorem RevI.start (bs : List Int) : RevI bs 0 (bs.length - 1) bs := ⟨rfl, fun k hk => by rw [if_neg (by omega)]⟩
theorem RevI.step {bs M : List Int} {i j : Nat} (h : RevI bs i j M) (hij : i < j) (hj : i + j = bs.length - 1) : RevI bs (i + 1) (j - 1) ((M.set i (M[j]?.getD 0)).set j (M[i]?.getD 0)) := by
  obtain ⟨hl, hm⟩ := h
  refine ⟨by rw [List.length_set, List.length_set, hl], fun k hk => ?_⟩
  have hi := hm i (by omega)
  have hjv := hm j (by omega)
  rw [if_neg (by omega)] at hi hjv
  by_cases h1 : k = j
  · subst h1
    rw [List.getElem?_set_self (by rw [List.length_set]; omega), if_pos (by omega), Option.getD_some, hi, show bs.length - 1 - k = i by omega]
  · rw [List.getElem?_set_ne (by omega)]
    by_cases h2 : k = i
    · subst h2
      rw [List.getElem?_set_self (by omega), if_pos (by omega), Option.getD_some, hjv, show bs.length - 1 - k = j by omega]
    · rw [List.getElem?_set_ne (by omega), hm k hk]
      by_cases h3 : k < i ∨ j < k
      · rw [if_pos h3, if_pos (by omega)]
      · rw [if_neg h3, if_neg (by omega)]
theorem RevI.done {bs M : List Int} {i j : Nat} (h : RevI bs i j M) (hij : ¬ (i : Int) < (j : Int)) (hj : i + j = bs.length - 1) : M = bs.reverse := by
  apply List.ext_getElem
  · rw [h.1, List.length_reverse]
  · intro k h1 h2
    have hk : k < bs.length := by rw [← h.1]; exact h1
    have e := h.2 k hk
    rw [List.getElem?_eq_getElem h1] at e
    rw [List.getElem_reverse]
    have e3 : M[k] = bs[bs.length - 1 - k]?.getD 0 := by
      by_cases h3 : k < i ∨ j < k
      · rw [if_pos h3] at e; exact e
      · rw [if_neg h3] at e
        rw [show bs.length - 1 - k = k by omega]; exact e
    rw [e3, List.getElem?_eq_getElem (by omega)]; rfl
end Go.Proofs.YtgfhniiidejmoaaDoor
