/- Rows of one and of two cells; lists taken one longer. No Go text. -/
import Derived.Test.YtgfhniiidejmoaaGreatDoorB02
import Derived.WalkKit
namespace Go.Proofs.YtgfhniiidejmoaaGreatDoor
open Go.RowKit
set_option linter.unusedVariables false

theorem take_snoc_map {α : Type} (f : Int → α) (zs : List Int) (k : Nat) (h : k < zs.length) : (zs.take (k + 1)).map f = (zs.take k).map f ++ [f (zs[k]?.getD 0)] := by
  rw [List.take_succ_eq_append_getElem h, List.getElem?_eq_getElem h, List.map_append]; rfl
theorem take_snoc_id (zs : List Int) (k : Nat) (h : k < zs.length) : zs.take (k + 1) = zs.take k ++ [zs[k]?.getD 0] := by
  rw [List.take_succ_eq_append_getElem h, List.getElem?_eq_getElem h]; rfl
theorem two_cells (k : IntKind) (w : World) (t : TypeId) (a b : Int) : Sl k (w.alloc (.cells #[.int k a, .int k b] t)) (w.alloc (.cells #[.int k a, .int k b] t)).heap.size (some ⟨w.heap.size, 0, none⟩) 2 [a, b] := by
  refine ⟨rfl, .inr ⟨w.heap.size, 0, rfl, by simp, fun j hj => ?_⟩⟩
  have : j = 0 ∨ j = 1 := by omega
  rcases this with rfl | rfl <;> (rw [cell_of_row _ _ _ _ _ _ (heap_alloc_new w _)]; rfl)
theorem one_cell (k : IntKind) (w : World) (t : TypeId) (a : Int) : Sl k (w.alloc (.cells #[.int k a] t)) (w.alloc (.cells #[.int k a] t)).heap.size (some ⟨w.heap.size, 0, none⟩) 1 [a] := by
  refine ⟨rfl, .inr ⟨w.heap.size, 0, rfl, by simp, fun j hj => ?_⟩⟩
  have : j = 0 := by omega
  subst this; rw [cell_of_row _ _ _ _ _ _ (heap_alloc_new w _)]; rfl
end Go.Proofs.YtgfhniiidejmoaaGreatDoor
