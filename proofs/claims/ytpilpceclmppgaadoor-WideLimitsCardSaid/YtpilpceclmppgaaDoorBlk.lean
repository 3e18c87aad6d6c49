/- A block of two cells; what leaves it alone. -/
import Derived.Test.YtpilpceclmppgaaDoorRefB
import Derived.RangeFuncBox
namespace Go.Proofs.YtpilpceclmppgaaDoor
open Go.RowKit
set_option linter.unusedVariables false

/-- block g holds the two cells x, y -/
def Blk2 (w : World) (g : Nat) (t : TypeId) (x y : Value) : Prop := w.heap[g]? = some (.cells #[x, y] t (0, 0))
theorem Blk2.lt {w : World} {g : Nat} {t : TypeId} {x y : Value} (h : Blk2 w g t x y) : g < w.heap.size := (Array.getElem?_eq_some_iff.1 h).1
theorem Blk2.c0 {w : World} {g : Nat} {t : TypeId} {x y : Value} (h : Blk2 w g t x y) : w.cell? ⟨g, 0, none⟩ = some x := by simp [World.cell?, show w.heap[g]? = _ from h]
theorem Blk2.c1 {w : World} {g : Nat} {t : TypeId} {x y : Value} (h : Blk2 w g t x y) : w.cell? ⟨g, 1, none⟩ = some y := by simp [World.cell?, show w.heap[g]? = _ from h]
theorem Blk2.f0 {w : World} {g : Nat} {t : TypeId} {x y : Value} (h : Blk2 w g t x y) : w.frozen? ⟨g, 0, none⟩ = false := by simp [World.frozen?, show w.heap[g]? = _ from h]
theorem Blk2.f1 {w : World} {g : Nat} {t : TypeId} {x y : Value} (h : Blk2 w g t x y) : w.frozen? ⟨g, 1, none⟩ = false := by simp [World.frozen?, show w.heap[g]? = _ from h]
theorem Blk2.new (w : World) (t : TypeId) (x y : Value) : Blk2 (w.alloc (.cells #[x, y] t)) w.heap.size t x y := World.alloc_heap_new w _
theorem Blk2.grown {w w' : World} {g : Nat} {t : TypeId} {x y : Value} {row : Option Nat} (h : Blk2 w g t x y) (hg : w.grownBy w' row) (hne : some g ≠ row) : Blk2 w' g t x y := (hg.block g h.lt hne).trans h
theorem Blk2.below {w w' : World} {g : Nat} {t : TypeId} {x y : Value} (h : Blk2 w g t x y) (hb : Below w.heap.size w w') : Blk2 w' g t x y := (hb.block g h.lt).trans h
theorem Blk2.set0 {w : World} {g : Nat} {t : TypeId} {x y : Value} (h : Blk2 w g t x y) (v : Value) : Blk2 (w.setCell ⟨g, 0, none⟩ v) g t v y := by
  unfold Blk2 at h ⊢
  simp [World.setCell, Array.getElem?_modify, h]
theorem Blk2.set1 {w : World} {g : Nat} {t : TypeId} {x y : Value} (h : Blk2 w g t x y) (v : Value) : Blk2 (w.setCell ⟨g, 1, none⟩ v) g t x v := by
  unfold Blk2 at h ⊢
  simp [World.setCell, Array.getElem?_modify, h]
theorem grown_set (w : World) (g o : Nat) (v : Value) : w.grownBy (w.setCell ⟨g, o, none⟩ v) (some g) :=
  ⟨rfl, rfl, rfl, by simp [World.setCell], fun k _ hk => Below.heap_setCell _ _ _ k (fun e => hk (by rw [e]))⟩
/-- what is new since w may be stored into -/
theorem grown_far {w w3 : World} {row : Option Nat} (h : w.grownBy w3 row) {g j : Nat} {u : Value} (hg : w.heap.size ≤ g) : w.grownBy (w3.setCell ⟨g, j, none⟩ u) row :=
  ⟨h.os, h.tape, h.output, by simpa [World.setCell] using h.size, fun k hk hn => (Below.heap_setCell _ _ _ _ (by simp; omega)).trans (h.block k hk hn)⟩
end Go.Proofs.YtpilpceclmppgaaDoor
