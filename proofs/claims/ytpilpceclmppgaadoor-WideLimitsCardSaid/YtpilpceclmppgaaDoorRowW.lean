/- A row of whole numbers in a block that may be written: its first cells read as a list. No Go text. -/
import Derived.Test.YtpilpceclmppgaaDoorLib
namespace Go.Proofs.YtpilpceclmppgaaDoor
open Go.RowKit
set_option linter.unusedVariables false

/-- the first cells of block g are the numbers l of kind k; none of the block is frozen -/
def RowW (k : IntKind) (w : World) (g : Nat) (t : TypeId) (l : List Int) : Prop :=
  ∃ cur, w.heap[g]? = some (.cells cur t (0, 0)) ∧ l.length ≤ cur.size ∧ cur.toList.take l.length = l.map (Value.int k)
section
variable {k : IntKind} {w w' : World} {g : Nat} {t : TypeId} {l : List Int}
theorem RowW.lt (h : RowW k w g t l) : g < w.heap.size := by
  obtain ⟨cur, h1, _⟩ := h
  exact (Array.getElem?_eq_some_iff.1 h1).1
theorem RowW.cell (h : RowW k w g t l) (i : Nat) (hi : i < l.length) : w.cell? ⟨g, i, none⟩ = some (.int k (l[i]?.getD 0)) := by
  obtain ⟨cur, h1, h2, h3⟩ := h
  have e : (cur.toList.take l.length)[i]? = some (.int k (l[i]?.getD 0)) := by
    rw [h3, List.getElem?_map, List.getElem?_eq_getElem hi]; rfl
  rw [List.getElem?_take, if_pos hi, Array.getElem?_toList] at e
  simp [World.cell?, h1, e]
theorem RowW.free (h : RowW k w g t l) (i : Nat) : w.frozen? ⟨g, i, none⟩ = false := by
  obtain ⟨cur, h1, h2, h3⟩ := h
  simp [World.frozen?, h1]
theorem RowW.set_ (h : RowW k w g t l) (i : Nat) (hi : i < l.length) (v : Int) : RowW k (w.setCell ⟨g, i, none⟩ (.int k v)) g t (l.set i v) := by
  obtain ⟨cur, h1, h2, h3⟩ := h
  refine ⟨cur.setIfInBounds i (.int k v), ?_, by simpa using h2, ?_⟩
  · simp [World.setCell, Array.getElem?_modify, h1]
  · rw [Array.toList_setIfInBounds, List.take_set, List.length_set, h3, List.map_set]
theorem RowW.take (h : RowW k w g t l) (n : Nat) : RowW k w g t (l.take n) := by
  obtain ⟨cur, h1, h2, h3⟩ := h
  refine ⟨cur, h1, by rw [List.length_take]; omega, ?_⟩
  rw [List.length_take, List.map_take, ← h3, List.take_take]
theorem RowW.keep (h : RowW k w g t l) (hb : w'.heap[g]? = w.heap[g]?) : RowW k w' g t l := by
  obtain ⟨cur, h1, h2⟩ := h
  exact ⟨cur, hb.trans h1, h2⟩
theorem RowW.below {B : Nat} (h : RowW k w g t l) (hb : Below B w w') (hg : g < B) : RowW k w' g t l := h.keep (hb.block g hg)
theorem RowW.grown {row : Option Nat} (h : RowW k w g t l) (hb : w.grownBy w' row) (hg : some g ≠ row) : RowW k w' g t l := h.keep (hb.block g h.lt hg)
theorem RowW.drewN (h : RowW k w g t l) (q : Nat) : RowW k (w.drewN q) g t l := h
theorem RowW.drew (h : RowW k w g t l) : RowW k w.drew g t l := h
theorem RowW.alloc (h : RowW k w g t l) (o : Obj) : RowW k (w.alloc o) g t l := h.keep (Below.heap_alloc w o g h.lt)
theorem RowW.far (h : RowW k w g t l) {p : Addr} (hp : g ≠ p.block) (u : Value) : RowW k (w.setCell p u) g t l := h.keep (Below.heap_setCell w p u g hp)
/-- a stretch of it as a slice -/
theorem RowW.sl (h : RowW k w g t l) (off n B : Nat) (hn : off + n ≤ l.length) (hB : g < B) : Sl k w B (some ⟨g, off, none⟩) n ((l.drop off).take n) := by
  refine ⟨by rw [List.length_take, List.length_drop]; omega, .inr ⟨g, off, rfl, hB, fun j hj => ?_⟩⟩
  rw [h.cell (off + j) (by omega), List.getElem?_take, if_pos hj, List.getElem?_drop]
theorem RowW.of_own {base n c : Nat} (h : w.ownsRow base t 1 (.slice (some ⟨g, 0, none⟩) n c) n (l.map (Value.int k))) : RowW k w g t l := by
  have hl : l.length = n := by have := h.1; simpa using this
  rcases h.2 with ⟨h0, _⟩ | ⟨g', cap, cur, hv, hb, hg, hnc, hm, hcs, ht⟩
  · cases h0
  · have hgg : g = g' := by injection hv with h1; injection h1 with h1; injection h1
    subst hgg
    refine ⟨cur, hg, by omega, ?_⟩
    rw [hl, ← ht, Nat.mul_one]
/-- two rows whose elements differ in type are two blocks -/
theorem RowW.ne_of {t' : TypeId} {l' : List Int} {k' : IntKind} {g' : Nat} (h : RowW k w g t l) (h' : RowW k' w g' t' l') (hne : t ≠ t') : g ≠ g' := by
  rintro rfl
  obtain ⟨cur, h1, _⟩ := h
  obtain ⟨cur', h1', _⟩ := h'
  rw [h1] at h1'
  injection h1' with h1'
  injection h1' with _ ht
  exact hne ht
end
end Go.Proofs.YtpilpceclmppgaaDoor
