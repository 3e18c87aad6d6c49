/- A slice of whole numbers that reads as a list; small laws on worlds. No Go text. · A row of whole numbers in a block that may be written: its first cells read as a list. No Go text. -/
import Derived.Below
import Derived.Laws.OwnMore
import Derived.Deep.Draws
import Derived.OneCell
import Derived.RowKit3
import Derived.Laws.AppendOwn
namespace Go.Proofs.YtgfhniiidejmoaaGreatDoor
open Go.RowKit

/-- the slice value '.slice A n c' leads to the n numbers zs of kind k, in a block below B -/
def Sl (k : IntKind) (w : World) (B : Nat) (A : Option Addr) (n : Nat) (zs : List Int) : Prop :=
  zs.length = n ∧ (n = 0 ∨ ∃ b off, A = some ⟨b, off, none⟩ ∧ b < B ∧ ∀ j, j < n → w.cell? ⟨b, off + j, none⟩ = some (.int k (zs[j]?.getD 0)))

theorem Sl.nil (k : IntKind) (w : World) (B : Nat) (A : Option Addr) : Sl k w B A 0 [] := ⟨rfl, .inl rfl⟩
theorem Sl.len {k : IntKind} {w : World} {B n : Nat} {A : Option Addr} {zs : List Int} (h : Sl k w B A n zs) : zs.length = n := h.1
theorem Sl.at_ {k : IntKind} {w : World} {B n : Nat} {A : Option Addr} {zs : List Int} (h : Sl k w B A n zs) (hn : 0 < n) :
    ∃ b off, A = some ⟨b, off, none⟩ ∧ b < B ∧ ∀ j, j < n → w.cell? ⟨b, off + j, none⟩ = some (.int k (zs[j]?.getD 0)) := by
  rcases h.2 with h0 | h1
  · omega
  · exact h1
theorem Sl.below {k : IntKind} {w w' : World} {B n : Nat} {A : Option Addr} {zs : List Int} (h : Sl k w B A n zs) (hb : Below B w w') : Sl k w' B A n zs := by
  refine ⟨h.1, ?_⟩
  rcases h.2 with h0 | ⟨b, off, rfl, hlt, hc⟩
  · exact .inl h0
  · exact .inr ⟨b, off, rfl, hlt, fun j hj => (hb.cell (p := ⟨b, off + j, none⟩) hlt).trans (hc j hj)⟩
theorem Sl.more {k : IntKind} {w : World} {B B' n : Nat} {A : Option Addr} {zs : List Int} (h : Sl k w B A n zs) (hb : B ≤ B') : Sl k w B' A n zs := by
  refine ⟨h.1, ?_⟩
  rcases h.2 with h0 | ⟨b, off, rfl, hlt, hc⟩
  · exact .inl h0
  · exact .inr ⟨b, off, rfl, by omega, hc⟩
/-- the first m of them -/
theorem Sl.take {k : IntKind} {w : World} {B n : Nat} {A : Option Addr} {zs : List Int} (h : Sl k w B A n zs) (m : Nat) (hm : m ≤ n) : Sl k w B A m (zs.take m) := by
  refine ⟨by rw [List.length_take, h.1]; omega, ?_⟩
  rcases h.2 with h0 | ⟨b, off, rfl, hlt, hc⟩
  · exact .inl (by omega)
  · refine .inr ⟨b, off, rfl, hlt, fun j hj => ?_⟩
    rw [hc j (by omega), List.getElem?_take, if_pos hj]

theorem add_lit (g i j : Nat) : (⟨g, i, none⟩ : Addr).add j = ⟨g, i + j, none⟩ := by
  unfold Addr.add
  by_cases h : j = 0
  · subst h; rfl
  · simp

/-- a row of the call's own, read as numbers -/
theorem Sl.of_own {k : IntKind} {w : World} {base n : Nat} {e : TypeId} {v : Value} {zs : List Int} (h : w.ownsRow base e 1 v n (zs.map (Value.int k))) :
    ∃ A c, v = .slice A n c ∧ n ≤ c ∧ c ≤ maxLen ∧ Sl k w w.heap.size A n zs := by
  have hl : zs.length = n := by have := h.1; simpa using this
  rcases h.2 with ⟨rfl, rfl⟩ | ⟨g, cap, cur, rfl, hb, hg, hnc, hm, hcs, ht⟩
  · exact ⟨none, 0, rfl, Nat.le_refl _, Nat.zero_le _, hl, .inl rfl⟩
  · refine ⟨_, cap, rfl, hnc, hm, hl, .inr ⟨g, 0, rfl, ?_, fun j hj => ?_⟩⟩
    · exact (Array.getElem?_eq_some_iff.1 hg).1
    · have hc := h.cells (g := g) rfl j (.int k (zs[j]?.getD 0)) (by
        rw [List.getElem?_map, List.getElem?_eq_getElem (by omega)]; simp)
      rwa [add_lit] at hc

/-- what lay below the row's base lies as it lay when the row has grown -/
theorem below_of_grown {w w' : World} {B : Nat} {row : Option Nat} (hg : w.grownBy w' row) (hB : B ≤ w.heap.size) (hr : ∀ g, row = some g → B ≤ g) : Below B w w' :=
  ⟨hg.os, hg.tape, hg.output, hg.size, fun i hi => hg.block i (by omega) (fun e => by have := hr _ e.symm; omega)⟩

theorem below_drewN {B : Nat} {a w : World} (h : Below B a w) (n : Nat) : Below B a (w.drewN n) := ⟨h.os, h.tape, h.output, h.size, h.block⟩
theorem Sl.drewN {k : IntKind} {w : World} {B n : Nat} {A : Option Addr} {zs : List Int} (h : Sl k w B A n zs) (q : Nat) : Sl k (w.drewN q) B A n zs := h
end Go.Proofs.YtgfhniiidejmoaaGreatDoor
namespace Go.Proofs.YtgfhniiidejmoaaGreatDoor
open Go.RowKit
set_option linter.unusedVariables false

/-- the first cells of block g are the numbers l of kind k; none of the block is frozen -/
def RowW (k : IntKind) (w : World) (g : Nat) (t : TypeId) (l : List Int) : Prop :=
  ∃ cur, w.heap[g]? = some (.cells cur t (0, 0)) ∧ l.length ≤ cur.size ∧ cur.toList.take l.length = l.map (Value.int k)
section
variable {k : IntKind} {w w' : World} {g : Nat} {t : TypeId} {l : List Int}
theorem RowW.lt (h : RowW k w g t l) : g < w.heap.size := by
  obtain ⟨cur, h1, _⟩ := h
  exact (Array.getElem?_eq_some_iff.1 h1).1
theorem RowW.cell (h : RowW k w g t l) (i : Nat) (hi : i < l.length) : w.cell? ⟨g, i, none⟩ = some (.int k (l[i]?.getD 0)) := by
  obtain ⟨cur, h1, h2, h3⟩ := h
  have e : (cur.toList.take l.length)[i]? = some (.int k (l[i]?.getD 0)) := by
    rw [h3, List.getElem?_map, List.getElem?_eq_getElem hi]; rfl
  rw [List.getElem?_take, if_pos hi, Array.getElem?_toList] at e
  simp [World.cell?, h1, e]
theorem RowW.free (h : RowW k w g t l) (i : Nat) : w.frozen? ⟨g, i, none⟩ = false := by
  obtain ⟨cur, h1, h2, h3⟩ := h
  simp [World.frozen?, h1]
theorem RowW.set_ (h : RowW k w g t l) (i : Nat) (hi : i < l.length) (v : Int) : RowW k (w.setCell ⟨g, i, none⟩ (.int k v)) g t (l.set i v) := by
  obtain ⟨cur, h1, h2, h3⟩ := h
  refine ⟨cur.setIfInBounds i (.int k v), ?_, by simpa using h2, ?_⟩
  · simp [World.setCell, Array.getElem?_modify, h1]
  · rw [Array.toList_setIfInBounds, List.take_set, List.length_set, h3, List.map_set]
theorem RowW.take (h : RowW k w g t l) (n : Nat) : RowW k w g t (l.take n) := by
  obtain ⟨cur, h1, h2, h3⟩ := h
  refine ⟨cur, h1, by rw [List.length_take]; omega, ?_⟩
  rw [List.length_take, List.map_take, ← h3, List.take_take]
theorem RowW.keep (h : RowW k w g t l) (hb : w'.heap[g]? = w.heap[g]?) : RowW k w' g t l := by
  obtain ⟨cur, h1, h2⟩ := h
  exact ⟨cur, hb.trans h1, h2⟩
theorem RowW.below {B : Nat} (h : RowW k w g t l) (hb : Below B w w') (hg : g < B) : RowW k w' g t l := h.keep (hb.block g hg)
theorem RowW.grown {row : Option Nat} (h : RowW k w g t l) (hb : w.grownBy w' row) (hg : some g ≠ row) : RowW k w' g t l := h.keep (hb.block g h.lt hg)
theorem RowW.drewN (h : RowW k w g t l) (q : Nat) : RowW k (w.drewN q) g t l := h
theorem RowW.drew (h : RowW k w g t l) : RowW k w.drew g t l := h
theorem RowW.alloc (h : RowW k w g t l) (o : Obj) : RowW k (w.alloc o) g t l := h.keep (Below.heap_alloc w o g h.lt)
theorem RowW.far (h : RowW k w g t l) {p : Addr} (hp : g ≠ p.block) (u : Value) : RowW k (w.setCell p u) g t l := h.keep (Below.heap_setCell w p u g hp)
/-- a stretch of it as a slice -/
theorem RowW.sl (h : RowW k w g t l) (off n B : Nat) (hn : off + n ≤ l.length) (hB : g < B) : Sl k w B (some ⟨g, off, none⟩) n ((l.drop off).take n) := by
  refine ⟨by rw [List.length_take, List.length_drop]; omega, .inr ⟨g, off, rfl, hB, fun j hj => ?_⟩⟩
  rw [h.cell (off + j) (by omega), List.getElem?_take, if_pos hj, List.getElem?_drop]
theorem RowW.of_own {base n c : Nat} (h : w.ownsRow base t 1 (.slice (some ⟨g, 0, none⟩) n c) n (l.map (Value.int k))) : RowW k w g t l := by
  have hl : l.length = n := by have := h.1; simpa using this
  rcases h.2 with ⟨h0, _⟩ | ⟨g', cap, cur, hv, hb, hg, hnc, hm, hcs, ht⟩
  · cases h0
  · have hgg : g = g' := by injection hv with h1; injection h1 with h1; injection h1
    subst hgg
    refine ⟨cur, hg, by omega, ?_⟩
    rw [hl, ← ht, Nat.mul_one]
end
end Go.Proofs.YtgfhniiidejmoaaGreatDoor
