/- Contracts of the reference of wide: Div. -/
import Derived.Test.YtgfhniiidejmoaaGreatDoorB21
namespace Go.Proofs.YtgfhniiidejmoaaGreatDoor
open Go.RowKit
set_option linter.unusedVariables false

/-- the boxes of a quotient -/
def DvE (w : World) (A : Option Addr) (n c : Nat) (E : Option Addr) (m f : Nat) (b1 b2 : Bool) (zs ys : List Int) (wr : World) : Prop :=
  Blk2 wr w.heap.size 26 (.bool b1) (.slice A n c) ∧ Blk2 wr (w.heap.size + 1) 26 (.bool b2) (.slice E m f) ∧ Blk2 wr (w.heap.size + 1 + 1) 26 (.bool false) (.slice none 0 0) ∧ Blk2 wr (w.heap.size + 1 + 1 + 1) 26 (.bool false) (.slice none 0 0) ∧
  Sl .i64 wr w.heap.size A n zs ∧ Sl .i64 wr w.heap.size E m ys ∧ Below w.heap.size w wr
theorem DvE.below {w wr w' : World} {A E : Option Addr} {n c m f : Nat} {b1 b2 : Bool} {zs ys : List Int} (h : DvE w A n c E m f b1 b2 zs ys wr) (hb : Below wr.heap.size wr w') : DvE w A n c E m f b1 b2 zs ys w' :=
  have hs := h.2.2.2.2.2.2.size
  ⟨h.1.below hb, h.2.1.below hb, h.2.2.1.below hb, h.2.2.2.1.below hb, h.2.2.2.2.1.below (hb.mono hs), h.2.2.2.2.2.1.below (hb.mono hs), h.2.2.2.2.2.2.trans (hb.mono hs)⟩
theorem DvE.set2 {w wr : World} {A E : Option Addr} {n c m f R : Nat} {b1 b2 : Bool} {zs ys : List Int} {u v : Value} (h : DvE w A n c E m f b1 b2 zs ys wr) (hR : w.heap.size + 1 + 1 + 1 < R) : DvE w A n c E m f b1 b2 zs ys ((wr.setCell ⟨R, 0, none⟩ u).setCell ⟨R, 1, none⟩ v) :=
  have hb : Below (w.heap.size + 1 + 1 + 1 + 1) wr ((wr.setCell ⟨R, 0, none⟩ u).setCell ⟨R, 1, none⟩ v) := ((Below.refl _ _).setCell (p := ⟨R, 0, none⟩) hR _).setCell (p := ⟨R, 1, none⟩) hR _
  have hb0 := hb.mono (show w.heap.size ≤ w.heap.size + 1 + 1 + 1 + 1 by omega)
  ⟨(hb.block _ (by omega)).trans h.1, (hb.block _ (by omega)).trans h.2.1, (hb.block _ (by omega)).trans h.2.2.1, (hb.block _ (by omega)).trans h.2.2.2.1, h.2.2.2.2.1.below hb0, h.2.2.2.2.2.1.below hb0, h.2.2.2.2.2.2.trans hb0⟩
theorem DvE.start (w : World) (A : Option Addr) (n c : Nat) (E : Option Addr) (m f : Nat) (b1 b2 : Bool) (zs ys : List Int) (h : Sl .i64 w w.heap.size A n zs) (k : Sl .i64 w w.heap.size E m ys) :
    ∃ W, W = (((w.alloc (.cells #[.bool b1, .slice A n c] 26)).alloc (.cells #[.bool b2, .slice E m f] 26)).alloc (.cells #[.bool false, .slice none 0 0] 26)).alloc (.cells #[.bool false, .slice none 0 0] 26) ∧ DvE w A n c E m f b1 b2 zs ys W := by
  obtain ⟨W, hW, hB, hS, p1, p2, p3⟩ := boxes3 w 26 (.bool b1) (.slice A n c) (.bool b2) (.slice E m f) (.bool false) (.slice none 0 0)
  refine ⟨_, rfl, ?_⟩
  rw [← hW]
  have hb : Below W.heap.size W (W.alloc (.cells #[.bool false, .slice none 0 0] 26)) := (Below.refl _ _).alloc (Nat.le_refl _) _
  have hn := Blk2.new W 26 (.bool false) (.slice none 0 0)
  rw [hS] at hn
  have hB2 := hB.trans (hb.mono hB.size)
  exact ⟨p1.below hb, p2.below hb, p3.below hb, hn, h.below hB2, k.below hB2, hB2⟩
theorem NRes.alloc {X : Int} {A : Option Addr} {n c : Nat} {l : List Int} {w : World} (h : NRes X A n c l w) (o : Obj) : NRes X A n c l (w.alloc o) := h.below ((Below.refl _ _).alloc (Nat.le_refl _) _)

theorem Blk2.set2 {w : World} {R S : Nat} {t : TypeId} {a b u v : Value} (h : Blk2 w S t a b) (hne : S ≠ R) : Blk2 ((w.setCell ⟨R, 0, none⟩ u).setCell ⟨R, 1, none⟩ v) S t a b := (set2_heap w R u v S hne).trans h
theorem below_set2 {B R : Nat} {a w : World} {u v : Value} (h : Below B a w) (hR : B ≤ R) : Below B a ((w.setCell ⟨R, 0, none⟩ u).setCell ⟨R, 1, none⟩ v) := (h.setCell (p := ⟨R, 0, none⟩) hR _).setCell (p := ⟨R, 1, none⟩) hR _
theorem size_set2 (w : World) (R : Nat) (u v : Value) : ((w.setCell ⟨R, 0, none⟩ u).setCell ⟨R, 1, none⟩ v).heap.size = w.heap.size := by simp [World.setCell]
theorem NRes.stored {X : Int} {A : Option Addr} {n c R : Nat} {l : List Int} {w : World} {u u' : Value} {b0 : Bool} {A0 : Option Addr} {n0 k0 : Nat} {t : TypeId} (h : NRes X A n c l w) (hk : Blk2 w R t (.bool b0) (.slice A0 n0 k0)) : NRes X A n c l ((w.setCell ⟨R, 0, none⟩ u).setCell ⟨R, 1, none⟩ u') :=
  ⟨by rw [size_set2]; exact h.1.off_blk hk (set2_heap _ _ _ _), h.2⟩
theorem RepN.drew {w : World} {B : Nat} {z : Int} {v : Value} (h : RepN w B z v) : RepN w.drew B z v := h
theorem NRes.zero {X : Int} {A : Option Addr} {n c : Nat} {l : List Int} {w : World} (h : NRes X A n c l w) : n = 0 ↔ X = 0 := by
  constructor
  · rintro rfl
    have : l = [] := List.eq_nil_of_length_eq_zero h.1.len
    rw [← h.2.2.2.2.2.2, this]; rfl
  · intro h0
    rcases Nat.eq_zero_or_pos n with h1 | h1
    · exact h1
    · have h2 := top_ge (show (1 : Int) < 10000 by omega) h.2.2.2.2.1 h.2.2.2.2.2.1 (fun e => by have := h.1.len; rw [e] at this; simp at this; omega)
      have h3 := pow_pos' (show (0 : Int) < 10000 by omega) (l.length - 1)
      rw [h.2.2.2.2.2.2] at h2
      omega
end Go.Proofs.YtgfhniiidejmoaaGreatDoor
