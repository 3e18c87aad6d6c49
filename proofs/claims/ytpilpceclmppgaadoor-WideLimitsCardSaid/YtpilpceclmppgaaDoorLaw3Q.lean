/- Layer 3's laws: rows of wide.Ints and of error numbers. -/
import Derived.Test.YtpilpceclmppgaaDoorLaw3P
namespace Go.Proofs.YtpilpceclmppgaaDoor
open Go.RowKit
set_option linter.unusedVariables false

/-- block g holds wide.Ints L, one behind the other -/
def ArrI (W : World) (g : Nat) (L : List Int) : Prop := g < W.heap.size ∧ ∀ i : Nat, i < L.length → ∃ d A n c, W.cell? ⟨g, i * 2, none⟩ = some (.bool d) ∧ W.cell? ⟨g, i * 2 + 1, none⟩ = some (.slice A n c) ∧ RepI W W.heap.size (L[i]?.getD 0) (.agg #[.bool d, .slice A n c])
theorem ArrI.below {W W' : World} {g : Nat} {L : List Int} (h : ArrI W g L) (hb : Below W.heap.size W W') : ArrI W' g L := by
  obtain ⟨h1, h2⟩ := h
  refine ⟨Nat.lt_of_lt_of_le h1 hb.size, fun i hi => ?_⟩
  obtain ⟨d, A, n, c, a1, a2, a3⟩ := h2 i hi
  exact ⟨d, A, n, c, (hb.cell (p := ⟨g, i * 2, none⟩) h1).trans a1, (hb.cell (p := ⟨g, i * 2 + 1, none⟩) h1).trans a2, a3.step hb⟩
/-- element i of a row of wide.Ints is z -/
def HoldF (W : World) (g i : Nat) (z : Int) (d : Bool) (A : Option Addr) (n c : Nat) : Prop := g < W.heap.size ∧ W.cell? ⟨g, i * 2, none⟩ = some (.bool d) ∧ W.cell? ⟨g, i * 2 + 1, none⟩ = some (.slice A n c) ∧ RepI W W.heap.size z (.agg #[.bool d, .slice A n c])
theorem HoldF.below {W W' : World} {g i : Nat} {z : Int} {d : Bool} {A : Option Addr} {n c : Nat} (h : HoldF W g i z d A n c) (hb : Below W.heap.size W W') : HoldF W' g i z d A n c :=
  ⟨Nat.lt_of_lt_of_le h.1 hb.size, (hb.cell (p := ⟨g, i * 2, none⟩) h.1).trans h.2.1, (hb.cell (p := ⟨g, i * 2 + 1, none⟩) h.1).trans h.2.2.1, h.2.2.2.step hb⟩
theorem HoldF.c0 {W : World} {g i : Nat} {z : Int} {d : Bool} {A : Option Addr} {n c : Nat} (h : HoldF W g i z d A n c) : W.cell? ⟨g, i * 2, none⟩ = some (.bool d) := h.2.1
theorem HoldF.c1 {W : World} {g i : Nat} {z : Int} {d : Bool} {A : Option Addr} {n c : Nat} (h : HoldF W g i z d A n c) : W.cell? ⟨g, i * 2 + 1, none⟩ = some (.slice A n c) := h.2.2.1
theorem ArrI.get {W : World} {g : Nat} {L : List Int} (h : ArrI W g L) (i : Nat) (hi : i < L.length) : ∃ d A n c, HoldF W g i (L[i]?.getD 0) d A n c := by
  obtain ⟨d, A, n, c, h1, h2, h3⟩ := h.2 i hi
  exact ⟨d, A, n, c, h.1, h1, h2, h3⟩
section
variable {W : World} {z1 z2 z3 z4 : Int} {d1 d2 d3 d4 : Bool} {A1 A2 A3 A4 : Option Addr} {n1 c1 n2 c2 n3 c3 n4 c4 : Nat} (t : TypeId)
theorem ArrI.new4 (h1 : RepI W W.heap.size z1 (.agg #[.bool d1, .slice A1 n1 c1])) (h2 : RepI W W.heap.size z2 (.agg #[.bool d2, .slice A2 n2 c2])) (h3 : RepI W W.heap.size z3 (.agg #[.bool d3, .slice A3 n3 c3])) (h4 : RepI W W.heap.size z4 (.agg #[.bool d4, .slice A4 n4 c4])) :
    ArrI (W.alloc (.cells #[.bool d1, .slice A1 n1 c1, .bool d2, .slice A2 n2 c2, .bool d3, .slice A3 n3 c3, .bool d4, .slice A4 n4 c4] t)) W.heap.size [z1, z2, z3, z4] := by
  refine ⟨by rw [World.size_alloc]; omega, fun i hi => ?_⟩
  have hb := al_below W (.cells #[.bool d1, .slice A1 n1 c1, .bool d2, .slice A2 n2 c2, .bool d3, .slice A3 n3 c3, .bool d4, .slice A4 n4 c4] t)
  have hn : (W.alloc (.cells #[.bool d1, .slice A1 n1 c1, .bool d2, .slice A2 n2 c2, .bool d3, .slice A3 n3 c3, .bool d4, .slice A4 n4 c4] t)).heap[W.heap.size]? = some (.cells #[.bool d1, .slice A1 n1 c1, .bool d2, .slice A2 n2 c2, .bool d3, .slice A3 n3 c3, .bool d4, .slice A4 n4 c4] t (0, 0)) := World.alloc_heap_new _ _
  have : i = 0 ∨ i = 1 ∨ i = 2 ∨ i = 3 := by simp at hi; omega
  rcases this with rfl | rfl | rfl | rfl
  · exact ⟨_, _, _, _, cell_at hn rfl, cell_at hn rfl, h1.step hb⟩
  · exact ⟨_, _, _, _, cell_at hn rfl, cell_at hn rfl, h2.step hb⟩
  · exact ⟨_, _, _, _, cell_at hn rfl, cell_at hn rfl, h3.step hb⟩
  · exact ⟨_, _, _, _, cell_at hn rfl, cell_at hn rfl, h4.step hb⟩
end
/-- block g holds the error numbers L -/
def ArrU (W : World) (g : Nat) (L : List Int) : Prop := g < W.heap.size ∧ ∀ i : Nat, i < L.length → W.cell? ⟨g, i, none⟩ = some (.int .i64 (L[i]?.getD 0))
theorem ArrU.below {W W' : World} {g : Nat} {L : List Int} (h : ArrU W g L) (hb : Below W.heap.size W W') : ArrU W' g L :=
  ⟨Nat.lt_of_lt_of_le h.1 hb.size, fun i hi => (hb.cell (p := ⟨g, i, none⟩) h.1).trans (h.2 i hi)⟩
theorem ArrU.new4 (W : World) (t : TypeId) (a b c d : Int) : ArrU (W.alloc (.cells #[.int .i64 a, .int .i64 b, .int .i64 c, .int .i64 d] t)) W.heap.size [a, b, c, d] := by
  refine ⟨by rw [World.size_alloc]; omega, fun i hi => ?_⟩
  have hn : (W.alloc (.cells #[.int .i64 a, .int .i64 b, .int .i64 c, .int .i64 d] t)).heap[W.heap.size]? = some (.cells #[.int .i64 a, .int .i64 b, .int .i64 c, .int .i64 d] t (0, 0)) := World.alloc_heap_new _ _
  have : i = 0 ∨ i = 1 ∨ i = 2 ∨ i = 3 := by simp at hi; omega
  rcases this with rfl | rfl | rfl | rfl <;> exact cell_at hn rfl
theorem map_get (f : Int → Int) (L : List Int) (i : Nat) (hi : i < L.length) : (L.map f)[i]?.getD 0 = f (L[i]?.getD 0) := by
  rw [List.getElem?_map, List.getElem?_eq_getElem hi]
  rfl
theorem fit_out {z : Int} (h : ¬ (z.natAbs : Int) < lim) : fitI z = 0 ∧ fitE z = 4 := by unfold fitI fitE; rw [if_neg h, if_neg h]; exact ⟨rfl, rfl⟩
/-- Near at any index -/
def NearB (w : World) (en : Ending) (w' : World) : Prop := ∃ z, Hid (Bits 16385 z) ∧ NewN z w en w'
theorem near_big (n : Int) (w : World) (h0 : -9223372036854775808 ≤ n) (h1 : n ≤ 9223372036854775807) :
    Calls Tryd.prog 24 #[.int .i64 n] w (NearB w) := by
  refine (near_any n w h0 h1).mono fun _ _ ⟨z, hz, h⟩ => ⟨z, Lib.hid ?_, h⟩
  obtain ⟨E, hE⟩ : ∃ E, nearE ((aroundI n 28).toNat % 4) = E := ⟨_, rfl⟩
  have hb : 3 ≤ E ∧ E ≤ 16384 := by rw [← hE]; unfold nearE; split <;> (try split) <;> (try split) <;> omega
  rw [hE] at hz
  exact (near_bits hz hb.1).mono (by omega)
/-- a number that WideLimits compares -/
def InB (z : Int) : Prop := Bits 20000 z
theorem InB.fits {z : Int} (h : InB z) : Bits 200000 z := Bits.mono (show Bits 20000 z from h) (by omega)
theorem lim_text {z : Int} (h : Bits 16385 z) : ∃ p : Int, ∃ er : Nat, parseT (decT z) = (p, er) ∧ (((z.natAbs : Int) < lim ∧ p = z ∧ er = 0) ∨ (¬ (z.natAbs : Int) < lim ∧ p = 0 ∧ er = 4)) := by
  by_cases hz : (z.natAbs : Int) < lim
  · exact ⟨z, 0, read_back hz, .inl ⟨hz, rfl, rfl⟩⟩
  · exact ⟨0, 4, parse_far hz h, .inr ⟨hz, rfl, rfl⟩⟩
theorem strB_list (l : List UInt8) : (strB l).data.toList = l := by simp [strB]
theorem text_size {z : Int} (h : Bits 16385 z) : (strB (decT z)).size ≤ maxLen := by
  have h1 := dec_bits h
  have h2 : (strB (decT z)).size = (decT z).length := by simp [strB, ByteArray.size]
  unfold maxLen
  omega
end Go.Proofs.YtpilpceclmppgaaDoor
