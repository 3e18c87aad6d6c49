/- Layer 3's laws: calls inside regions that draw their order: each gives back whatever stays true. · Fractions: sums, products, powers and the order of rational numbers in lowest terms. No Go text. · Layer 3's laws: rows of the reference's integers; integers near a bound. · Layer 3's laws: rows of strings; texts that are read. · Texts of fractions. No Go text. · Fractions in memory: boxes of four cells, the program's fractions and the reference's. -/
import Derived.Test.YtgfhniiidejmoaaGreatDoorB36
import Derived.Test.YtgfhniiidejmoaaGreatDoorB14
namespace Go.Proofs.YtgfhniiidejmoaaGreatDoor
open Go.RowKit
set_option linter.unusedVariables false

section
variable {W : World} {p g : Nat} {z : Int} {d b0 : Bool} {A A1 : Option Addr} {n c n1 k1 : Nat} {t : TypeId} {u u' : Value}
theorem HoldN.off (h : HoldN W p z d A n c) (hk : Blk2 W g t (.bool b0) (.slice A1 n1 k1)) (hne : p ≠ g) : HoldN ((W.setCell ⟨g, 0, none⟩ u).setCell ⟨g, 1, none⟩ u') p z d A n c :=
  ⟨(set2_heap W g u u' p hne).trans h.1, by rw [size_set2]; exact h.2.stored hk⟩
theorem HoldI.off (h : HoldI W p z d A n c) (hk : Blk2 W g t (.bool b0) (.slice A1 n1 k1)) (hne : p ≠ g) : HoldI ((W.setCell ⟨g, 0, none⟩ u).setCell ⟨g, 1, none⟩ u') p z d A n c :=
  ⟨(set2_heap W g u u' p hne).trans h.1, by rw [size_set2]; exact h.2.stored hk⟩
theorem InI.off {zs : List Int} (h : InI W A n zs) (hk : Blk2 W g t (.bool b0) (.slice A1 n1 k1)) : InI ((W.setCell ⟨g, 0, none⟩ u).setCell ⟨g, 1, none⟩ u') A n zs :=
  ⟨by rw [size_set2]; exact h.1.off_blk hk (set2_heap _ _ _ _), h.2⟩
theorem HoldN.made (h : RepN W W.heap.size z (.agg #[.bool d, .slice A n c])) (hk : Blk2 W g 26 (.bool b0) (.slice A1 n1 k1)) : HoldN ((W.setCell ⟨g, 0, none⟩ (.bool d)).setCell ⟨g, 1, none⟩ (.slice A n c)) g z d A n c :=
  ⟨(hk.set0 _).set1 _, by rw [size_set2]; exact h.stored hk⟩
theorem HoldI.made (h : RepI W W.heap.size z (.agg #[.bool d, .slice A n c])) (hk : Blk2 W g 36 (.bool b0) (.slice A1 n1 k1)) : HoldI ((W.setCell ⟨g, 0, none⟩ (.bool d)).setCell ⟨g, 1, none⟩ (.slice A n c)) g z d A n c :=
  ⟨(hk.set0 _).set1 _, by rw [size_set2]; exact h.stored hk⟩
theorem below_off {w0 : World} (h : Below w0.heap.size w0 W) (hg : w0.heap.size ≤ g) : Below w0.heap.size w0 ((W.setCell ⟨g, 0, none⟩ u).setCell ⟨g, 1, none⟩ u') :=
  (h.setCell (p := ⟨g, 0, none⟩) hg _).setCell (p := ⟨g, 1, none⟩) hg _
theorem HoldN.lt (h : HoldN W p z d A n c) : p < W.heap.size := h.1.lt
theorem HoldI.lt (h : HoldI W p z d A n c) : p < W.heap.size := h.1.lt
end
theorem isign_lim (x : Int) (u : Value) (w : World) (hx : RepI w w.heap.size x u) (bx : (x.natAbs : Int) < lim) (r : Int) (hr : cmpI' x 0 = r) :
    Calls Tryz.prog 17 #[u] w fun e w' => e = .returned (.int .i64 r) ∧ Below w.heap.size w w' := by
  obtain ⟨N, hN, h1⟩ := fit_pow bx
  have := isign_any x u w hx N (by omega) h1
  unfold CmpU at this
  rwa [hr] at this
theorem icompare_lim (x y : Int) (u v : Value) (w : World) (hx : RepI w w.heap.size x u) (hy : RepI w w.heap.size y v) (bx : (x.natAbs : Int) < lim) (by_ : (y.natAbs : Int) < lim) (r : Int) (hr : cmpI' x y = r) :
    Calls Tryz.prog 18 #[u, v] w fun e w' => e = .returned (.int .i64 r) ∧ Below w.heap.size w w' := by
  obtain ⟨N, hN, h1⟩ := fit_pow bx
  obtain ⟨M, hM, h2⟩ := fit_pow by_
  subst hM
  subst hN
  have := icompare_any x y u v w hx hy 512 (by omega) h1 h2
  unfold CmpU at this
  rwa [hr] at this
section
variable {S : World → Prop} {W : World}
end
/-- a generated integer -/
def Num (z : Int) : Prop := Bits 310 z
theorem Num.bits {z : Int} (h : Num z) (k : Nat) (hk : 310 ≤ k) : Bits k z := Bits.mono h hk
theorem Num.mul {x y : Int} (hx : Num x) (hy : Num y) : Bits 620 (x * y) := (Bits.mul (show Bits 310 x from hx) (show Bits 310 y from hy)).mono (by omega)
theorem Num.add {x y : Int} (hx : Num x) (hy : Num y) : Bits 311 (x + y) := (Bits.add (show Bits 310 x from hx) (show Bits 310 y from hy)).mono (by omega)
/-- a product of two generated integers -/
def Num2 (z : Int) : Prop := Bits 620 z
theorem Num2.bits {z : Int} (h : Num2 z) (k : Nat) (hk : 620 ≤ k) : Bits k z := Bits.mono h hk
theorem Num.two {x y : Int} (hx : Num x) (hy : Num y) : Num2 (x * y) := hx.mul hy
end Go.Proofs.YtgfhniiidejmoaaGreatDoor
namespace Go.Proofs.YtgfhniiidejmoaaGreatDoor
open Go.RowKit
set_option linter.unusedVariables false

end Go.Proofs.YtgfhniiidejmoaaGreatDoor
namespace Go.Proofs.YtgfhniiidejmoaaGreatDoor
open Go.RowKit
set_option linter.unusedVariables false

theorem cell_at {W : World} {g o : Nat} {cs : Array Value} {t : TypeId} {v : Value} (h : W.heap[g]? = some (.cells cs t (0, 0))) (hv : cs[o]? = some v) : W.cell? ⟨g, o, none⟩ = some v := by
  simp [World.cell?, h, hv]
/-- block g holds the reference's integers L, one behind the other -/
def ArrN (W : World) (g : Nat) (L : List Int) : Prop := g < W.heap.size ∧ ∀ i : Nat, i < L.length → ∃ d A n c, W.cell? ⟨g, i * 2, none⟩ = some (.bool d) ∧ W.cell? ⟨g, i * 2 + 1, none⟩ = some (.slice A n c) ∧ RepN W W.heap.size (L[i]?.getD 0) (.agg #[.bool d, .slice A n c])
theorem ArrN.below {W W' : World} {g : Nat} {L : List Int} (h : ArrN W g L) (hb : Below W.heap.size W W') : ArrN W' g L := by
  obtain ⟨h1, h2⟩ := h
  refine ⟨Nat.lt_of_lt_of_le h1 hb.size, fun i hi => ?_⟩
  obtain ⟨d, A, n, c, a1, a2, a3⟩ := h2 i hi
  exact ⟨d, A, n, c, (hb.cell (p := ⟨g, i * 2, none⟩) h1).trans a1, (hb.cell (p := ⟨g, i * 2 + 1, none⟩) h1).trans a2, a3.step hb⟩
/-- element i of a row of the reference's integers is z -/
def HoldE (W : World) (g i : Nat) (z : Int) (d : Bool) (A : Option Addr) (n c : Nat) : Prop := g < W.heap.size ∧ W.cell? ⟨g, i * 2, none⟩ = some (.bool d) ∧ W.cell? ⟨g, i * 2 + 1, none⟩ = some (.slice A n c) ∧ RepN W W.heap.size z (.agg #[.bool d, .slice A n c])
theorem HoldE.below {W W' : World} {g i : Nat} {z : Int} {d : Bool} {A : Option Addr} {n c : Nat} (h : HoldE W g i z d A n c) (hb : Below W.heap.size W W') : HoldE W' g i z d A n c :=
  ⟨Nat.lt_of_lt_of_le h.1 hb.size, (hb.cell (p := ⟨g, i * 2, none⟩) h.1).trans h.2.1, (hb.cell (p := ⟨g, i * 2 + 1, none⟩) h.1).trans h.2.2.1, h.2.2.2.step hb⟩
theorem HoldE.c0 {W : World} {g i : Nat} {z : Int} {d : Bool} {A : Option Addr} {n c : Nat} (h : HoldE W g i z d A n c) : W.cell? ⟨g, i * 2, none⟩ = some (.bool d) := h.2.1
theorem HoldE.c1 {W : World} {g i : Nat} {z : Int} {d : Bool} {A : Option Addr} {n c : Nat} (h : HoldE W g i z d A n c) : W.cell? ⟨g, i * 2 + 1, none⟩ = some (.slice A n c) := h.2.2.1
theorem ArrN.get {W : World} {g : Nat} {L : List Int} (h : ArrN W g L) (i : Nat) (hi : i < L.length) : ∃ d A n c, HoldE W g i (L[i]?.getD 0) d A n c := by
  obtain ⟨d, A, n, c, h1, h2, h3⟩ := h.2 i hi
  exact ⟨d, A, n, c, h.1, h1, h2, h3⟩
section
variable {W : World} {z1 z2 z3 z4 : Int} {d1 d2 d3 d4 : Bool} {A1 A2 A3 A4 : Option Addr} {n1 c1 n2 c2 n3 c3 n4 c4 : Nat} (t : TypeId)
end
section
variable {W : World} {p g i : Nat} {z : Int} {d b0 : Bool} {A A1 : Option Addr} {n c n1 k1 : Nat} {t : TypeId} {u u' : Value} {L : List Int}
theorem HoldE.lt (h : HoldE W p i z d A n c) : p < W.heap.size := h.1
theorem HoldE.off (h : HoldE W p i z d A n c) (hk : Blk2 W g t (.bool b0) (.slice A1 n1 k1)) (hne : p ≠ g) : HoldE ((W.setCell ⟨g, 0, none⟩ u).setCell ⟨g, 1, none⟩ u') p i z d A n c :=
  ⟨by rw [size_set2]; exact h.1, cell_set2 h.2.1 hne, cell_set2 h.2.2.1 hne, by rw [size_set2]; exact h.2.2.2.stored hk⟩
theorem ArrN.off (h : ArrN W p L) (hk : Blk2 W g t (.bool b0) (.slice A1 n1 k1)) (hne : p ≠ g) : ArrN ((W.setCell ⟨g, 0, none⟩ u).setCell ⟨g, 1, none⟩ u') p L := by
  refine ⟨by rw [size_set2]; exact h.1, fun i hi => ?_⟩
  obtain ⟨d, A, n, c, a1, a2, a3⟩ := h.2 i hi
  exact ⟨d, A, n, c, cell_set2 a1 hne, cell_set2 a2 hne, by rw [size_set2]; exact a3.stored hk⟩
theorem Blk2.off {tt : TypeId} {x y : Value} (h : Blk2 W p tt x y) (hne : p ≠ g) : Blk2 ((W.setCell ⟨g, 0, none⟩ u).setCell ⟨g, 1, none⟩ u') p tt x y := (set2_heap W g u u' p hne).trans h
end
theorem undrew {w w' : World} (h : Below w.drew.heap.size w.drew w') : Below w.heap.size w w' := ⟨h.os, h.tape, h.output, h.size, h.block⟩
section
variable {W : World} {q r : Int} {d d' b1 b2 : Bool} {A A' A1 A2 : Option Addr} {n c n' c' n1 k1 n2 k2 g g' : Nat}
end
end Go.Proofs.YtgfhniiidejmoaaGreatDoor
namespace Go.Proofs.YtgfhniiidejmoaaGreatDoor
open Go.RowKit
set_option linter.unusedVariables false

/-- block g holds five strings -/
def ArrS (W : World) (g : Nat) : Prop := g < W.heap.size ∧ ∀ i : Nat, i < 5 → ∃ s : ByteArray, W.cell? ⟨g, i, none⟩ = some (.string s) ∧ s.size ≤ maxLen
theorem ArrS.below {W W' : World} {g : Nat} (h : ArrS W g) (hb : Below W.heap.size W W') : ArrS W' g := by
  obtain ⟨h1, h2⟩ := h
  refine ⟨Nat.lt_of_lt_of_le h1 hb.size, fun i hi => ?_⟩
  obtain ⟨s, a1, a2⟩ := h2 i hi
  exact ⟨s, (hb.cell (p := ⟨g, i, none⟩) h1).trans a1, a2⟩
theorem ArrS.new (W : World) (t : TypeId) (s0 s1 s2 s3 s4 : ByteArray) (h0 : s0.size ≤ maxLen) (h1 : s1.size ≤ maxLen) (h2 : s2.size ≤ maxLen) (h3 : s3.size ≤ maxLen) (h4 : s4.size ≤ maxLen) :
    ArrS (W.alloc (.cells #[.string s0, .string s1, .string s2, .string s3, .string s4] t)) W.heap.size := by
  refine ⟨by rw [World.size_alloc]; omega, fun i hi => ?_⟩
  have hn : (W.alloc (.cells #[.string s0, .string s1, .string s2, .string s3, .string s4] t)).heap[W.heap.size]? = some (.cells #[.string s0, .string s1, .string s2, .string s3, .string s4] t (0, 0)) := World.alloc_heap_new _ _
  have : i = 0 ∨ i = 1 ∨ i = 2 ∨ i = 3 ∨ i = 4 := by omega
  rcases this with rfl | rfl | rfl | rfl | rfl
  · exact ⟨_, cell_at hn rfl, h0⟩
  · exact ⟨_, cell_at hn rfl, h1⟩
  · exact ⟨_, cell_at hn rfl, h2⟩
  · exact ⟨_, cell_at hn rfl, h3⟩
  · exact ⟨_, cell_at hn rfl, h4⟩
end Go.Proofs.YtgfhniiidejmoaaGreatDoor
namespace Go.Proofs.YtgfhniiidejmoaaGreatDoor
open Go.RowKit
set_option linter.unusedVariables false

end Go.Proofs.YtgfhniiidejmoaaGreatDoor
namespace Go.Proofs.YtgfhniiidejmoaaGreatDoor
open Go.RowKit
set_option linter.unusedVariables false

/-- block g holds the four cells -/
def Blk4 (w : World) (g : Nat) (t : TypeId) (x y z u : Value) : Prop := w.heap[g]? = some (.cells #[x, y, z, u] t (0, 0))
section
variable {w w' : World} {g : Nat} {t : TypeId} {x y z u : Value}
theorem Blk4.lt (h : Blk4 w g t x y z u) : g < w.heap.size := (Array.getElem?_eq_some_iff.1 h).1
theorem Blk4.c0 (h : Blk4 w g t x y z u) : w.cell? ⟨g, 0, none⟩ = some x := by simp [World.cell?, show w.heap[g]? = _ from h]
theorem Blk4.c1 (h : Blk4 w g t x y z u) : w.cell? ⟨g, 1, none⟩ = some y := by simp [World.cell?, show w.heap[g]? = _ from h]
theorem Blk4.c2 (h : Blk4 w g t x y z u) : w.cell? ⟨g, 2, none⟩ = some z := by simp [World.cell?, show w.heap[g]? = _ from h]
theorem Blk4.c3 (h : Blk4 w g t x y z u) : w.cell? ⟨g, 3, none⟩ = some u := by simp [World.cell?, show w.heap[g]? = _ from h]
theorem Blk4.f0 (h : Blk4 w g t x y z u) : w.frozen? ⟨g, 0, none⟩ = false := by simp [World.frozen?, show w.heap[g]? = _ from h]
theorem Blk4.f1 (h : Blk4 w g t x y z u) : w.frozen? ⟨g, 1, none⟩ = false := by simp [World.frozen?, show w.heap[g]? = _ from h]
theorem Blk4.new (w : World) (t : TypeId) (x y z u : Value) : Blk4 (w.alloc (.cells #[x, y, z, u] t)) w.heap.size t x y z u := World.alloc_heap_new w _
theorem Blk4.below (h : Blk4 w g t x y z u) (hb : Below w.heap.size w w') : Blk4 w' g t x y z u := (hb.block g h.lt).trans h
end
/-- the box g is written over with two cells, with four -/
def set2 (w : World) (g : Nat) (a b : Value) : World := (w.setCell ⟨g, 0, none⟩ a).setCell ⟨g, 1, none⟩ b
/-- v is the program's fraction x -/
def RepF (w : World) (B : Nat) (x : Rat) (v : Value) : Prop := ∃ d A n c d' A' n' c', v = .agg #[.bool d, .slice A n c, .bool d', .slice A' n' c'] ∧ RepI w B x.num (.agg #[.bool d, .slice A n c]) ∧ ∃ q : Int, RepI w B q (.agg #[.bool d', .slice A' n' c']) ∧ (q = (x.den : Int) ∨ (q = 0 ∧ x.den = 1))
/-- v is the reference's fraction x -/
def RepG (w : World) (B : Nat) (x : Rat) (v : Value) : Prop := ∃ d A n c d' A' n' c', v = .agg #[.bool d, .slice A n c, .bool d', .slice A' n' c'] ∧ RepN w B x.num (.agg #[.bool d, .slice A n c]) ∧ RepN w B (x.den : Int) (.agg #[.bool d', .slice A' n' c'])
theorem RepN.shape' {w : World} {B : Nat} {z : Int} {v : Value} (h : RepN w B z v) : ∃ d A n c, v = .agg #[.bool d, .slice A n c] := by
  obtain ⟨A, n, c, zs, rfl, _⟩ := h
  exact ⟨_, A, n, c, rfl⟩
section
variable {w w' : World} {B : Nat} {x : Rat} {v : Value}
theorem RepF.step (h : RepF w w.heap.size x v) (b : Below w.heap.size w w') : RepF w' w'.heap.size x v := by
  obtain ⟨d, A, n, c, d', A', n', c', h1, h2, q, h3, h4⟩ := h
  exact ⟨d, A, n, c, d', A', n', c', h1, h2.step b, q, h3.step b, h4⟩
theorem RepG.step (h : RepG w w.heap.size x v) (b : Below w.heap.size w w') : RepG w' w'.heap.size x v := by
  obtain ⟨d, A, n, c, d', A', n', c', h1, h2, h3⟩ := h
  exact ⟨d, A, n, c, d', A', n', c', h1, h2.step b, h3.step b⟩
theorem RepF.shape (h : RepF w B x v) : ∃ d A n c d' A' n' c', v = .agg #[.bool d, .slice A n c, .bool d', .slice A' n' c'] := by
  obtain ⟨d, A, n, c, d', A', n', c', h1, _⟩ := h
  exact ⟨d, A, n, c, d', A', n', c', h1⟩
theorem RepG.shape (h : RepG w B x v) : ∃ d A n c d' A' n' c', v = .agg #[.bool d, .slice A n c, .bool d', .slice A' n' c'] := by
  obtain ⟨d, A, n, c, d', A', n', c', h1, _⟩ := h
  exact ⟨d, A, n, c, d', A', n', c', h1⟩
theorem RepF.zero (w : World) (B : Nat) : RepF w B 0 (.agg #[.bool false, .slice none 0 0, .bool false, .slice none 0 0]) :=
  ⟨_, _, _, _, _, _, _, _, rfl, RepI.zero w B, 0, RepI.zero w B, .inr ⟨rfl, rfl⟩⟩
end
section
variable {w w' : World} {B : Nat} {x : Rat} {d d' : Bool} {A A' : Option Addr} {n c n' c' : Nat}
theorem RepF.num (h : RepF w B x (.agg #[.bool d, .slice A n c, .bool d', .slice A' n' c'])) : RepI w B x.num (.agg #[.bool d, .slice A n c]) := by
  obtain ⟨_, _, _, _, _, _, _, _, e, h2, _⟩ := h
  cases e
  exact h2
theorem RepF.den (h : RepF w B x (.agg #[.bool d, .slice A n c, .bool d', .slice A' n' c'])) : ∃ q : Int, RepI w B q (.agg #[.bool d', .slice A' n' c']) ∧ (q = (x.den : Int) ∨ (q = 0 ∧ x.den = 1)) := by
  obtain ⟨_, _, _, _, _, _, _, _, e, _, q, h3, h4⟩ := h
  cases e
  exact ⟨q, h3, h4⟩
theorem RepG.num (h : RepG w B x (.agg #[.bool d, .slice A n c, .bool d', .slice A' n' c'])) : RepN w B x.num (.agg #[.bool d, .slice A n c]) := by
  obtain ⟨_, _, _, _, _, _, _, _, e, h2, _⟩ := h
  cases e
  exact h2
theorem RepG.den (h : RepG w B x (.agg #[.bool d, .slice A n c, .bool d', .slice A' n' c'])) : RepN w B (x.den : Int) (.agg #[.bool d', .slice A' n' c']) := by
  obtain ⟨_, _, _, _, _, _, _, _, e, _, h3⟩ := h
  cases e
  exact h3
end
section
variable {W W' : World} {p : Nat} {x : Rat} {d d' : Bool} {A A' : Option Addr} {n c n' c' : Nat}
end
/-- what a returned value says of the world it is returned in: the value, nothing older changed, the result's box -/
def RetI (w : World) (R : Nat) (t : TypeId) (z : Int) (d : Bool) (A : Option Addr) (n c : Nat) (W : World) : Prop := RepI W W.heap.size z (.agg #[.bool d, .slice A n c]) ∧ Below w.heap.size w W ∧ Blk2 W R t (.bool d) (.slice A n c)
section
variable {w W : World} {R : Nat} {t : TypeId} {z : Int} {x : Rat} {d d' b0 b1 : Bool} {A A' A0 A1 : Option Addr} {n c n' c' n0 k0 n1 k1 : Nat}
theorem retI (h : RepI W W.heap.size z (.agg #[.bool d, .slice A n c])) (hk : Blk2 W R t (.bool b0) (.slice A0 n0 k0)) (hb : Below w.heap.size w W) (hR : w.heap.size ≤ R) :
    RetI w R t z d A n c ((W.setCell ⟨R, 0, none⟩ (.bool d)).setCell ⟨R, 1, none⟩ (.slice A n c)) :=
  ⟨(repI_ret h hk hb hR).1, (repI_ret h hk hb hR).2, (hk.set0 _).set1 _⟩
theorem Blk4.off {tt : TypeId} {p g : Nat} {a1 a2 a3 a4 u u' : Value} (h : Blk4 W p tt a1 a2 a3 a4) (hne : p ≠ g) : Blk4 ((W.setCell ⟨g, 0, none⟩ u).setCell ⟨g, 1, none⟩ u') p tt a1 a2 a3 a4 := (set2_heap W g u u' p hne).trans h
end
/-! behind a store into a box of two cells -/
section
variable {W : World} {g : Nat} {t : TypeId} {b0 : Bool} {A0 : Option Addr} {n0 k0 : Nat} {u u' : Value} {z : Int} {x : Rat} {v : Value}
theorem RepI.st (h : RepI W W.heap.size z v) (hk : Blk2 W g t (.bool b0) (.slice A0 n0 k0)) : RepI ((W.setCell ⟨g, 0, none⟩ u).setCell ⟨g, 1, none⟩ u') ((W.setCell ⟨g, 0, none⟩ u).setCell ⟨g, 1, none⟩ u').heap.size z v := by rw [size_set2]; exact h.stored hk
theorem RepN.st (h : RepN W W.heap.size z v) (hk : Blk2 W g t (.bool b0) (.slice A0 n0 k0)) : RepN ((W.setCell ⟨g, 0, none⟩ u).setCell ⟨g, 1, none⟩ u') ((W.setCell ⟨g, 0, none⟩ u).setCell ⟨g, 1, none⟩ u').heap.size z v := by rw [size_set2]; exact h.stored hk
theorem RepF.st (h : RepF W W.heap.size x v) (hk : Blk2 W g t (.bool b0) (.slice A0 n0 k0)) : RepF ((W.setCell ⟨g, 0, none⟩ u).setCell ⟨g, 1, none⟩ u') ((W.setCell ⟨g, 0, none⟩ u).setCell ⟨g, 1, none⟩ u').heap.size x v := by
  rw [size_set2]
  obtain ⟨d, A, n, c, d', A', n', c', h1, h2, q, h3, h4⟩ := h
  exact ⟨d, A, n, c, d', A', n', c', h1, h2.stored hk, q, h3.stored hk, h4⟩
end
end Go.Proofs.YtgfhniiidejmoaaGreatDoor
