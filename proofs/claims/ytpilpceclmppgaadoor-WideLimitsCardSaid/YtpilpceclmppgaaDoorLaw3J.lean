/- Layer 3's laws: rows of the reference's integers; integers near a bound. -/
import Derived.Test.YtpilpceclmppgaaDoorLaws
import Derived.Test.YtpilpceclmppgaaDoorNums
namespace Go.Proofs.YtpilpceclmppgaaDoor
open Go.RowKit
set_option linter.unusedVariables false

theorem cell_at {W : World} {g o : Nat} {cs : Array Value} {t : TypeId} {v : Value} (h : W.heap[g]? = some (.cells cs t (0, 0))) (hv : cs[o]? = some v) : W.cell? ⟨g, o, none⟩ = some v := by
  simp [World.cell?, h, hv]
/-- block g holds the reference's integers L, one behind the other -/
def ArrN (W : World) (g : Nat) (L : List Int) : Prop := g < W.heap.size ∧ ∀ i : Nat, i < L.length → ∃ d A n c, W.cell? ⟨g, i * 2, none⟩ = some (.bool d) ∧ W.cell? ⟨g, i * 2 + 1, none⟩ = some (.slice A n c) ∧ RepN W W.heap.size (L[i]?.getD 0) (.agg #[.bool d, .slice A n c])
theorem ArrN.below {W W' : World} {g : Nat} {L : List Int} (h : ArrN W g L) (hb : Below W.heap.size W W') : ArrN W' g L := by
  obtain ⟨h1, h2⟩ := h
  refine ⟨Nat.lt_of_lt_of_le h1 hb.size, fun i hi => ?_⟩
  obtain ⟨d, A, n, c, a1, a2, a3⟩ := h2 i hi
  exact ⟨d, A, n, c, (hb.cell (p := ⟨g, i * 2, none⟩) h1).trans a1, (hb.cell (p := ⟨g, i * 2 + 1, none⟩) h1).trans a2, a3.step hb⟩
/-- element i of a row of the reference's integers is z -/
def HoldE (W : World) (g i : Nat) (z : Int) (d : Bool) (A : Option Addr) (n c : Nat) : Prop := g < W.heap.size ∧ W.cell? ⟨g, i * 2, none⟩ = some (.bool d) ∧ W.cell? ⟨g, i * 2 + 1, none⟩ = some (.slice A n c) ∧ RepN W W.heap.size z (.agg #[.bool d, .slice A n c])
theorem HoldE.below {W W' : World} {g i : Nat} {z : Int} {d : Bool} {A : Option Addr} {n c : Nat} (h : HoldE W g i z d A n c) (hb : Below W.heap.size W W') : HoldE W' g i z d A n c :=
  ⟨Nat.lt_of_lt_of_le h.1 hb.size, (hb.cell (p := ⟨g, i * 2, none⟩) h.1).trans h.2.1, (hb.cell (p := ⟨g, i * 2 + 1, none⟩) h.1).trans h.2.2.1, h.2.2.2.step hb⟩
theorem HoldE.c0 {W : World} {g i : Nat} {z : Int} {d : Bool} {A : Option Addr} {n c : Nat} (h : HoldE W g i z d A n c) : W.cell? ⟨g, i * 2, none⟩ = some (.bool d) := h.2.1
theorem HoldE.c1 {W : World} {g i : Nat} {z : Int} {d : Bool} {A : Option Addr} {n c : Nat} (h : HoldE W g i z d A n c) : W.cell? ⟨g, i * 2 + 1, none⟩ = some (.slice A n c) := h.2.2.1
theorem ArrN.get {W : World} {g : Nat} {L : List Int} (h : ArrN W g L) (i : Nat) (hi : i < L.length) : ∃ d A n c, HoldE W g i (L[i]?.getD 0) d A n c := by
  obtain ⟨d, A, n, c, h1, h2, h3⟩ := h.2 i hi
  exact ⟨d, A, n, c, h.1, h1, h2, h3⟩
section
variable {W : World} {z1 z2 z3 z4 : Int} {d1 d2 d3 d4 : Bool} {A1 A2 A3 A4 : Option Addr} {n1 c1 n2 c2 n3 c3 n4 c4 : Nat} (t : TypeId)
theorem ArrN.new2 (h1 : RepN W W.heap.size z1 (.agg #[.bool d1, .slice A1 n1 c1])) (h2 : RepN W W.heap.size z2 (.agg #[.bool d2, .slice A2 n2 c2])) :
    ArrN (W.alloc (.cells #[.bool d1, .slice A1 n1 c1, .bool d2, .slice A2 n2 c2] t)) W.heap.size [z1, z2] := by
  refine ⟨by rw [World.size_alloc]; omega, fun i hi => ?_⟩
  have hb := al_below W (.cells #[.bool d1, .slice A1 n1 c1, .bool d2, .slice A2 n2 c2] t)
  have hn : (W.alloc (.cells #[.bool d1, .slice A1 n1 c1, .bool d2, .slice A2 n2 c2] t)).heap[W.heap.size]? = some (.cells #[.bool d1, .slice A1 n1 c1, .bool d2, .slice A2 n2 c2] t (0, 0)) := World.alloc_heap_new _ _
  have : i = 0 ∨ i = 1 := by simp at hi; omega
  rcases this with rfl | rfl
  · exact ⟨_, _, _, _, cell_at hn rfl, cell_at hn rfl, h1.step hb⟩
  · exact ⟨_, _, _, _, cell_at hn rfl, cell_at hn rfl, h2.step hb⟩
theorem ArrN.new3 (h1 : RepN W W.heap.size z1 (.agg #[.bool d1, .slice A1 n1 c1])) (h2 : RepN W W.heap.size z2 (.agg #[.bool d2, .slice A2 n2 c2])) (h3 : RepN W W.heap.size z3 (.agg #[.bool d3, .slice A3 n3 c3])) :
    ArrN (W.alloc (.cells #[.bool d1, .slice A1 n1 c1, .bool d2, .slice A2 n2 c2, .bool d3, .slice A3 n3 c3] t)) W.heap.size [z1, z2, z3] := by
  refine ⟨by rw [World.size_alloc]; omega, fun i hi => ?_⟩
  have hb := al_below W (.cells #[.bool d1, .slice A1 n1 c1, .bool d2, .slice A2 n2 c2, .bool d3, .slice A3 n3 c3] t)
  have hn : (W.alloc (.cells #[.bool d1, .slice A1 n1 c1, .bool d2, .slice A2 n2 c2, .bool d3, .slice A3 n3 c3] t)).heap[W.heap.size]? = some (.cells #[.bool d1, .slice A1 n1 c1, .bool d2, .slice A2 n2 c2, .bool d3, .slice A3 n3 c3] t (0, 0)) := World.alloc_heap_new _ _
  have : i = 0 ∨ i = 1 ∨ i = 2 := by simp at hi; omega
  rcases this with rfl | rfl | rfl
  · exact ⟨_, _, _, _, cell_at hn rfl, cell_at hn rfl, h1.step hb⟩
  · exact ⟨_, _, _, _, cell_at hn rfl, cell_at hn rfl, h2.step hb⟩
  · exact ⟨_, _, _, _, cell_at hn rfl, cell_at hn rfl, h3.step hb⟩
theorem ArrN.new4 (h1 : RepN W W.heap.size z1 (.agg #[.bool d1, .slice A1 n1 c1])) (h2 : RepN W W.heap.size z2 (.agg #[.bool d2, .slice A2 n2 c2])) (h3 : RepN W W.heap.size z3 (.agg #[.bool d3, .slice A3 n3 c3])) (h4 : RepN W W.heap.size z4 (.agg #[.bool d4, .slice A4 n4 c4])) :
    ArrN (W.alloc (.cells #[.bool d1, .slice A1 n1 c1, .bool d2, .slice A2 n2 c2, .bool d3, .slice A3 n3 c3, .bool d4, .slice A4 n4 c4] t)) W.heap.size [z1, z2, z3, z4] := by
  refine ⟨by rw [World.size_alloc]; omega, fun i hi => ?_⟩
  have hb := al_below W (.cells #[.bool d1, .slice A1 n1 c1, .bool d2, .slice A2 n2 c2, .bool d3, .slice A3 n3 c3, .bool d4, .slice A4 n4 c4] t)
  have hn : (W.alloc (.cells #[.bool d1, .slice A1 n1 c1, .bool d2, .slice A2 n2 c2, .bool d3, .slice A3 n3 c3, .bool d4, .slice A4 n4 c4] t)).heap[W.heap.size]? = some (.cells #[.bool d1, .slice A1 n1 c1, .bool d2, .slice A2 n2 c2, .bool d3, .slice A3 n3 c3, .bool d4, .slice A4 n4 c4] t (0, 0)) := World.alloc_heap_new _ _
  have : i = 0 ∨ i = 1 ∨ i = 2 ∨ i = 3 := by simp at hi; omega
  rcases this with rfl | rfl | rfl | rfl
  · exact ⟨_, _, _, _, cell_at hn rfl, cell_at hn rfl, h1.step hb⟩
  · exact ⟨_, _, _, _, cell_at hn rfl, cell_at hn rfl, h2.step hb⟩
  · exact ⟨_, _, _, _, cell_at hn rfl, cell_at hn rfl, h3.step hb⟩
  · exact ⟨_, _, _, _, cell_at hn rfl, cell_at hn rfl, h4.step hb⟩
end
section
variable {W : World} {p g i : Nat} {z : Int} {d b0 : Bool} {A A1 : Option Addr} {n c n1 k1 : Nat} {t : TypeId} {u u' : Value} {L : List Int}
theorem HoldE.lt (h : HoldE W p i z d A n c) : p < W.heap.size := h.1
theorem HoldE.off (h : HoldE W p i z d A n c) (hk : Blk2 W g t (.bool b0) (.slice A1 n1 k1)) (hne : p ≠ g) : HoldE ((W.setCell ⟨g, 0, none⟩ u).setCell ⟨g, 1, none⟩ u') p i z d A n c :=
  ⟨by rw [size_set2]; exact h.1, cell_set2 h.2.1 hne, cell_set2 h.2.2.1 hne, by rw [size_set2]; exact h.2.2.2.stored hk⟩
theorem ArrN.off (h : ArrN W p L) (hk : Blk2 W g t (.bool b0) (.slice A1 n1 k1)) (hne : p ≠ g) : ArrN ((W.setCell ⟨g, 0, none⟩ u).setCell ⟨g, 1, none⟩ u') p L := by
  refine ⟨by rw [size_set2]; exact h.1, fun i hi => ?_⟩
  obtain ⟨d, A, n, c, a1, a2, a3⟩ := h.2 i hi
  exact ⟨d, A, n, c, cell_set2 a1 hne, cell_set2 a2 hne, by rw [size_set2]; exact a3.stored hk⟩
theorem Blk2.off {tt : TypeId} {x y : Value} (h : Blk2 W p tt x y) (hne : p ≠ g) : Blk2 ((W.setCell ⟨g, 0, none⟩ u).setCell ⟨g, 1, none⟩ u') p tt x y := (set2_heap W g u u' p hne).trans h
end
theorem bal {W0 W : World} (h : Below W0.heap.size W0 W) (o : Obj) : Below W0.heap.size W0 (W.alloc o) := bstep h (al_below W o)
theorem undrew {w w' : World} (h : Below w.drew.heap.size w.drew w') : Below w.heap.size w w' := ⟨h.os, h.tape, h.output, h.size, h.block⟩
/-- two boxes that were made ahead of a call, or one of them -/
theorem pend2 {W wq : World} {t : TypeId} {x y : Value} (b : Below ((W.alloc (.cells #[x, y] t)).alloc (.cells #[x, y] t)).heap.size ((W.alloc (.cells #[x, y] t)).alloc (.cells #[x, y] t)) wq) :
    Blk2 wq W.heap.size t x y ∧ Blk2 wq (W.heap.size + 1) t x y ∧ W.heap.size + 2 ≤ wq.heap.size := by
  have h1 := ((Blk2.new W t x y).below (al_below _ (.cells #[x, y] t))).below b
  have h2 := (Blk2.new (W.alloc (.cells #[x, y] t)) t x y).below b
  have h3 := b.size
  rw [World.size_alloc] at h2
  rw [World.size_alloc, World.size_alloc] at h3
  exact ⟨h1, h2, h3⟩
theorem pend1 {W wq : World} {t : TypeId} {x y : Value} (b : Below (W.alloc (.cells #[x, y] t)).heap.size (W.alloc (.cells #[x, y] t)) wq) :
    Blk2 wq W.heap.size t x y ∧ W.heap.size + 1 ≤ wq.heap.size := by
  have h1 := (Blk2.new W t x y).below b
  have h3 := b.size
  rw [World.size_alloc] at h3
  exact ⟨h1, h3⟩
section
variable {W : World} {q r : Int} {d d' b1 b2 : Bool} {A A' A1 A2 : Option Addr} {n c n' c' n1 k1 n2 k2 g g' : Nat}
theorem put2 (hq : RepN W W.heap.size q (.agg #[.bool d, .slice A n c])) (hr : RepN W W.heap.size r (.agg #[.bool d', .slice A' n' c']))
    (p1 : Blk2 W g 25 (.bool b1) (.slice A1 n1 k1)) (p2 : Blk2 W g' 25 (.bool b2) (.slice A2 n2 k2)) (hne : g ≠ g') :
    HoldN ((((W.setCell ⟨g, 0, none⟩ (.bool d)).setCell ⟨g, 1, none⟩ (.slice A n c)).setCell ⟨g', 0, none⟩ (.bool d')).setCell ⟨g', 1, none⟩ (.slice A' n' c')) g q d A n c ∧
    HoldN ((((W.setCell ⟨g, 0, none⟩ (.bool d)).setCell ⟨g, 1, none⟩ (.slice A n c)).setCell ⟨g', 0, none⟩ (.bool d')).setCell ⟨g', 1, none⟩ (.slice A' n' c')) g' r d' A' n' c' :=
  ⟨(HoldN.made hq p1).off (p2.off (Ne.symm hne)) hne, HoldN.made (by rw [size_set2]; exact hr.stored p1) (p2.off (Ne.symm hne))⟩
theorem new_two (hq : RepN W W.heap.size q (.agg #[.bool d, .slice A n c])) (hr : RepN W W.heap.size r (.agg #[.bool d', .slice A' n' c'])) :
    HoldN ((W.alloc (.cells #[.bool d, .slice A n c] 25)).alloc (.cells #[.bool d', .slice A' n' c'] 25)) W.heap.size q d A n c ∧
    HoldN ((W.alloc (.cells #[.bool d, .slice A n c] 25)).alloc (.cells #[.bool d', .slice A' n' c'] 25)) (W.heap.size + 1) r d' A' n' c' := by
  have h := HoldN.new (hr.step (al_below W (.cells #[.bool d, .slice A n c] 25)))
  rw [World.size_alloc] at h
  exact ⟨(HoldN.new hq).below (al_below _ _), h⟩
theorem new_put (hq : RepN W W.heap.size q (.agg #[.bool d, .slice A n c])) (hr : RepN W W.heap.size r (.agg #[.bool d', .slice A' n' c']))
    (p2 : Blk2 W g' 25 (.bool b2) (.slice A2 n2 k2)) :
    HoldN (((W.alloc (.cells #[.bool d, .slice A n c] 25)).setCell ⟨g', 0, none⟩ (.bool d')).setCell ⟨g', 1, none⟩ (.slice A' n' c')) W.heap.size q d A n c ∧
    HoldN (((W.alloc (.cells #[.bool d, .slice A n c] 25)).setCell ⟨g', 0, none⟩ (.bool d')).setCell ⟨g', 1, none⟩ (.slice A' n' c')) g' r d' A' n' c' := by
  have hb := al_below W (.cells #[.bool d, .slice A n c] 25)
  have hlt := p2.lt
  exact ⟨(HoldN.new hq).off (p2.below hb) (by omega), HoldN.made (hr.step hb) (p2.below hb)⟩
end
theorem div_S {S : World → Prop} {W : World} (hS : Stab S) (h : S W) {x y : Int} {u v : Value} (hx : S W → RepN W W.heap.size x u) (hy : S W → RepN W W.heap.size y v) (bx : Bits 60000 x) (by_ : Bits 60000 y) (hy0 : y ≠ 0) :
    Calls Tryd.prog 34 #[u, v] W fun e w' => ∃ u v, e = .returned (.tuple #[u, v]) ∧ RepN w' w'.heap.size (x / y) u ∧ RepN w' w'.heap.size (x % y) v ∧ Below W.heap.size W w' ∧ S w' :=
  (div_any x y u v W (hx h) (hy h) bx by_ hy0).mono fun _ _ ⟨u, v, h1, h2, h3, h4⟩ => ⟨u, v, h1, h2, h3, h4, hS _ _ h h4⟩
theorem all_two {P : Int → Prop} {a b : Int} (ha : P a) (hb : P b) (i : Nat) (hi : i < 2) : P ([a, b][i]?.getD 0) := by
  have : i = 0 ∨ i = 1 := by omega
  rcases this with rfl | rfl
  · exact ha
  · exact hb
theorem all_three {P : Int → Prop} {a b c : Int} (ha : P a) (hb : P b) (hc : P c) (i : Nat) (hi : i < 3) : P ([a, b, c][i]?.getD 0) := by
  have : i = 0 ∨ i = 1 ∨ i = 2 := by omega
  rcases this with rfl | rfl | rfl
  · exact ha
  · exact hb
  · exact hc
theorem all_four {P : Int → Prop} {a b c d : Int} (ha : P a) (hb : P b) (hc : P c) (hd : P d) (i : Nat) (hi : i < 4) : P ([a, b, c, d][i]?.getD 0) := by
  have : i = 0 ∨ i = 1 ∨ i = 2 ∨ i = 3 := by omega
  rcases this with rfl | rfl | rfl | rfl
  · exact ha
  · exact hb
  · exact hc
  · exact hd
theorem tdiv7 {k : Int} (h0 : -9223372036854775808 ≤ k) (h1 : k ≤ 9223372036854775807) : -9223372036854775808 ≤ k.tdiv 7 ∧ k.tdiv 7 ≤ 9223372036854775807 := by
  rcases Int.lt_or_le k 0 with h | h
  · have e : k.tdiv 7 = -((-k) / 7) := by rw [show k = -(-k) by omega, Int.neg_tdiv, Int.tdiv_eq_ediv_of_nonneg (by omega), Int.neg_neg]
    omega
  · rw [Int.tdiv_eq_ediv_of_nonneg h]
    omega
/-- integers below the bound of the range -/
def InL (z : Int) : Prop := (z.natAbs : Int) < lim
theorem near_bits {z : Int} {e : Nat} (h : (z.natAbs : Int) ≤ 2 ^ e + 4) (he : 3 ≤ e) : Bits (e + 1) z := by
  have h1 : (2 : Int) ^ (e + 1) = 2 ^ e * 2 := Int.pow_succ 2 e
  have h2 : (2 : Int) ^ 3 ≤ 2 ^ e := pow_mono' (by omega) he
  unfold Bits
  rw [h1]
  generalize (2 : Int) ^ e = P at *
  omega
/-- Near at an index of a known kind -/
def NearU (e : Nat) (w : World) (en : Ending) (w' : World) : Prop := ∃ z, Hid (Bits (e + 1) z) ∧ NewN z w en w'
theorem near_at (k : Int) (w : World) (h0 : 0 ≤ k) (h1 : k ≤ 1000) (m : Nat) (hm : k % 4 = (m : Int)) (e : Nat) (he : nearE m = e) (h3 : 3 ≤ e) :
    Calls Tryd.prog 24 #[.int .i64 k] w (NearU e w) := by
  refine (near_any k w (by omega) (by omega)).mono fun _ _ ⟨z, hz, h⟩ => ⟨z, Lib.hid ?_, h⟩
  have e1 : (aroundI k 28).toNat % 4 = m := by
    unfold aroundI
    rw [if_neg (by omega)]
    omega
  rw [e1, he] at hz
  exact near_bits hz h3
theorem small_lim (z : Int) (v : Value) (w : World) (h : RepN w w.heap.size z v) (bz : (z.natAbs : Int) < lim) (r : Int) (ok : Bool) (hr : (if isI z then z else 0) = r) (ho : isI z = ok) :
    Calls Tryd.prog 26 #[v] w fun e w' => e = .returned (.tuple #[.int .i64 r, .bool ok]) ∧ Below w.heap.size w w' := by
  have := small_num z v w h ((fit_bits bz).mono (by omega))
  unfold SmallPost at this
  rw [show inI z = isI z from rfl, ho] at this
  rw [ho] at hr
  rwa [hr] at this
end Go.Proofs.YtpilpceclmppgaaDoor
