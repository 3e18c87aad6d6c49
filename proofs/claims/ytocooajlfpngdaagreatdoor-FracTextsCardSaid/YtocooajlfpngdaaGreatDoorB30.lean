/- Texts of fractions. No Go text. · Fractions in memory: boxes of four cells, the program's fractions and the reference's. · Contracts of package frac: quotient. · Contracts of package frac: Den, Num, Sign. -/
import Derived.Test.YtocooajlfpngdaaGreatDoorB29
namespace Go.Proofs.YtocooajlfpngdaaGreatDoor
open Go.RowKit
set_option linter.unusedVariables false

theorem lim_1 : (1 : Int) < lim := by
  have : (2 : Int) ^ 1 ≤ 2 ^ 16384 := pow_mono' (by omega) (by omega)
  unfold lim
  omega
/-- the text of a fraction -/
def textQ (v : Rat) : List UInt8 := if v.den = 1 then decT v.num else decT v.num ++ 47 :: decT v.den
def slash (b : UInt8) : Bool := b == 47
/-- what stands ahead of the first slash, and what behind it: 1 if there is none -/
def aboveT (l : List UInt8) : List UInt8 := l.takeWhile (fun b => !slash b)
def belowT (l : List UInt8) : List UInt8 := match l.dropWhile (fun b => !slash b) with
  | [] => [49]
  | _ :: t => t
/-- the fraction whose text is l, and the error number -/
def parseQ (l : List UInt8) : Rat × Nat :=
  if (parseT (aboveT l)).2 = 0 ∧ (parseT (belowT l)).2 = 0 ∧ (parseT (belowT l)).1 ≠ 0 ∧ textQ (Rat.divInt (parseT (aboveT l)).1 (parseT (belowT l)).1) = l
  then (Rat.divInt (parseT (aboveT l)).1 (parseT (belowT l)).1, 0) else (0, 2)
def InF (v : Rat) : Prop := (v.num.natAbs : Int) < lim ∧ (v.den : Int) < lim
theorem dec_noslash (z : Int) : ∀ b ∈ decT z, slash b = false := by
  intro b hb
  have key : ∀ x : Int, ∀ b ∈ dec10 x, slash b = false := fun x b hb => by
    have := (isD_iff b).1 (dec_all x b hb)
    unfold slash
    rw [beq_eq_false_iff_ne]
    intro e
    subst e
    exact absurd this.1 (by decide)
  unfold decT at hb
  split at hb
  · rw [List.mem_singleton.1 hb]; rfl
  · split at hb
    · rcases List.mem_cons.1 hb with rfl | h
      · rfl
      · exact key _ _ h
    · exact key _ _ hb
theorem cut_none {l : List UInt8} (h : ∀ b ∈ l, slash b = false) : aboveT l = l ∧ belowT l = [49] := by
  unfold aboveT belowT
  have h1 : ∀ b ∈ l, (fun b => !slash b) b = true := fun b hb => by simp [h b hb]
  have e1 : l.takeWhile (fun b => !slash b) = l := by simpa using List.takeWhile_append_of_pos (l₂ := []) h1
  have e2 : l.dropWhile (fun b => !slash b) = [] := by simpa using List.dropWhile_append_of_pos (l₂ := []) h1
  rw [e1, e2]
  exact ⟨rfl, rfl⟩
theorem cut_some {a t : List UInt8} (h : ∀ b ∈ a, slash b = false) : aboveT (a ++ 47 :: t) = a ∧ belowT (a ++ 47 :: t) = t := by
  unfold aboveT belowT
  have h1 : ∀ b ∈ a, (fun b => !slash b) b = true := fun b hb => by simp [h b hb]
  rw [List.takeWhile_append_of_pos h1, List.dropWhile_append_of_pos h1]
  simp [slash]
theorem parse_one : parseT [49] = (1, 0) := by decide +kernel
theorem den_lim {v : Rat} (h : InF v) : (((v.den : Int)).natAbs : Int) < lim := by have := h.2; omega
theorem text_back {v : Rat} (h : InF v) : parseQ (textQ v) = (v, 0) := by
  have hn : parseT (decT v.num) = (v.num, 0) := read_back h.1
  have hd : parseT (decT (v.den : Int)) = ((v.den : Int), 0) := read_back (den_lim h)
  have hp := v.den_pos
  have hv : Rat.divInt v.num v.den = v := Rat.num_divInt_den v
  unfold parseQ
  by_cases h1 : v.den = 1
  · have ht : textQ v = decT v.num := by unfold textQ; rw [if_pos h1]
    obtain ⟨e1, e2⟩ := cut_none (dec_noslash v.num)
    rw [ht, e1, e2, hn, parse_one]
    rw [h1] at hv
    have hv' : Rat.divInt v.num 1 = v := hv
    refine (if_pos ⟨rfl, rfl, by decide, ?_⟩).trans ?_
    · show (Rat.divInt v.num 1, 0) = (v, 0)
      rw [hv']
    · show textQ (Rat.divInt v.num 1) = decT v.num
      rw [hv', ht]
  · have ht : textQ v = decT v.num ++ 47 :: decT v.den := by unfold textQ; rw [if_neg h1]
    obtain ⟨e1, e2⟩ := cut_some (t := decT v.den) (dec_noslash v.num)
    rw [ht, e1, e2, hn, hd]
    refine (if_pos ⟨rfl, rfl, ?_, ?_⟩).trans ?_
    · show (Rat.divInt v.num v.den, 0) = (v, 0)
      rw [hv]
    · show (v.den : Int) ≠ 0
      omega
    · show textQ (Rat.divInt v.num v.den) = _
      rw [hv, ht]
/-- quotients of integers in range are in range -/
theorem quo_in {p q : Int} (hp : (p.natAbs : Int) < lim) (hq : (q.natAbs : Int) < lim) : InF (Rat.divInt p q) := by
  by_cases h0 : q = 0
  · subst h0
    rw [Rat.divInt_zero]
    have := lim_1
    exact ⟨by simp; omega, by simp; omega⟩
  · refine ⟨?_, ?_⟩
    · rw [rat_num h0]
      have h1 := Int.natAbs_ediv_le_natAbs (if q < 0 then -p else p) (Nat.gcd p.natAbs q.natAbs : Nat)
      have h2 : (if q < 0 then -p else p).natAbs = p.natAbs := by split <;> omega
      omega
    · rw [rat_den h0]
      have h1 := Int.natAbs_ediv_le_natAbs (q.natAbs : Int) (Nat.gcd p.natAbs q.natAbs : Nat)
      have h2 : (0 : Int) ≤ (q.natAbs : Int) / (Nat.gcd p.natAbs q.natAbs : Nat) := Int.ediv_nonneg (by omega) (by omega)
      omega
theorem parseQ_in (l : List UInt8) : InF (parseQ l).1 := by
  unfold parseQ
  split
  · exact quo_in (parse_bd _) (parse_bd _)
  · have := lim_1
    exact ⟨by show ((0 : Int).natAbs : Int) < lim; simp; omega, by show ((1 : Nat) : Int) < lim; simp; omega⟩
end Go.Proofs.YtocooajlfpngdaaGreatDoor
namespace Go.Proofs.YtocooajlfpngdaaGreatDoor
open Go.RowKit
set_option linter.unusedVariables false

/-- block g holds the four cells -/
def Blk4 (w : World) (g : Nat) (t : TypeId) (x y z u : Value) : Prop := w.heap[g]? = some (.cells #[x, y, z, u] t (0, 0))
section
variable {w w' : World} {g : Nat} {t : TypeId} {x y z u : Value}
theorem Blk4.lt (h : Blk4 w g t x y z u) : g < w.heap.size := (Array.getElem?_eq_some_iff.1 h).1
theorem Blk4.c0 (h : Blk4 w g t x y z u) : w.cell? ⟨g, 0, none⟩ = some x := by simp [World.cell?, show w.heap[g]? = _ from h]
theorem Blk4.c1 (h : Blk4 w g t x y z u) : w.cell? ⟨g, 1, none⟩ = some y := by simp [World.cell?, show w.heap[g]? = _ from h]
theorem Blk4.c2 (h : Blk4 w g t x y z u) : w.cell? ⟨g, 2, none⟩ = some z := by simp [World.cell?, show w.heap[g]? = _ from h]
theorem Blk4.c3 (h : Blk4 w g t x y z u) : w.cell? ⟨g, 3, none⟩ = some u := by simp [World.cell?, show w.heap[g]? = _ from h]
theorem Blk4.f0 (h : Blk4 w g t x y z u) : w.frozen? ⟨g, 0, none⟩ = false := by simp [World.frozen?, show w.heap[g]? = _ from h]
theorem Blk4.f1 (h : Blk4 w g t x y z u) : w.frozen? ⟨g, 1, none⟩ = false := by simp [World.frozen?, show w.heap[g]? = _ from h]
theorem Blk4.f2 (h : Blk4 w g t x y z u) : w.frozen? ⟨g, 2, none⟩ = false := by simp [World.frozen?, show w.heap[g]? = _ from h]
theorem Blk4.f3 (h : Blk4 w g t x y z u) : w.frozen? ⟨g, 3, none⟩ = false := by simp [World.frozen?, show w.heap[g]? = _ from h]
theorem Blk4.new (w : World) (t : TypeId) (x y z u : Value) : Blk4 (w.alloc (.cells #[x, y, z, u] t)) w.heap.size t x y z u := World.alloc_heap_new w _
theorem Blk4.below (h : Blk4 w g t x y z u) (hb : Below w.heap.size w w') : Blk4 w' g t x y z u := (hb.block g h.lt).trans h
end
/-- the box g is written over with two cells, with four -/
def set2 (w : World) (g : Nat) (a b : Value) : World := (w.setCell ⟨g, 0, none⟩ a).setCell ⟨g, 1, none⟩ b
def set4 (w : World) (g : Nat) (a b c d : Value) : World := (((w.setCell ⟨g, 0, none⟩ a).setCell ⟨g, 1, none⟩ b).setCell ⟨g, 2, none⟩ c).setCell ⟨g, 3, none⟩ d
theorem set4_heap (w : World) (g : Nat) (a b c d : Value) (k : Nat) (hk : k ≠ g) : (set4 w g a b c d).heap[k]? = w.heap[k]? := by
  unfold set4
  rw [Below.heap_setCell _ _ _ _ (by simpa using hk), Below.heap_setCell _ _ _ _ (by simpa using hk), Below.heap_setCell _ _ _ _ (by simpa using hk), Below.heap_setCell _ _ _ _ (by simpa using hk)]
theorem set4_size (w : World) (g : Nat) (a b c d : Value) : (set4 w g a b c d).heap.size = w.heap.size := by simp [set4, World.setCell]
theorem set4_blk {w : World} {g : Nat} {t : TypeId} {x y z u : Value} (h : Blk4 w g t x y z u) (a b c d : Value) : Blk4 (set4 w g a b c d) g t a b c d := by
  unfold Blk4 at h ⊢
  simp [set4, World.setCell, Array.getElem?_modify, h]
theorem set4_below {w w1 : World} {g : Nat} (hb : Below w.heap.size w w1) (hg : w.heap.size ≤ g) (a b c d : Value) : Below w.heap.size w (set4 w1 g a b c d) :=
  (((hb.setCell (p := ⟨g, 0, none⟩) hg _).setCell (p := ⟨g, 1, none⟩) hg _).setCell (p := ⟨g, 2, none⟩) hg _).setCell (p := ⟨g, 3, none⟩) hg _
/-- a slice of integers that no store into a block of booleans and slices meets -/
theorem Sl.off_blk4 {k : IntKind} {w w' : World} {B n R : Nat} {A : Option Addr} {zs : List Int} {b0 b1 : Bool} {A0 A1 : Option Addr} {n0 k0 n1 k1 : Nat} {t : TypeId} (h : Sl k w B A n zs)
    (hk : Blk4 w R t (.bool b0) (.slice A0 n0 k0) (.bool b1) (.slice A1 n1 k1)) (hw : ∀ g, g ≠ R → w'.heap[g]? = w.heap[g]?) : Sl k w' B A n zs := by
  refine ⟨h.1, ?_⟩
  rcases h.2 with h0 | ⟨b, off, rfl, hlt, hc⟩
  · exact .inl h0
  · refine .inr ⟨b, off, rfl, hlt, fun j hj => ?_⟩
    have hne : b ≠ R := by
      rintro rfl
      have h1 := hc j hj
      unfold Blk4 at hk
      simp only [World.cell?, hk] at h1
      rcases Nat.lt_or_ge (off + j) 4 with h2 | h2
      · rcases (show off + j = 0 ∨ off + j = 1 ∨ off + j = 2 ∨ off + j = 3 by omega) with h3 | h3 | h3 | h3 <;> rw [h3] at h1 <;> simp at h1
      · simp at h1
        rw [List.getElem?_eq_none (by simpa using h2)] at h1
        cases h1
    exact (World.cell?_of_block (w := w) (a := ⟨b, off + j, none⟩) (hw b hne)).trans (hc j hj)
/-- v is the program's fraction x -/
def RepF (w : World) (B : Nat) (x : Rat) (v : Value) : Prop := ∃ d A n c d' A' n' c', v = .agg #[.bool d, .slice A n c, .bool d', .slice A' n' c'] ∧ RepI w B x.num (.agg #[.bool d, .slice A n c]) ∧ ∃ q : Int, RepI w B q (.agg #[.bool d', .slice A' n' c']) ∧ (q = (x.den : Int) ∨ (q = 0 ∧ x.den = 1))
/-- v is the reference's fraction x -/
def RepG (w : World) (B : Nat) (x : Rat) (v : Value) : Prop := ∃ d A n c d' A' n' c', v = .agg #[.bool d, .slice A n c, .bool d', .slice A' n' c'] ∧ RepN w B x.num (.agg #[.bool d, .slice A n c]) ∧ RepN w B (x.den : Int) (.agg #[.bool d', .slice A' n' c'])
theorem RepN.shape' {w : World} {B : Nat} {z : Int} {v : Value} (h : RepN w B z v) : ∃ d A n c, v = .agg #[.bool d, .slice A n c] := by
  obtain ⟨A, n, c, zs, rfl, _⟩ := h
  exact ⟨_, A, n, c, rfl⟩
section
variable {w w' : World} {B : Nat} {x : Rat} {v : Value}
theorem RepF.step (h : RepF w w.heap.size x v) (b : Below w.heap.size w w') : RepF w' w'.heap.size x v := by
  obtain ⟨d, A, n, c, d', A', n', c', h1, h2, q, h3, h4⟩ := h
  exact ⟨d, A, n, c, d', A', n', c', h1, h2.step b, q, h3.step b, h4⟩
theorem RepG.step (h : RepG w w.heap.size x v) (b : Below w.heap.size w w') : RepG w' w'.heap.size x v := by
  obtain ⟨d, A, n, c, d', A', n', c', h1, h2, h3⟩ := h
  exact ⟨d, A, n, c, d', A', n', c', h1, h2.step b, h3.step b⟩
theorem RepF.shape (h : RepF w B x v) : ∃ d A n c d' A' n' c', v = .agg #[.bool d, .slice A n c, .bool d', .slice A' n' c'] := by
  obtain ⟨d, A, n, c, d', A', n', c', h1, _⟩ := h
  exact ⟨d, A, n, c, d', A', n', c', h1⟩
theorem RepG.shape (h : RepG w B x v) : ∃ d A n c d' A' n' c', v = .agg #[.bool d, .slice A n c, .bool d', .slice A' n' c'] := by
  obtain ⟨d, A, n, c, d', A', n', c', h1, _⟩ := h
  exact ⟨d, A, n, c, d', A', n', c', h1⟩
theorem RepF.zero (w : World) (B : Nat) : RepF w B 0 (.agg #[.bool false, .slice none 0 0, .bool false, .slice none 0 0]) :=
  ⟨_, _, _, _, _, _, _, _, rfl, RepI.zero w B, 0, RepI.zero w B, .inr ⟨rfl, rfl⟩⟩
end
section
variable {w w' : World} {B : Nat} {x : Rat} {d d' : Bool} {A A' : Option Addr} {n c n' c' : Nat}
theorem RepF.num (h : RepF w B x (.agg #[.bool d, .slice A n c, .bool d', .slice A' n' c'])) : RepI w B x.num (.agg #[.bool d, .slice A n c]) := by
  obtain ⟨_, _, _, _, _, _, _, _, e, h2, _⟩ := h
  cases e
  exact h2
theorem RepF.den (h : RepF w B x (.agg #[.bool d, .slice A n c, .bool d', .slice A' n' c'])) : ∃ q : Int, RepI w B q (.agg #[.bool d', .slice A' n' c']) ∧ (q = (x.den : Int) ∨ (q = 0 ∧ x.den = 1)) := by
  obtain ⟨_, _, _, _, _, _, _, _, e, _, q, h3, h4⟩ := h
  cases e
  exact ⟨q, h3, h4⟩
theorem RepG.num (h : RepG w B x (.agg #[.bool d, .slice A n c, .bool d', .slice A' n' c'])) : RepN w B x.num (.agg #[.bool d, .slice A n c]) := by
  obtain ⟨_, _, _, _, _, _, _, _, e, h2, _⟩ := h
  cases e
  exact h2
theorem RepG.den (h : RepG w B x (.agg #[.bool d, .slice A n c, .bool d', .slice A' n' c'])) : RepN w B (x.den : Int) (.agg #[.bool d', .slice A' n' c']) := by
  obtain ⟨_, _, _, _, _, _, _, _, e, _, h3⟩ := h
  cases e
  exact h3
theorem RepF.mk' {p q : Int} (h1 : RepI w B p (.agg #[.bool d, .slice A n c])) (h2 : RepI w B q (.agg #[.bool d', .slice A' n' c'])) (e1 : p = x.num) (e2 : q = (x.den : Int)) : RepF w B x (.agg #[.bool d, .slice A n c, .bool d', .slice A' n' c']) := by
  subst e1
  exact ⟨_, _, _, _, _, _, _, _, rfl, h1, q, h2, .inl e2⟩
theorem RepG.mk' {p q : Int} (h1 : RepN w B p (.agg #[.bool d, .slice A n c])) (h2 : RepN w B q (.agg #[.bool d', .slice A' n' c'])) (e1 : p = x.num) (e2 : q = (x.den : Int)) : RepG w B x (.agg #[.bool d, .slice A n c, .bool d', .slice A' n' c']) := by
  subst e1
  subst e2
  exact ⟨_, _, _, _, _, _, _, _, rfl, h1, h2⟩
end
/-- a new fraction; the same with an error number -/
def NewF (x : Rat) (w : World) (e : Ending) (w' : World) : Prop := ∃ v, e = .returned v ∧ RepF w' w'.heap.size x v ∧ Below w.heap.size w w'
def NewFE (x : Rat) (er : Int) (w : World) (e : Ending) (w' : World) : Prop := ∃ v, e = .returned (.tuple #[v, .int .i64 er]) ∧ RepF w' w'.heap.size x v ∧ Below w.heap.size w w'
def NewG (x : Rat) (w : World) (e : Ending) (w' : World) : Prop := ∃ v, e = .returned v ∧ RepG w' w'.heap.size x v ∧ Below w.heap.size w w'
def NewGE (x : Rat) (er : Int) (w : World) (e : Ending) (w' : World) : Prop := ∃ v, e = .returned (.tuple #[v, .int .i64 er]) ∧ RepG w' w'.heap.size x v ∧ Below w.heap.size w w'
/-- block p holds the program's fraction x, the reference's -/
def HoldQ (W : World) (p : Nat) (x : Rat) (d : Bool) (A : Option Addr) (n c : Nat) (d' : Bool) (A' : Option Addr) (n' c' : Nat) : Prop :=
  Blk4 W p 36 (.bool d) (.slice A n c) (.bool d') (.slice A' n' c') ∧ RepF W W.heap.size x (.agg #[.bool d, .slice A n c, .bool d', .slice A' n' c'])
def HoldG (W : World) (p : Nat) (x : Rat) (d : Bool) (A : Option Addr) (n c : Nat) (d' : Bool) (A' : Option Addr) (n' c' : Nat) : Prop :=
  Blk4 W p 42 (.bool d) (.slice A n c) (.bool d') (.slice A' n' c') ∧ RepG W W.heap.size x (.agg #[.bool d, .slice A n c, .bool d', .slice A' n' c'])
section
variable {W W' : World} {p : Nat} {x : Rat} {d d' : Bool} {A A' : Option Addr} {n c n' c' : Nat}
theorem HoldQ.below (h : HoldQ W p x d A n c d' A' n' c') (hb : Below W.heap.size W W') : HoldQ W' p x d A n c d' A' n' c' := ⟨h.1.below hb, h.2.step hb⟩
theorem HoldG.below (h : HoldG W p x d A n c d' A' n' c') (hb : Below W.heap.size W W') : HoldG W' p x d A n c d' A' n' c' := ⟨h.1.below hb, h.2.step hb⟩
theorem HoldQ.new (h : RepF W W.heap.size x (.agg #[.bool d, .slice A n c, .bool d', .slice A' n' c'])) : HoldQ (W.alloc (.cells #[.bool d, .slice A n c, .bool d', .slice A' n' c'] 36)) W.heap.size x d A n c d' A' n' c' :=
  ⟨Blk4.new _ _ _ _ _ _, h.step (al_below _ _)⟩
theorem HoldG.new (h : RepG W W.heap.size x (.agg #[.bool d, .slice A n c, .bool d', .slice A' n' c'])) : HoldG (W.alloc (.cells #[.bool d, .slice A n c, .bool d', .slice A' n' c'] 42)) W.heap.size x d A n c d' A' n' c' :=
  ⟨Blk4.new _ _ _ _ _ _, h.step (al_below _ _)⟩
theorem HoldQ.c0 (h : HoldQ W p x d A n c d' A' n' c') : W.cell? ⟨p, 0, none⟩ = some (.bool d) := h.1.c0
theorem HoldQ.c1 (h : HoldQ W p x d A n c d' A' n' c') : W.cell? ⟨p, 1, none⟩ = some (.slice A n c) := h.1.c1
theorem HoldQ.c2 (h : HoldQ W p x d A n c d' A' n' c') : W.cell? ⟨p, 2, none⟩ = some (.bool d') := h.1.c2
theorem HoldQ.c3 (h : HoldQ W p x d A n c d' A' n' c') : W.cell? ⟨p, 3, none⟩ = some (.slice A' n' c') := h.1.c3
theorem HoldG.c0 (h : HoldG W p x d A n c d' A' n' c') : W.cell? ⟨p, 0, none⟩ = some (.bool d) := h.1.c0
theorem HoldG.c1 (h : HoldG W p x d A n c d' A' n' c') : W.cell? ⟨p, 1, none⟩ = some (.slice A n c) := h.1.c1
theorem HoldG.c2 (h : HoldG W p x d A n c d' A' n' c') : W.cell? ⟨p, 2, none⟩ = some (.bool d') := h.1.c2
theorem HoldG.c3 (h : HoldG W p x d A n c d' A' n' c') : W.cell? ⟨p, 3, none⟩ = some (.slice A' n' c') := h.1.c3
end
/-- integers behind a store into a box of four cells -/
theorem RepI.stored4 {w : World} {B g : Nat} {z : Int} {v a b c d : Value} {b0 b1 : Bool} {A0 A1 : Option Addr} {n0 k0 n1 k1 : Nat} {t : TypeId} (h : RepI w B z v) (hk : Blk4 w g t (.bool b0) (.slice A0 n0 k0) (.bool b1) (.slice A1 n1 k1)) : RepI (set4 w g a b c d) B z v := by
  obtain ⟨A, n, c, zs, h1, h2, h3⟩ := h
  exact ⟨A, n, c, zs, h1, h2.off_blk4 hk (fun j hj => set4_heap _ _ _ _ _ _ j hj), h3⟩
theorem RepN.stored4 {w : World} {B g : Nat} {z : Int} {v a b c d : Value} {b0 b1 : Bool} {A0 A1 : Option Addr} {n0 k0 n1 k1 : Nat} {t : TypeId} (h : RepN w B z v) (hk : Blk4 w g t (.bool b0) (.slice A0 n0 k0) (.bool b1) (.slice A1 n1 k1)) : RepN (set4 w g a b c d) B z v := by
  obtain ⟨A, n, c, zs, h1, h2, h3⟩ := h
  exact ⟨A, n, c, zs, h1, h2.off_blk4 hk (fun j hj => set4_heap _ _ _ _ _ _ j hj), h3⟩
theorem RepF.stored4 {w : World} {B g : Nat} {x : Rat} {v a b c d : Value} {b0 b1 : Bool} {A0 A1 : Option Addr} {n0 k0 n1 k1 : Nat} {t : TypeId} (h : RepF w B x v) (hk : Blk4 w g t (.bool b0) (.slice A0 n0 k0) (.bool b1) (.slice A1 n1 k1)) : RepF (set4 w g a b c d) B x v := by
  obtain ⟨d, A, n, c, d', A', n', c', h1, h2, q, h3, h4⟩ := h
  exact ⟨d, A, n, c, d', A', n', c', h1, h2.stored4 hk, q, h3.stored4 hk, h4⟩
theorem RepG.stored4 {w : World} {B g : Nat} {x : Rat} {v a b c d : Value} {b0 b1 : Bool} {A0 A1 : Option Addr} {n0 k0 n1 k1 : Nat} {t : TypeId} (h : RepG w B x v) (hk : Blk4 w g t (.bool b0) (.slice A0 n0 k0) (.bool b1) (.slice A1 n1 k1)) : RepG (set4 w g a b c d) B x v := by
  obtain ⟨d, A, n, c, d', A', n', c', h1, h2, h3⟩ := h
  exact ⟨d, A, n, c, d', A', n', c', h1, h2.stored4 hk, h3.stored4 hk⟩
/-- what a returned value says of the world it is returned in: the value, nothing older changed, the result's box -/
def RetI (w : World) (R : Nat) (t : TypeId) (z : Int) (d : Bool) (A : Option Addr) (n c : Nat) (W : World) : Prop := RepI W W.heap.size z (.agg #[.bool d, .slice A n c]) ∧ Below w.heap.size w W ∧ Blk2 W R t (.bool d) (.slice A n c)
def RetN (w : World) (R : Nat) (t : TypeId) (z : Int) (d : Bool) (A : Option Addr) (n c : Nat) (W : World) : Prop := RepN W W.heap.size z (.agg #[.bool d, .slice A n c]) ∧ Below w.heap.size w W ∧ Blk2 W R t (.bool d) (.slice A n c)
def RetQ (w : World) (R : Nat) (t : TypeId) (x : Rat) (d : Bool) (A : Option Addr) (n c : Nat) (d' : Bool) (A' : Option Addr) (n' c' : Nat) (W : World) : Prop := RepF W W.heap.size x (.agg #[.bool d, .slice A n c, .bool d', .slice A' n' c']) ∧ Below w.heap.size w W ∧ Blk4 W R t (.bool d) (.slice A n c) (.bool d') (.slice A' n' c')
def RetG (w : World) (R : Nat) (t : TypeId) (x : Rat) (d : Bool) (A : Option Addr) (n c : Nat) (d' : Bool) (A' : Option Addr) (n' c' : Nat) (W : World) : Prop := RepG W W.heap.size x (.agg #[.bool d, .slice A n c, .bool d', .slice A' n' c']) ∧ Below w.heap.size w W ∧ Blk4 W R t (.bool d) (.slice A n c) (.bool d') (.slice A' n' c')
section
variable {w W : World} {R : Nat} {t : TypeId} {z : Int} {x : Rat} {d d' b0 b1 : Bool} {A A' A0 A1 : Option Addr} {n c n' c' n0 k0 n1 k1 : Nat}
theorem retI (h : RepI W W.heap.size z (.agg #[.bool d, .slice A n c])) (hk : Blk2 W R t (.bool b0) (.slice A0 n0 k0)) (hb : Below w.heap.size w W) (hR : w.heap.size ≤ R) :
    RetI w R t z d A n c ((W.setCell ⟨R, 0, none⟩ (.bool d)).setCell ⟨R, 1, none⟩ (.slice A n c)) :=
  ⟨(repI_ret h hk hb hR).1, (repI_ret h hk hb hR).2, (hk.set0 _).set1 _⟩
theorem retN (h : RepN W W.heap.size z (.agg #[.bool d, .slice A n c])) (hk : Blk2 W R t (.bool b0) (.slice A0 n0 k0)) (hb : Below w.heap.size w W) (hR : w.heap.size ≤ R) :
    RetN w R t z d A n c ((W.setCell ⟨R, 0, none⟩ (.bool d)).setCell ⟨R, 1, none⟩ (.slice A n c)) :=
  ⟨by rw [size_set2]; exact h.stored hk, (hb.setCell (p := ⟨R, 0, none⟩) hR _).setCell (p := ⟨R, 1, none⟩) hR _, (hk.set0 _).set1 _⟩
theorem retQ (h : RepF W W.heap.size x (.agg #[.bool d, .slice A n c, .bool d', .slice A' n' c'])) (hk : Blk4 W R t (.bool b0) (.slice A0 n0 k0) (.bool b1) (.slice A1 n1 k1)) (hb : Below w.heap.size w W) (hR : w.heap.size ≤ R) :
    RetQ w R t x d A n c d' A' n' c' ((((W.setCell ⟨R, 0, none⟩ (.bool d)).setCell ⟨R, 1, none⟩ (.slice A n c)).setCell ⟨R, 2, none⟩ (.bool d')).setCell ⟨R, 3, none⟩ (.slice A' n' c')) :=
  show RetQ w R t x d A n c d' A' n' c' (set4 W R (.bool d) (.slice A n c) (.bool d') (.slice A' n' c')) from ⟨by rw [set4_size]; exact h.stored4 hk, set4_below hb hR _ _ _ _, set4_blk hk _ _ _ _⟩
theorem retG (h : RepG W W.heap.size x (.agg #[.bool d, .slice A n c, .bool d', .slice A' n' c'])) (hk : Blk4 W R t (.bool b0) (.slice A0 n0 k0) (.bool b1) (.slice A1 n1 k1)) (hb : Below w.heap.size w W) (hR : w.heap.size ≤ R) :
    RetG w R t x d A n c d' A' n' c' ((((W.setCell ⟨R, 0, none⟩ (.bool d)).setCell ⟨R, 1, none⟩ (.slice A n c)).setCell ⟨R, 2, none⟩ (.bool d')).setCell ⟨R, 3, none⟩ (.slice A' n' c')) :=
  show RetG w R t x d A n c d' A' n' c' (set4 W R (.bool d) (.slice A n c) (.bool d') (.slice A' n' c')) from ⟨by rw [set4_size]; exact h.stored4 hk, set4_below hb hR _ _ _ _, set4_blk hk _ _ _ _⟩
theorem ret2I {z' : Int} {R' : Nat} {t' : TypeId} (h : RepI W W.heap.size z (.agg #[.bool d, .slice A n c])) (h' : RepI W W.heap.size z' (.agg #[.bool d', .slice A' n' c'])) (hk : Blk2 W R t (.bool b0) (.slice A0 n0 k0)) (hk' : Blk2 W R' t' (.bool b1) (.slice A1 n1 k1)) (hb : Below w.heap.size w W) (hR : w.heap.size ≤ R) (hR' : w.heap.size ≤ R') (hne : R' ≠ R) :
    RetI w R t z d A n c ((((W.setCell ⟨R, 0, none⟩ (.bool d)).setCell ⟨R, 1, none⟩ (.slice A n c)).setCell ⟨R', 0, none⟩ (.bool d')).setCell ⟨R', 1, none⟩ (.slice A' n' c')) ∧
    RetI w R' t' z' d' A' n' c' ((((W.setCell ⟨R, 0, none⟩ (.bool d)).setCell ⟨R, 1, none⟩ (.slice A n c)).setCell ⟨R', 0, none⟩ (.bool d')).setCell ⟨R', 1, none⟩ (.slice A' n' c')) := by
  have a := retI h hk hb hR
  have hk2 := hk'.off (u := .bool d) (u' := .slice A n c) hne
  have h2 : RepI ((W.setCell ⟨R, 0, none⟩ (.bool d)).setCell ⟨R, 1, none⟩ (.slice A n c)) ((W.setCell ⟨R, 0, none⟩ (.bool d)).setCell ⟨R, 1, none⟩ (.slice A n c)).heap.size z' (.agg #[.bool d', .slice A' n' c']) := by rw [size_set2]; exact h'.stored hk
  have b := retI h2 hk2 a.2.1 hR'
  exact ⟨⟨by rw [size_set2]; exact a.1.stored hk2, b.2.1, a.2.2.off (Ne.symm hne)⟩, b⟩
theorem Blk4.off {tt : TypeId} {p g : Nat} {a1 a2 a3 a4 u u' : Value} (h : Blk4 W p tt a1 a2 a3 a4) (hne : p ≠ g) : Blk4 ((W.setCell ⟨g, 0, none⟩ u).setCell ⟨g, 1, none⟩ u') p tt a1 a2 a3 a4 := (set2_heap W g u u' p hne).trans h
theorem HoldQ.off {p g : Nat} {u u' : Value} (h : HoldQ W p x d A n c d' A' n' c') (hk : Blk2 W g t (.bool b0) (.slice A0 n0 k0)) (hne : p ≠ g) : HoldQ ((W.setCell ⟨g, 0, none⟩ u).setCell ⟨g, 1, none⟩ u') p x d A n c d' A' n' c' := by
  refine ⟨h.1.off hne, ?_⟩
  rw [size_set2]
  obtain ⟨d, A, n, c, d', A', n', c', h1, h2, q, h3, h4⟩ := h.2
  exact ⟨d, A, n, c, d', A', n', c', h1, h2.stored hk, q, h3.stored hk, h4⟩
end
theorem cell_set4 {W : World} {p i g : Nat} {v a b c d : Value} (h : W.cell? ⟨p, i, none⟩ = some v) (hne : p ≠ g) : ((((W.setCell ⟨g, 0, none⟩ a).setCell ⟨g, 1, none⟩ b).setCell ⟨g, 2, none⟩ c).setCell ⟨g, 3, none⟩ d).cell? ⟨p, i, none⟩ = some v :=
  (World.cell?_of_block (w := W) (a := ⟨p, i, none⟩) (set4_heap W g a b c d p hne)).trans h
/-! behind a store into a box of two cells -/
section
variable {W : World} {g : Nat} {t : TypeId} {b0 : Bool} {A0 : Option Addr} {n0 k0 : Nat} {u u' : Value} {z : Int} {x : Rat} {v : Value}
theorem RepI.st (h : RepI W W.heap.size z v) (hk : Blk2 W g t (.bool b0) (.slice A0 n0 k0)) : RepI ((W.setCell ⟨g, 0, none⟩ u).setCell ⟨g, 1, none⟩ u') ((W.setCell ⟨g, 0, none⟩ u).setCell ⟨g, 1, none⟩ u').heap.size z v := by rw [size_set2]; exact h.stored hk
theorem RepN.st (h : RepN W W.heap.size z v) (hk : Blk2 W g t (.bool b0) (.slice A0 n0 k0)) : RepN ((W.setCell ⟨g, 0, none⟩ u).setCell ⟨g, 1, none⟩ u') ((W.setCell ⟨g, 0, none⟩ u).setCell ⟨g, 1, none⟩ u').heap.size z v := by rw [size_set2]; exact h.stored hk
theorem RepF.st (h : RepF W W.heap.size x v) (hk : Blk2 W g t (.bool b0) (.slice A0 n0 k0)) : RepF ((W.setCell ⟨g, 0, none⟩ u).setCell ⟨g, 1, none⟩ u') ((W.setCell ⟨g, 0, none⟩ u).setCell ⟨g, 1, none⟩ u').heap.size x v := by
  rw [size_set2]
  obtain ⟨d, A, n, c, d', A', n', c', h1, h2, q, h3, h4⟩ := h
  exact ⟨d, A, n, c, d', A', n', c', h1, h2.stored hk, q, h3.stored hk, h4⟩
end
end Go.Proofs.YtocooajlfpngdaaGreatDoor
namespace Go.Proofs.YtocooajlfpngdaaGreatDoor
open Go.RowKit
set_option linter.unusedVariables false

set_option maxRecDepth 100000 in
set_option maxHeartbeats 1000000 in
theorem quotient_any (x y : Int) (u v : Value) (w : World) (hx : RepI w w.heap.size x u) (hy : RepI w w.heap.size y v) (bx : (x.natAbs : Int) < lim) (by_ : (y.natAbs : Int) < lim) (hy0 : y ≠ 0) :
    Calls Tryz.prog 70 #[u, v] w (NewI (x / y) w) := by
  have HB := Lib.hid (Below.refl w.heap.size w)
  obtain ⟨dx, Ax, nx, cx, rfl⟩ := hx.shape
  have Vx := Lib.hid hx
  clear hx
  obtain ⟨dy, Ay, ny, cy, rfl⟩ := hy.shape
  have Vy := Lib.hid hy
  clear hy
  replace bx := Lib.hid bx
  replace by_ := Lib.hid by_
  replace hy0 := Lib.hid hy0
  go_enter Tryz.func70, Tryz.ntmps70
  have h := HoldI.new Vx.out
  have b := al_below w (.cells #[.bool dx, .slice Ax nx cx] 34)
  replace HB := Lib.hid (bstep HB.out b)
  replace Vy := Lib.hid (Vy.out.step b)
  clear b
  have Hx := Lib.hid h
  clear h Vx
  have h := HoldI.new Vy.out
  simp only [World.size_alloc] at h
  have b := al_below (w.alloc (.cells #[.bool dx, .slice Ax nx cx] 34)) (.cells #[.bool dy, .slice Ay ny cy] 34)
  replace HB := Lib.hid (bstep HB.out b)
  replace Hx := Lib.hid (Hx.out.below b)
  clear b
  have Hy := Lib.hid h
  clear h Vy
  have h := Blk2.new ((w.alloc (.cells #[.bool dx, .slice Ax nx cx] 34)).alloc (.cells #[.bool dy, .slice Ay ny cy] 34)) 34 (.bool false) (.slice none 0 0)
  simp only [World.size_alloc] at h
  have b := al_below ((w.alloc (.cells #[.bool dx, .slice Ax nx cx] 34)).alloc (.cells #[.bool dy, .slice Ay ny cy] 34)) (.cells #[.bool false, .slice none 0 0] 34)
  replace HB := Lib.hid (bstep HB.out b)
  replace Hx := Lib.hid (Hx.out.below b)
  replace Hy := Lib.hid (Hy.out.below b)
  clear b
  have R0 := Lib.hid (show Blk2 _ (w.heap.size + 1 + 1) 34 (.bool false) (.slice none 0 0) from h)
  clear h
  go_wp2_with fail
  refine (idiv_any x y _ _ _ Hx.out.2 Hy.out.2 bx.out by_.out hy0.out).mono ?_
  rintro e w1 ⟨u, v, rfl, h, h', b⟩
  obtain ⟨d1, A1, n1, c1, rfl⟩ := h.shape
  obtain ⟨d2, A2, n2, c2, rfl⟩ := h'.shape
  replace HB := Lib.hid (bstep HB.out b)
  replace Hx := Lib.hid (Hx.out.below b)
  replace Hy := Lib.hid (Hy.out.below b)
  replace R0 := Lib.hid (R0.out.below b)
  have V1 := Lib.hid h
  have V2 := Lib.hid h'
  clear h h' b
  have h := HoldI.new V1.out
  have b := al_below w1 (.cells #[.bool d1, .slice A1 n1 c1] 34)
  replace HB := Lib.hid (bstep HB.out b)
  replace Hx := Lib.hid (Hx.out.below b)
  replace Hy := Lib.hid (Hy.out.below b)
  replace R0 := Lib.hid (R0.out.below b)
  replace V2 := Lib.hid (V2.out.step b)
  clear b
  have H1 := Lib.hid h
  clear h V1
  have h := HoldI.new V2.out
  simp only [World.size_alloc] at h
  have b := al_below (w1.alloc (.cells #[.bool d1, .slice A1 n1 c1] 34)) (.cells #[.bool d2, .slice A2 n2 c2] 34)
  replace HB := Lib.hid (bstep HB.out b)
  replace Hx := Lib.hid (Hx.out.below b)
  replace Hy := Lib.hid (Hy.out.below b)
  replace R0 := Lib.hid (R0.out.below b)
  replace H1 := Lib.hid (H1.out.below b)
  clear b
  have H2 := Lib.hid h
  clear h V2
  have gR00 := R0.out.c0
  have yR00 := R0.out.f0
  have gR01 := R0.out.c1
  have yR01 := R0.out.f1
  have HF := Lib.hid (retI (H1.out.2) R0.out HB.out (by omega))
  clear HB Hx Hy R0 H1 H2
  clear bx by_ hy0
  go_wp2_with fail
  exact bodyPost_ret (v := .agg #[.bool d1, .slice A1 n1 c1]) (by simp [results, Tryz.results70, go_sem, gR00, gR01]) rfl ⟨_, rfl, HF.out.1, HF.out.2.1⟩
end Go.Proofs.YtocooajlfpngdaaGreatDoor
namespace Go.Proofs.YtocooajlfpngdaaGreatDoor
open Go.RowKit
set_option linter.unusedVariables false

/-- two new integers -/
def TwoU (p q : Int) (w : World) (e : Ending) (w' : World) : Prop := ∃ u v, e = .returned (.tuple #[u, v]) ∧ RepI w' w'.heap.size p u ∧ RepI w' w'.heap.size q v ∧ Below w.heap.size w w'
set_option maxRecDepth 100000 in
set_option maxHeartbeats 1000000 in
theorem den_any (a : Rat) (u : Value) (w : World) (ha : RepF w w.heap.size a u) (hi : InF a) :
    Calls Tryz.prog 48 #[u] w (NewI (a.den : Int) w) := by
  have HB := Lib.hid (Below.refl w.heap.size w)
  obtain ⟨da, Aa, na, ca, ea, Ea, ma, fa, rfl⟩ := ha.shape
  have Va := Lib.hid ha
  clear ha
  replace hi := Lib.hid hi
  go_enter Tryz.func48, Tryz.ntmps48
  have h := HoldQ.new Va.out
  have b := al_below w (.cells #[.bool da, .slice Aa na ca, .bool ea, .slice Ea ma fa] 36)
  replace HB := Lib.hid (bstep HB.out b)
  clear b
  have Ha := Lib.hid h
  clear h Va
  have h := Blk2.new (w.alloc (.cells #[.bool da, .slice Aa na ca, .bool ea, .slice Ea ma fa] 36)) 34 (.bool false) (.slice none 0 0)
  simp only [World.size_alloc] at h
  have b := al_below (w.alloc (.cells #[.bool da, .slice Aa na ca, .bool ea, .slice Ea ma fa] 36)) (.cells #[.bool false, .slice none 0 0] 34)
  replace HB := Lib.hid (bstep HB.out b)
  replace Ha := Lib.hid (Ha.out.below b)
  clear b
  have R0 := Lib.hid (show Blk2 _ (w.heap.size + 1) 34 (.bool false) (.slice none 0 0) from h)
  clear h
  obtain ⟨q, hq, hq'⟩ := Ha.out.2.den
  have VQ := Lib.hid hq
  have HQ' := Lib.hid hq'
  clear hq hq'
  have HL := Lib.hid (show (q.natAbs : Int) < lim by have h1 := hi.out.2; have h2 := lim_1; have h3 := HQ'.out; omega)
  by_cases hq0 : q = 0
  · have h1 := HQ'.out
    have hd : a.den = 1 := by have := a.den_pos; omega
    clear h1
    go_wp2_with fail
    refine (isign_lim q _ _ VQ.out HL.out 0 (by rw [hq0]; decide)).mono ?_
    rintro e w1 ⟨rfl, b⟩
    replace HB := Lib.hid (bstep HB.out b)
    replace Ha := Lib.hid (Ha.out.below b)
    replace R0 := Lib.hid (R0.out.below b)
    replace VQ := Lib.hid (VQ.out.step b)
    clear b
    have gHa0 := Ha.out.c0
    have gHa1 := Ha.out.c1
    have gHa2 := Ha.out.c2
    have gHa3 := Ha.out.c3
    clear hq0
    go_wp2_with fail
    refine (from_any 1 _ (by omega) (by omega)).mono ?_
    rintro e w2 ⟨v, rfl, h, b⟩
    obtain ⟨d2, A2, n2, c2, rfl⟩ := h.shape
    clear gHa0 gHa1 gHa2 gHa3
    replace HB := Lib.hid (bstep HB.out b)
    replace Ha := Lib.hid (Ha.out.below b)
    replace R0 := Lib.hid (R0.out.below b)
    replace VQ := Lib.hid (VQ.out.step b)
    have V2 := Lib.hid h
    clear h b
    have gR00 := R0.out.c0
    have yR00 := R0.out.f0
    have gR01 := R0.out.c1
    have yR01 := R0.out.f1
    have HF := Lib.hid (retI (V2.out) R0.out HB.out (by omega))
    rw [show (1 : Int) = (a.den : Int) by omega] at HF
    clear HB Ha R0 VQ V2
    clear hi HL HQ'
    go_wp2_with fail
    exact bodyPost_ret (v := .agg #[.bool d2, .slice A2 n2 c2]) (by simp [results, Tryz.results48, go_sem, gR00, gR01]) rfl ⟨_, rfl, HF.out.1, HF.out.2.1⟩
  · have hd : q = (a.den : Int) := by have := HQ'.out; omega
    have hs : ((cmpI' q 0) == 0) = false := by unfold cmpI'; rw [beq_eq_false_iff_ne]; (repeat' split) <;> omega
    obtain ⟨s, hs'⟩ : ∃ s, s = cmpI' q 0 := ⟨_, rfl⟩
    rw [← hs'] at hs
    have HS := Lib.hid hs'
    clear hs' hq0
    go_wp2_with fail
    refine (isign_lim q _ _ VQ.out HL.out s HS.out.symm).mono ?_
    rintro e w1 ⟨rfl, b⟩
    replace HB := Lib.hid (bstep HB.out b)
    replace Ha := Lib.hid (Ha.out.below b)
    replace R0 := Lib.hid (R0.out.below b)
    replace VQ := Lib.hid (VQ.out.step b)
    clear b
    have gR00 := R0.out.c0
    have yR00 := R0.out.f0
    have gR01 := R0.out.c1
    have yR01 := R0.out.f1
    have gHa0 := Ha.out.c0
    have gHa1 := Ha.out.c1
    have gHa2 := Ha.out.c2
    have gHa3 := Ha.out.c3
    have HF := Lib.hid (retI (VQ.out) R0.out HB.out (by omega))
    rw [hd] at HF
    clear hd
    clear HB Ha R0 VQ
    clear hi HL HQ' HS
    go_wp2_with fail
    exact bodyPost_ret (v := .agg #[.bool ea, .slice Ea ma fa]) (by simp [results, Tryz.results48, go_sem, gR00, gR01]) rfl ⟨_, rfl, HF.out.1, HF.out.2.1⟩
set_option maxRecDepth 100000 in
set_option maxHeartbeats 1000000 in
theorem num_any (a : Rat) (u : Value) (w : World) (ha : RepF w w.heap.size a u) :
    Calls Tryz.prog 47 #[u] w (NewI a.num w) := by
  have HB := Lib.hid (Below.refl w.heap.size w)
  obtain ⟨da, Aa, na, ca, ea, Ea, ma, fa, rfl⟩ := ha.shape
  have Va := Lib.hid ha
  clear ha
  go_enter Tryz.func47, Tryz.ntmps47
  have h := HoldQ.new Va.out
  have b := al_below w (.cells #[.bool da, .slice Aa na ca, .bool ea, .slice Ea ma fa] 36)
  replace HB := Lib.hid (bstep HB.out b)
  clear b
  have Ha := Lib.hid h
  clear h Va
  have HA0 := Lib.hid Ha.out.2.num
  have h1 := al_below (w.alloc (.cells #[.bool da, .slice Aa na ca, .bool ea, .slice Ea ma fa] 36)) (.cells #[.bool da, .slice Aa na ca] 34)
  have HF := Lib.hid (And.intro (HA0.out.step h1) (bal (al_below w (.cells #[.bool da, .slice Aa na ca, .bool ea, .slice Ea ma fa] 36)) (.cells #[.bool da, .slice Aa na ca] 34)))
  clear h1 HA0
  clear HB Ha
  go_wp2_with fail
  exact bodyPost_ret (v := .agg #[.bool da, .slice Aa na ca]) (by simp [results, Tryz.results47, go_sem]) rfl ⟨_, rfl, HF.out.1, HF.out.2⟩
set_option maxRecDepth 100000 in
set_option maxHeartbeats 1000000 in
theorem fsign_any (a : Rat) (u : Value) (w : World) (ha : RepF w w.heap.size a u) (hi : InF a) (r : Int) (hr : cmpI' a.num 0 = r) :
    Calls Tryz.prog 42 #[u] w (fun e w' => e = .returned (.int .i64 r) ∧ Below w.heap.size w w') := by
  have HB := Lib.hid (Below.refl w.heap.size w)
  obtain ⟨da, Aa, na, ca, ea, Ea, ma, fa, rfl⟩ := ha.shape
  have Va := Lib.hid ha
  clear ha
  replace hi := Lib.hid hi
  replace hr := Lib.hid hr
  go_enter Tryz.func42, Tryz.ntmps42
  have h := HoldQ.new Va.out
  have b := al_below w (.cells #[.bool da, .slice Aa na ca, .bool ea, .slice Ea ma fa] 36)
  replace HB := Lib.hid (bstep HB.out b)
  clear b
  have Ha := Lib.hid h
  clear h Va
  go_wp2_with fail
  refine (isign_lim a.num _ _ Ha.out.2.num hi.out.1 r hr.out).mono ?_
  rintro e w1 ⟨rfl, b⟩
  replace HB := Lib.hid (bstep HB.out b)
  replace Ha := Lib.hid (Ha.out.below b)
  clear b
  have HF := HB.out
  clear HB Ha
  clear hi hr
  go_wp2_with fail
  go_ret
  exact ⟨rfl, HF⟩
end Go.Proofs.YtocooajlfpngdaaGreatDoor
