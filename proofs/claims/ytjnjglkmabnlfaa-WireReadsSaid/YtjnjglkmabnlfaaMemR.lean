/- A reader's block: a slice and an error; what leaves it alone. -/
import Derived.Test.YtjnjglkmabnlfaaMem
namespace Go.Proofs.Ytjnjglkmabnlfaa
open Go.RowKit
set_option linter.unusedVariables false

/-- block g holds the two cells x, y -/
def Blk2 (w : World) (g : Nat) (t : TypeId) (x y : Value) : Prop := w.heap[g]? = some (.cells #[x, y] t (0, 0))
theorem Blk2.lt {w : World} {g : Nat} {t : TypeId} {x y : Value} (h : Blk2 w g t x y) : g < w.heap.size := (Array.getElem?_eq_some_iff.1 h).1
theorem Blk2.c0 {w : World} {g : Nat} {t : TypeId} {x y : Value} (h : Blk2 w g t x y) : w.cell? ⟨g, 0, none⟩ = some x := by simp [World.cell?, show w.heap[g]? = _ from h]
theorem Blk2.c1 {w : World} {g : Nat} {t : TypeId} {x y : Value} (h : Blk2 w g t x y) : w.cell? ⟨g, 1, none⟩ = some y := by simp [World.cell?, show w.heap[g]? = _ from h]
theorem Blk2.f0 {w : World} {g : Nat} {t : TypeId} {x y : Value} (h : Blk2 w g t x y) : w.frozen? ⟨g, 0, none⟩ = false := by simp [World.frozen?, show w.heap[g]? = _ from h]
theorem Blk2.f1 {w : World} {g : Nat} {t : TypeId} {x y : Value} (h : Blk2 w g t x y) : w.frozen? ⟨g, 1, none⟩ = false := by simp [World.frozen?, show w.heap[g]? = _ from h]
theorem Blk2.new (w : World) (t : TypeId) (x y : Value) : Blk2 (w.alloc (.cells #[x, y] t)) w.heap.size t x y := World.alloc_heap_new w _
theorem Blk2.grown {w w' : World} {g : Nat} {t : TypeId} {x y : Value} {row : Option Nat} (h : Blk2 w g t x y) (hg : w.grownBy w' row) (hne : some g ≠ row) : Blk2 w' g t x y := (hg.block g h.lt hne).trans h
theorem Blk2.below {w w' : World} {g : Nat} {t : TypeId} {x y : Value} (h : Blk2 w g t x y) (hb : Below w.heap.size w w') : Blk2 w' g t x y := (hb.block g h.lt).trans h
theorem Blk2.set0 {w : World} {g : Nat} {t : TypeId} {x y : Value} (h : Blk2 w g t x y) (v : Value) : Blk2 (w.setCell ⟨g, 0, none⟩ v) g t v y := by
  unfold Blk2 at h ⊢
  simp [World.setCell, Array.getElem?_modify, h]
theorem Blk2.set1 {w : World} {g : Nat} {t : TypeId} {x y : Value} (h : Blk2 w g t x y) (v : Value) : Blk2 (w.setCell ⟨g, 1, none⟩ v) g t x v := by
  unfold Blk2 at h ⊢
  simp [World.setCell, Array.getElem?_modify, h]
theorem grown_set (w : World) (g o : Nat) (v : Value) : w.grownBy (w.setCell ⟨g, o, none⟩ v) (some g) :=
  ⟨rfl, rfl, rfl, by simp [World.setCell], fun k _ hk => Below.heap_setCell _ _ _ k (fun e => hk (by rw [e]))⟩
/-- what is new since w may be stored into -/
theorem grown_far {w w3 : World} {row : Option Nat} (h : w.grownBy w3 row) {g j : Nat} {u : Value} (hg : w.heap.size ≤ g) : w.grownBy (w3.setCell ⟨g, j, none⟩ u) row :=
  ⟨h.os, h.tape, h.output, by simpa [World.setCell] using h.size, fun k hk hn => (Below.heap_setCell _ _ _ _ (by simp; omega)).trans (h.block k hk hn)⟩
theorem own_mono {w : World} {base base' : Nat} {e : TypeId} {size : Nat} {v : Value} {n : Nat} {xs : List Value} (h : w.ownsRow base e size v n xs) (hb : base' ≤ base) : w.ownsRow base' e size v n xs := by
  refine ⟨h.1, ?_⟩
  rcases h.2 with h0 | ⟨g, cap, cur, h1, h2, h3⟩
  · exact .inl h0
  · exact .inr ⟨g, cap, cur, h1, by omega, h3⟩
theorem grown_below {w w' : World} (h : Below w.heap.size w w') (row : Option Nat) : w.grownBy w' row := ⟨h.os, h.tape, h.output, h.size, fun k hk _ => h.block k hk⟩
theorem grown_trans {a b c : World} {row : Option Nat} (h : a.grownBy b row) (k : b.grownBy c row) : a.grownBy c row :=
  ⟨k.os.trans h.os, k.tape.trans h.tape, k.output.trans h.output, Nat.le_trans h.size k.size, fun i hi hn => (k.block i (Nat.lt_of_lt_of_le hi h.size) hn).trans (h.block i hi hn)⟩
theorem grown_drewN {a w : World} {row : Option Nat} (h : a.grownBy w row) (n : Nat) : a.grownBy (w.drewN n) row := ⟨h.os, h.tape, h.output, h.size, h.block⟩
/-- what a call does to blocks from B on, where the one block that was there lies from B on -/
theorem below_grown1 {B g : Nat} {w0 w w' : World} (hb : Below B w0 w) (hg : w.grownBy w' (some g)) (hB : B ≤ w.heap.size) (hgB : B ≤ g) : Below B w0 w' :=
  hb.trans ⟨hg.os, hg.tape, hg.output, hg.size, fun k hk => hg.block k (by omega) (fun e => by injection e with e; omega)⟩

/-- a slice of bytes lies in no block of two such cells -/
theorem Sl.two {w w' : World} {B g n : Nat} {A : Option Addr} {zs : List Int} {t : TypeId} {A' : Option Addr} {n' c' : Nat} {e : Int} (h : Sl .u8 w B A n zs) (hB : B ≤ w.heap.size) (h2 : Blk2 w g t (.slice A' n' c') (.int .i64 e)) (hg : w.grownBy w' (some g)) : Sl .u8 w' B A n zs := by
  refine ⟨h.1, ?_⟩
  rcases h.2 with h0 | ⟨b, off, rfl, hlt, hc⟩
  · exact .inl h0
  · refine .inr ⟨b, off, rfl, hlt, fun j hj => ?_⟩
    have hne : b ≠ g := by
      rintro rfl
      have := hc j hj
      simp only [World.cell?, show w.heap[b]? = _ from h2] at this
      rcases Nat.lt_or_ge (off + j) 2 with hk | hk
      · have h01 : off + j = 0 ∨ off + j = 1 := by omega
        rcases h01 with h01 | h01 <;> simp [h01] at this
      · rw [Array.getElem?_eq_none (by simp; omega)] at this; simp at this
    exact (World.cell?_of_block (hg.block b (by omega) (fun e => hne (by injection e)))).trans (hc j hj)
/-- a row of the call's own lies in no such block -/
theorem own_two {w w' : World} {base g n size : Nat} {e t : TypeId} {v x y : Value} {xs : List Value} (h : w.ownsRow base e size v n xs) (h2 : Blk2 w g t x y) (hne : e ≠ t) (hg : w.grownBy w' (some g)) : w'.ownsRow base e size v n xs := by
  refine h.kept hg ?_
  rcases h.2 with ⟨rfl, _⟩ | ⟨g', cap, cur, rfl, _, hh, _⟩
  · exact .inl rfl
  · refine .inr fun e' => ?_
    obtain rfl : g' = g := by simpa [Value.ownBlock] using e'
    have := (show w.heap[g']? = _ from h2).symm.trans hh
    simp at this
    exact hne this.2.symm

/-- block p is a reader of type t in state s; its bytes lie below B -/
def Rd (t : TypeId) (w : World) (p B : Nat) (s : RS) : Prop :=
  ∃ A n c, Blk2 w p t (.slice A n c) (.int .i64 s.er) ∧ n ≤ c ∧ c ≤ maxLen ∧ (A = none → c = 0) ∧ (s.er = 0 → Sl .u8 w B A n s.bs) ∧ s.ok ∧ B ≤ w.heap.size
theorem Rd.lt {t : TypeId} {w : World} {p B : Nat} {s : RS} (h : Rd t w p B s) : p < w.heap.size := by obtain ⟨A, n, c, h, _⟩ := h; exact h.lt
theorem Rd.ok {t : TypeId} {w : World} {p B : Nat} {s : RS} (h : Rd t w p B s) : s.ok := by obtain ⟨A, n, c, _, _, _, _, _, h, _⟩ := h; exact h
theorem Rd.size {t : TypeId} {w : World} {p B : Nat} {s : RS} (h : Rd t w p B s) : B ≤ w.heap.size := by obtain ⟨A, n, c, _, _, _, _, _, _, h⟩ := h; exact h
theorem Rd.more {t : TypeId} {w : World} {p B B' : Nat} {s : RS} (h : Rd t w p B s) (h1 : B ≤ B') (h2 : B' ≤ w.heap.size) : Rd t w p B' s := by
  obtain ⟨A, n, c, k1, k2, k3, k4, k5, k6, k7⟩ := h
  exact ⟨A, n, c, k1, k2, k3, k4, fun h0 => (k5 h0).more h1, k6, h2⟩
theorem Rd.below {t : TypeId} {w w' : World} {p B : Nat} {s : RS} (h : Rd t w p B s) (hb : Below w.heap.size w w') : Rd t w' p B s := by
  obtain ⟨A, n, c, h1, h2, h3, h4, h5, h6, h7⟩ := h
  exact ⟨A, n, c, h1.below hb, h2, h3, h4, fun h0 => (h5 h0).below (hb.mono h7), h6, Nat.le_trans h7 hb.size⟩
theorem Rd.drewN {t : TypeId} {w : World} {p B : Nat} {s : RS} (h : Rd t w p B s) (q : Nat) : Rd t (w.drewN q) p B s := h
/-- another reader's call leaves it alone -/
theorem Rd.other {t t' : TypeId} {w w' : World} {p p' B B' : Nat} {s s' : RS} (h : Rd t w p B s) (h' : Rd t' w p' B' s') (hne : p ≠ p') (hg : w.grownBy w' (some p')) : Rd t w' p B s := by
  obtain ⟨A, n, c, h1, h2, h3, h4, h5, h6, h7⟩ := h
  obtain ⟨A', n', c', k1, _⟩ := h'
  exact ⟨A, n, c, h1.grown hg (fun e => hne (by injection e)), h2, h3, h4, fun h0 => (h5 h0).two h7 k1 hg, h6, Nat.le_trans h7 hg.size⟩
theorem Rd.own {t : TypeId} {w w' : World} {p B base n size : Nat} {s : RS} {e : TypeId} {v : Value} {xs : List Value} (h : Rd t w p B s) (ho : w.ownsRow base e size v n xs) (hne : e ≠ t) (hg : w.grownBy w' (some p)) : w'.ownsRow base e size v n xs := by
  obtain ⟨A, m, c, k1, _⟩ := h
  exact own_two ho k1 hne hg
theorem Rd.sl {t : TypeId} {w w' : World} {p n B B' : Nat} {s : RS} {A : Option Addr} {zs : List Int} (h : Rd t w p B' s) (hs : Sl .u8 w B A n zs) (hB : B ≤ w.heap.size) (hg : w.grownBy w' (some p)) : Sl .u8 w' B A n zs := by
  obtain ⟨A', m, c, k1, _⟩ := h
  exact hs.two hB k1 hg
/-- a store into a block from B on, which is not the reader's -/
theorem Rd.far {t : TypeId} {w : World} {p B g j : Nat} {s : RS} (h : Rd t w p B s) (hg : B ≤ g) (hne : p ≠ g) (u : Value) : Rd t (w.setCell ⟨g, j, none⟩ u) p B s := by
  obtain ⟨A, n, c, h1, h2, h3, h4, h5, h6, h7⟩ := h
  have hb : Below B w (w.setCell ⟨g, j, none⟩ u) := (Below.refl _ _).setCell (p := ⟨g, j, none⟩) hg _
  exact ⟨A, n, c, h1.grown (grown_set w g j u) (fun e => hne (by injection e)), h2, h3, h4, fun h0 => (h5 h0).below hb, h6, Nat.le_trans h7 hb.size⟩
end Go.Proofs.Ytjnjglkmabnlfaa
