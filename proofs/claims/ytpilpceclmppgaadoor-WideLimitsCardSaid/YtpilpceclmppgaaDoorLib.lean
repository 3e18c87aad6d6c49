/- A slice of whole numbers that reads as a list; small laws on worlds. No Go text. -/
import Derived.Below
import Derived.Laws.OwnMore
import Derived.Deep.Draws
import Derived.OneCell
import Derived.RowKit3
import Derived.Laws.AppendOwn
namespace Go.Proofs.YtpilpceclmppgaaDoor
open Go.RowKit

/-- the slice value '.slice A n c' leads to the n numbers zs of kind k, in a block below B -/
def Sl (k : IntKind) (w : World) (B : Nat) (A : Option Addr) (n : Nat) (zs : List Int) : Prop :=
  zs.length = n ∧ (n = 0 ∨ ∃ b off, A = some ⟨b, off, none⟩ ∧ b < B ∧ ∀ j, j < n → w.cell? ⟨b, off + j, none⟩ = some (.int k (zs[j]?.getD 0)))

theorem Sl.nil (k : IntKind) (w : World) (B : Nat) (A : Option Addr) : Sl k w B A 0 [] := ⟨rfl, .inl rfl⟩
theorem Sl.len {k : IntKind} {w : World} {B n : Nat} {A : Option Addr} {zs : List Int} (h : Sl k w B A n zs) : zs.length = n := h.1
theorem Sl.at_ {k : IntKind} {w : World} {B n : Nat} {A : Option Addr} {zs : List Int} (h : Sl k w B A n zs) (hn : 0 < n) :
    ∃ b off, A = some ⟨b, off, none⟩ ∧ b < B ∧ ∀ j, j < n → w.cell? ⟨b, off + j, none⟩ = some (.int k (zs[j]?.getD 0)) := by
  rcases h.2 with h0 | h1
  · omega
  · exact h1
theorem Sl.below {k : IntKind} {w w' : World} {B n : Nat} {A : Option Addr} {zs : List Int} (h : Sl k w B A n zs) (hb : Below B w w') : Sl k w' B A n zs := by
  refine ⟨h.1, ?_⟩
  rcases h.2 with h0 | ⟨b, off, rfl, hlt, hc⟩
  · exact .inl h0
  · exact .inr ⟨b, off, rfl, hlt, fun j hj => (hb.cell (p := ⟨b, off + j, none⟩) hlt).trans (hc j hj)⟩
theorem Sl.more {k : IntKind} {w : World} {B B' n : Nat} {A : Option Addr} {zs : List Int} (h : Sl k w B A n zs) (hb : B ≤ B') : Sl k w B' A n zs := by
  refine ⟨h.1, ?_⟩
  rcases h.2 with h0 | ⟨b, off, rfl, hlt, hc⟩
  · exact .inl h0
  · exact .inr ⟨b, off, rfl, by omega, hc⟩
/-- the first m of them -/
theorem Sl.take {k : IntKind} {w : World} {B n : Nat} {A : Option Addr} {zs : List Int} (h : Sl k w B A n zs) (m : Nat) (hm : m ≤ n) : Sl k w B A m (zs.take m) := by
  refine ⟨by rw [List.length_take, h.1]; omega, ?_⟩
  rcases h.2 with h0 | ⟨b, off, rfl, hlt, hc⟩
  · exact .inl (by omega)
  · refine .inr ⟨b, off, rfl, hlt, fun j hj => ?_⟩
    rw [hc j (by omega), List.getElem?_take, if_pos hj]

theorem add_lit (g i j : Nat) : (⟨g, i, none⟩ : Addr).add j = ⟨g, i + j, none⟩ := by
  unfold Addr.add
  by_cases h : j = 0
  · subst h; rfl
  · simp

/-- a row of the call's own, read as numbers -/
theorem Sl.of_own {k : IntKind} {w : World} {base n : Nat} {e : TypeId} {v : Value} {zs : List Int} (h : w.ownsRow base e 1 v n (zs.map (Value.int k))) :
    ∃ A c, v = .slice A n c ∧ n ≤ c ∧ c ≤ maxLen ∧ Sl k w w.heap.size A n zs := by
  have hl : zs.length = n := by have := h.1; simpa using this
  rcases h.2 with ⟨rfl, rfl⟩ | ⟨g, cap, cur, rfl, hb, hg, hnc, hm, hcs, ht⟩
  · exact ⟨none, 0, rfl, Nat.le_refl _, Nat.zero_le _, hl, .inl rfl⟩
  · refine ⟨_, cap, rfl, hnc, hm, hl, .inr ⟨g, 0, rfl, ?_, fun j hj => ?_⟩⟩
    · exact (Array.getElem?_eq_some_iff.1 hg).1
    · have hc := h.cells (g := g) rfl j (.int k (zs[j]?.getD 0)) (by
        rw [List.getElem?_map, List.getElem?_eq_getElem (by omega)]; simp)
      rwa [add_lit] at hc

/-- the same, with the block and that it may be stored into -/
theorem own_slice {w : World} {base n : Nat} {e : TypeId} {v : Value} {xs : List Value} (h : w.ownsRow base e 1 v n xs) (hn : 0 < n) : ∃ g c, v = .slice (some ⟨g, 0, none⟩) n c ∧ base ≤ g ∧ g < w.heap.size := by
  rcases h.2 with ⟨_, h0⟩ | ⟨g, cap, cur, rfl, hb, hg, _⟩
  · omega
  · exact ⟨g, cap, rfl, hb, (Array.getElem?_eq_some_iff.1 hg).1⟩

/-- what lay below the row's base lies as it lay when the row has grown -/
theorem below_of_grown {w w' : World} {B : Nat} {row : Option Nat} (hg : w.grownBy w' row) (hB : B ≤ w.heap.size) (hr : ∀ g, row = some g → B ≤ g) : Below B w w' :=
  ⟨hg.os, hg.tape, hg.output, hg.size, fun i hi => hg.block i (by omega) (fun e => by have := hr _ e.symm; omega)⟩

theorem below_own {w0 w w' : World} {n : Nat} {e : TypeId} {v : Value} {xs : List Value} (hb : Below w0.heap.size w0 w) (ho : w.ownsRow w0.heap.size e 1 v n xs) (hg : w.grownBy w' v.ownBlock) : Below w0.heap.size w0 w' :=
  hb.trans (below_of_grown hg hb.size (fun g hg' => (ho.lt g hg').1))


/-- a row of the call's own over a stretch that turns nothing that was there -/
theorem ownsRow_below' {base n size : Nat} {e : TypeId} {v : Value} {xs : List Value} {w w' : World} (h : w.ownsRow base e size v n xs) (hb : Below w.heap.size w w') : w'.ownsRow base e size v n xs := by
  refine ⟨h.1, ?_⟩
  rcases h.2 with h0 | ⟨g, cap, cur, hv, hg, hh, rest⟩
  · exact .inl h0
  · exact .inr ⟨g, cap, cur, hv, hg, (hb.block g (Array.getElem?_eq_some_iff.1 hh).1).trans hh, rest⟩
theorem below_drewN {B : Nat} {a w : World} (h : Below B a w) (n : Nat) : Below B a (w.drewN n) := ⟨h.os, h.tape, h.output, h.size, h.block⟩
theorem Sl.drewN {k : IntKind} {w : World} {B n : Nat} {A : Option Addr} {zs : List Int} (h : Sl k w B A n zs) (q : Nat) : Sl k (w.drewN q) B A n zs := h
end Go.Proofs.YtpilpceclmppgaaDoor
