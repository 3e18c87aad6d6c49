/- Contracts of the reference of wide: divided. -/
import Derived.Test.YtgfhniiidejmoaaGreatDoorB18
import Derived.Deep.DeepCutAuto
namespace Go.Proofs.YtgfhniiidejmoaaGreatDoor
open Go.RowKit
set_option linter.unusedVariables false

def DivI (n : Nat) (zs ys : List Int) (i : Nat) (L l : List Int) : Prop :=
  L.length = n ∧ Dig 10000 L ∧ (∀ j, j < i → L[j]?.getD 0 = 0) ∧ Dig 10000 l ∧ Top l ∧ dv 10000 l < dv 10000 ys ∧ dv 10000 (zs.drop i) = dv 10000 (L.drop i) * dv 10000 ys + dv 10000 l
theorem DivI.start {n m F : Nat} {zs ys l : List Int} (hz : Dig 10000 zs) (hy : Dig 10000 ys) (ty : Top ys) (hn : zs.length = n) (hm : ys.length = m) (hm1 : 1 ≤ m) (hF : F ≤ n) (hFm : n + 1 ≤ F + m) (hl : Dig 10000 l) (tl : Top l) (hv : dv 10000 l = dv 10000 (zs.drop F)) : DivI n zs ys F (List.replicate n 0) l := by
  refine ⟨by simp, fun d hd => by rw [List.eq_of_mem_replicate hd]; omega, fun j _ => by rw [List.getElem?_replicate]; split <;> rfl, hl, tl, ?_, ?_⟩
  · rw [hv]
    have h1 := dv_lt (show (0 : Int) < 10000 by omega) (hz.drop F)
    rw [List.length_drop] at h1
    have h2 := pow_mono' (show (0 : Int) < 10000 by omega) (show zs.length - F ≤ m - 1 by omega)
    have h3 := top_ge (show (1 : Int) < 10000 by omega) hy ty (fun e => by rw [e] at hm; simp at hm; omega)
    rw [hm] at h3
    omega
  · rw [List.drop_replicate, dv_zeros, hv]; simp
theorem DivI.bd {n j : Nat} {zs ys L l : List Int} (h : DivI n zs ys (j + 1) L l) (hz : Dig 10000 zs) : 0 ≤ zs[j]?.getD 0 + 10000 * dv 10000 l ∧ zs[j]?.getD 0 + 10000 * dv 10000 l < 10000 * dv 10000 ys := by
  have h1 := hz.get (show (0 : Int) < 10000 by omega) j
  have h2 := dv_nonneg (show (0 : Int) < 10000 by omega) h.2.2.2.1
  have h3 := h.2.2.2.2.2.1
  omega
theorem DivI.step {n j : Nat} {zs ys L l l' : List Int} {q : Int} (h : DivI n zs ys (j + 1) L l) (hz : Dig 10000 zs) (hn : zs.length = n) (hj : j < n) (hq : q = (zs[j]?.getD 0 + 10000 * dv 10000 l) / dv 10000 ys) (hl : Dig 10000 l') (tl : Top l') (hv : dv 10000 l' = zs[j]?.getD 0 + 10000 * dv 10000 l - dv 10000 ys * q) : DivI n zs ys j (L.set j q) l' := by
  have hb := h.bd hz
  obtain ⟨h1, h2, h3, h4, h5, h6, h7⟩ := h
  have hp : 0 < dv 10000 ys := by
    have := dv_nonneg (show (0 : Int) < 10000 by omega) h4
    omega
  have hq0 : 0 ≤ q := by rw [hq]; exact Int.ediv_nonneg hb.1 (by omega)
  have hq1 : q < 10000 := by rw [hq]; exact Int.ediv_lt_of_lt_mul hp hb.2
  have hm := Int.mul_ediv_add_emod (zs[j]?.getD 0 + 10000 * dv 10000 l) (dv 10000 ys)
  have hm2 := Int.emod_lt_of_pos (zs[j]?.getD 0 + 10000 * dv 10000 l) hp
  rw [← hq] at hm
  refine ⟨by rw [List.length_set]; exact h1, h2.set _ ⟨hq0, hq1⟩, fun i hi => by rw [set_getD _ _ _ _ (by omega)]; exact h3 i (by omega), hl, tl, by omega, ?_⟩
  have e1 : zs.drop j = zs[j]?.getD 0 :: zs.drop (j + 1) := by rw [List.drop_eq_getElem_cons (by omega), List.getElem?_eq_getElem (by omega)]; rfl
  have e2 : (L.set j q).drop j = q :: L.drop (j + 1) := by
    rw [List.drop_eq_getElem_cons (by rw [List.length_set]; omega), List.getElem_set_self, List.drop_set_of_lt (by omega)]
  rw [e1, e2, dv, dv, h7, hv]
  grind
/-- what a quotient of the reference holds while it is made -/
def DivM (w : World) (G : Nat) (A : Option Addr) (n : Nat) (E : Option Addr) (m : Nat) (zs ys L : List Int) (wr : World) : Prop :=
  RowW .i64 wr G 3 L ∧ Sl .i64 wr w.heap.size A n zs ∧ Sl .i64 wr w.heap.size E m ys ∧ Below w.heap.size w wr ∧ w.heap.size ≤ G
section
variable {w wr : World} {A E : Option Addr} {n m G : Nat} {zs ys L : List Int}
theorem DivM.below {w' : World} (h : DivM w G A n E m zs ys L wr) (hb : Below wr.heap.size wr w') : DivM w G A n E m zs ys L w' :=
  have hs := h.2.2.2.1.size
  ⟨h.1.below hb h.1.lt, h.2.1.below (hb.mono hs), h.2.2.1.below (hb.mono hs), h.2.2.2.1.trans (hb.mono hs), h.2.2.2.2⟩
theorem DivM.set_ (h : DivM w G A n E m zs ys L wr) {j : Nat} (hj : j < L.length) (v : Int) : DivM w G A n E m zs ys (L.set j v) (wr.setCell ⟨G, j, none⟩ (.int .i64 v)) :=
  have hb : Below w.heap.size wr (wr.setCell ⟨G, j, none⟩ (.int .i64 v)) := (Below.refl _ _).setCell (p := ⟨G, j, none⟩) h.2.2.2.2 _
  ⟨h.1.set_ j hj v, h.2.1.below hb, h.2.2.1.below hb, h.2.2.2.1.trans hb, h.2.2.2.2⟩
theorem DivM.sl1 (h : DivM w G A n E m zs ys L wr) : Sl .i64 wr wr.heap.size A n zs := h.2.1.more h.2.2.2.1.size
theorem DivM.sl2 (h : DivM w G A n E m zs ys L wr) : Sl .i64 wr wr.heap.size E m ys := h.2.2.1.more h.2.2.2.1.size
end
theorem Sl.news {k : IntKind} {w : World} {B n : Nat} {ad : Addr} {zs : List Int} (h : Sl k w B (some ad) n zs) : (zs.map (Value.int k)).length = n * 1 ∧ ∀ j u, (zs.map (Value.int k))[j]? = some u → w.cell? (ad.add j) = some u := by
  refine ⟨by simp [h.1], fun j u hu => ?_⟩
  rw [List.getElem?_map] at hu
  rcases Nat.lt_or_ge j zs.length with h1 | h1
  · rw [List.getElem?_eq_getElem h1] at hu
    simp at hu
    subst hu
    obtain ⟨b, off, e, _, hc⟩ := h.at_ (by rw [← h.1]; omega)
    cases e
    rw [add_lit, hc j (by rw [← h.1]; exact h1), List.getElem?_eq_getElem h1]
    rfl
  · rw [List.getElem?_eq_none h1] at hu
    cases hu

/-- digits of the reference that make X -/
def NRes (X : Int) (A : Option Addr) (n c : Nat) (l : List Int) (w : World) : Prop := Sl .i64 w w.heap.size A n l ∧ n ≤ c ∧ c ≤ maxLen ∧ (A = none → c = 0) ∧ Dig 10000 l ∧ Top l ∧ dv 10000 l = X
theorem NRes.below {X : Int} {A : Option Addr} {n c : Nat} {l : List Int} {w w' : World} (h : NRes X A n c l w) (hb : Below w.heap.size w w') : NRes X A n c l w' := ⟨(h.1.below hb).more hb.size, h.2⟩
theorem NRes.off {X : Int} {A : Option Addr} {n c G j : Nat} {l : List Int} {w : World} {u : Value} (h : NRes X A n c l w) (hA : ∀ ad, A = some ad → ad.block ≠ G) : NRes X A n c l (w.setCell ⟨G, j, none⟩ u) := by
  refine ⟨⟨h.1.1, ?_⟩, h.2⟩
  rcases h.1.2 with h0 | ⟨b, off, rfl, hlt, hc⟩
  · exact .inl h0
  · exact .inr ⟨b, off, rfl, by simpa [World.setCell] using hlt, fun i hi => (World.cell?_of_block (w := w) (a := ⟨b, off + i, none⟩) (Below.heap_setCell _ _ _ _ (hA _ rfl))).trans (hc i hi)⟩
end Go.Proofs.YtgfhniiidejmoaaGreatDoor
