/- Values in memory: structs of five cells with two rows, and rows of such structs. -/
import Derived.Test.YtjnjglkmabnlfaaWireLO
namespace Go.Proofs.Ytjnjglkmabnlfaa
open Go.RowKit
set_option linter.unusedVariables false

theorem tdiv6_bd (x : Int) (h0 : -9223372036854775808 ≤ x) (h1 : x ≤ 9223372036854775807) : -9223372036854775808 ≤ x.tdiv 6 ∧ x.tdiv 6 ≤ 9223372036854775807 := by
  by_cases h : 0 ≤ x
  · rw [Int.tdiv_eq_ediv_of_nonneg h]; omega
  · have e : x.tdiv 6 = -((-x) / 6) := by rw [← Int.tdiv_eq_ediv_of_nonneg (by omega : (0 : Int) ≤ -x), Int.neg_tdiv, Int.neg_neg]
    rw [e]; omega
theorem val_info : (Try.prog.info? 28).map (fun i => (i.zero, i.size, i.bytes)) = some (some (.agg #[.int .i64 0, .int .u64 0, .int .i64 0, .slice none 0 0, .slice none 0 0]), 5, 72) := by kernel_rfl
/-- five new cells -/
theorem cells_five (w : World) (t : TypeId) (a b c d e : Value) (q : Nat) (hq : q = w.heap.size) : ∀ j u, [a, b, c, d, e][j]? = some u → (w.alloc (.cells #[a, b, c, d, e] t)).cell? ((⟨q, 0, none⟩ : Addr).add j) = some u := by
  subst hq
  intro j u hu
  rw [add_lit, Nat.zero_add, cell_of_row _ _ _ _ _ _ (heap_alloc_new w _), ← hu]
  simp

/-- a slice below B whose block is one of cells of type e -/
def RowB (w : World) (B : Nat) (e : TypeId) (k : IntKind) (A : Option Addr) (n c : Nat) (zs : List Int) : Prop :=
  Sl k w B A n zs ∧ n ≤ c ∧ c ≤ maxLen ∧ (A = none → c = 0) ∧ ∀ ad, A = some ad → ad.block < B ∧ ∃ cur fr, w.heap[ad.block]? = some (.cells cur e fr)
section
variable {w w' : World} {B B' n c : Nat} {e : TypeId} {k : IntKind} {A : Option Addr} {zs : List Int}
theorem RowB.more (h : RowB w B e k A n c zs) (hB : B ≤ B') : RowB w B' e k A n c zs := ⟨h.1.more hB, h.2.1, h.2.2.1, h.2.2.2.1, fun ad ha => ⟨by have := (h.2.2.2.2 ad ha).1; omega, (h.2.2.2.2 ad ha).2⟩⟩
theorem RowB.below (h : RowB w B e k A n c zs) (hb : Below B w w') : RowB w' B e k A n c zs := by
  refine ⟨h.1.below hb, h.2.1, h.2.2.1, h.2.2.2.1, fun ad ha => ?_⟩
  obtain ⟨h1, cur, fr, h2⟩ := h.2.2.2.2 ad ha
  exact ⟨h1, cur, fr, (hb.block _ h1).trans h2⟩
theorem RowB.grown {g : Nat} {cs : Array Value} {t : TypeId} {fr' : Nat × Nat} (h : RowB w B e k A n c zs) (hg : w.grownBy w' (some g)) (hc : w.heap[g]? = some (.cells cs t fr')) (hne : t ≠ e) : RowB w' B e k A n c zs := by
  have hk : ∀ ad, A = some ad → w'.heap[ad.block]? = w.heap[ad.block]? := fun ad ha => by
    obtain ⟨h1, cur, fr, h2⟩ := h.2.2.2.2 ad ha
    refine hg.block _ (Array.getElem?_eq_some_iff.1 h2).1 (fun e' => ?_)
    have : ad.block = g := by injection e'
    rw [this, hc] at h2
    simp at h2
    exact hne h2.2.1
  refine ⟨⟨h.1.1, ?_⟩, h.2.1, h.2.2.1, h.2.2.2.1, fun ad ha => ?_⟩
  · rcases h.1.2 with h0 | ⟨b, off, rfl, hlt, hcl⟩
    · exact .inl h0
    · exact .inr ⟨b, off, rfl, hlt, fun j hj => (World.cell?_of_block (a := ⟨b, off + j, none⟩) (hk ⟨b, off, none⟩ rfl)).trans (hcl j hj)⟩
  · obtain ⟨h1, cur, fr, h2⟩ := h.2.2.2.2 ad ha
    exact ⟨h1, cur, fr, (hk ad ha).trans h2⟩
theorem RowB.nil : RowB w B e k none 0 0 [] := ⟨Sl.nil _ _ _ _, Nat.le_refl _, Nat.zero_le _, fun _ => rfl, fun ad h => by cases h⟩
theorem RowB.of_own {base : Nat} {v : Value} (h : w.ownsRow base e 1 v n (zs.map (Value.int k))) : ∃ A c, v = .slice A n c ∧ RowB w w.heap.size e k A n c zs := by
  obtain ⟨A, c, rfl, h1, h2, h3, h4⟩ := own_sl h
  refine ⟨A, c, rfl, h4, h1, h2, h3, fun ad ha => ?_⟩
  subst ha
  rcases h.2 with ⟨e1, _⟩ | ⟨g, cap, cur, e1, _, hh, _⟩
  · simp at e1
  · simp only [Value.slice.injEq, Option.some.injEq] at e1
    rw [e1.1]
    exact ⟨(Array.getElem?_eq_some_iff.1 hh).1, cur, _, hh⟩
end

/-- a value's rows -/
def VOk (w : World) (B : Nat) (v : V) (Ab : Option Addr) (cb : Nat) (Al : Option Addr) (cl : Nat) : Prop :=
  RowB w B 5 .u8 Ab v.b.length cb v.b ∧ RowB w B 3 .i64 Al v.l.length cl v.l
/-- a value's cells -/
def vCs (v : V) (Ab : Option Addr) (cb : Nat) (Al : Option Addr) (cl : Nat) : List Value := [.int .i64 v.k, .int .u64 v.u, .int .i64 v.n, .slice Ab v.b.length cb, .slice Al v.l.length cl]
/-- the cells of a row of values -/
def Desc (w : World) (B : Nat) : List V → List Value → Prop
  | [], cs => cs = []
  | v :: vs, cs => ∃ Ab cb Al cl rest, cs = vCs v Ab cb Al cl ++ rest ∧ VOk w B v Ab cb Al cl ∧ Desc w B vs rest
theorem VOk.below {w w' : World} {B : Nat} {v : V} {Ab Al : Option Addr} {cb cl : Nat} (h : VOk w B v Ab cb Al cl) (hb : Below B w w') : VOk w' B v Ab cb Al cl := ⟨h.1.below hb, h.2.below hb⟩
theorem VOk.more {w : World} {B B' : Nat} {v : V} {Ab Al : Option Addr} {cb cl : Nat} (h : VOk w B v Ab cb Al cl) (hB : B ≤ B') : VOk w B' v Ab cb Al cl := ⟨h.1.more hB, h.2.more hB⟩
theorem VOk.grown {w w' : World} {B g : Nat} {v : V} {Ab Al : Option Addr} {cb cl : Nat} {cs : Array Value} {t : TypeId} (h : VOk w B v Ab cb Al cl) (hg : w.grownBy w' (some g)) (hc : w.heap[g]? = some (.cells cs t (0, 0))) (h5 : t ≠ 5) (h3 : t ≠ 3) : VOk w' B v Ab cb Al cl :=
  ⟨h.1.grown hg hc h5, h.2.grown hg hc h3⟩
theorem Desc.below {w w' : World} {B : Nat} (hb : Below B w w') : ∀ {vs : List V} {cs : List Value}, Desc w B vs cs → Desc w' B vs cs
  | [], _, h => h
  | _ :: _, _, ⟨Ab, cb, Al, cl, rest, h1, h2, h3⟩ => ⟨Ab, cb, Al, cl, rest, h1, h2.below hb, Desc.below hb h3⟩
theorem Desc.more {w : World} {B B' : Nat} (hB : B ≤ B') : ∀ {vs : List V} {cs : List Value}, Desc w B vs cs → Desc w B' vs cs
  | [], _, h => h
  | _ :: _, _, ⟨Ab, cb, Al, cl, rest, h1, h2, h3⟩ => ⟨Ab, cb, Al, cl, rest, h1, h2.more hB, Desc.more hB h3⟩
theorem Desc.grown {w w' : World} {B g : Nat} {cu : Array Value} (hg : w.grownBy w' (some g)) (hc : w.heap[g]? = some (.cells cu 28 (0, 0))) : ∀ {vs : List V} {cs : List Value}, Desc w B vs cs → Desc w' B vs cs
  | [], _, h => h
  | _ :: _, _, ⟨Ab, cb, Al, cl, rest, h1, h2, h3⟩ => ⟨Ab, cb, Al, cl, rest, h1, h2.grown hg hc (by decide) (by decide), Desc.grown hg hc h3⟩
theorem Desc.append {w : World} {B : Nat} : ∀ {vs us : List V} {cs ds : List Value}, Desc w B vs cs → Desc w B us ds → Desc w B (vs ++ us) (cs ++ ds)
  | [], _, _, _, h, h2 => by have : _ = [] := h; subst this; exact h2
  | v :: vs, us, cs, ds, ⟨Ab, cb, Al, cl, rest, h1, h2, h3⟩, h4 => ⟨Ab, cb, Al, cl, rest ++ ds, by rw [h1, List.append_assoc], h2, Desc.append h3 h4⟩
theorem Desc.one {w : World} {B : Nat} {v : V} {Ab Al : Option Addr} {cb cl : Nat} (h : VOk w B v Ab cb Al cl) : Desc w B [v] (vCs v Ab cb Al cl) := ⟨Ab, cb, Al, cl, [], by simp, h, rfl⟩
theorem Desc.len {w : World} {B : Nat} : ∀ {vs : List V} {cs : List Value}, Desc w B vs cs → cs.length = 5 * vs.length
  | [], _, h => by have : _ = [] := h; subst this; rfl
  | _ :: _, _, ⟨Ab, cb, Al, cl, rest, h1, h2, h3⟩ => by rw [h1, List.length_append, Desc.len h3]; simp [vCs]; omega
theorem Desc.at_ {w : World} {B : Nat} : ∀ {vs : List V} {cs : List Value}, Desc w B vs cs → ∀ i (hi : i < vs.length), ∃ Ab cb Al cl, VOk w B vs[i] Ab cb Al cl ∧
    cs[5 * i]? = some (.int .i64 vs[i].k) ∧ cs[5 * i + 1]? = some (.int .u64 vs[i].u) ∧ cs[5 * i + 2]? = some (.int .i64 vs[i].n) ∧ cs[5 * i + 3]? = some (.slice Ab vs[i].b.length cb) ∧ cs[5 * i + 4]? = some (.slice Al vs[i].l.length cl)
  | [], _, _ => fun i hi => by simp at hi
  | v :: vs, cs, ⟨Ab, cb, Al, cl, rest, h1, h2, h3⟩ => fun i hi => by
    subst h1
    cases i with
    | zero => exact ⟨Ab, cb, Al, cl, h2, by simp [vCs], by simp [vCs], by simp [vCs], by simp [vCs], by simp [vCs]⟩
    | succ i =>
      obtain ⟨Ab', cb', Al', cl', k1, k2, k3, k4, k5, k6⟩ := Desc.at_ h3 i (by simpa using hi)
      have hsh : ∀ f, (vCs v Ab cb Al cl ++ rest)[5 * (i + 1) + f]? = rest[5 * i + f]? := fun f => by
        rw [List.getElem?_append_right (by simp [vCs]; omega)]
        congr 1
        simp [vCs]; omega
      refine ⟨Ab', cb', Al', cl', by simpa using k1, ?_, ?_, ?_, ?_, ?_⟩
      · have := hsh 0; simp only [Nat.add_zero] at this; rw [this]; simpa using k2
      · rw [hsh 1]; simpa using k3
      · rw [hsh 2]; simpa using k4
      · rw [hsh 3]; simpa using k5
      · rw [hsh 4]; simpa using k6
theorem Desc.take {w : World} {B : Nat} : ∀ {vs : List V} {cs : List Value}, Desc w B vs cs → ∀ k, Desc w B (vs.take k) (cs.take (5 * k))
  | [], _, h => fun k => by have : _ = [] := h; subst this; simp [Desc]
  | v :: vs, cs, ⟨Ab, cb, Al, cl, rest, h1, h2, h3⟩ => fun k => by
    cases k with
    | zero => simp [Desc]
    | succ k =>
      refine ⟨Ab, cb, Al, cl, rest.take (5 * k), ?_, h2, Desc.take h3 k⟩
      rw [h1, List.take_append]
      rw [List.take_of_length_le (by simp [vCs]; omega), show 5 * (k + 1) - (vCs v Ab cb Al cl).length = 5 * k by simp [vCs]; omega]

/-- a slice of values that reads as vs -/
def SlV (w : World) (B : Nat) (A : Option Addr) (n : Nat) (vs : List V) : Prop :=
  ∃ cs, Desc w B vs cs ∧ vs.length = n ∧ (n = 0 ∨ ∃ g, A = some ⟨g, 0, none⟩ ∧ g < B ∧ ∀ j, j < 5 * n → w.cell? ⟨g, j, none⟩ = cs[j]?)
theorem SlV.len {w : World} {B n : Nat} {A : Option Addr} {vs : List V} (h : SlV w B A n vs) : vs.length = n := by obtain ⟨_, _, h, _⟩ := h; exact h
theorem SlV.below {w w' : World} {B n : Nat} {A : Option Addr} {vs : List V} (h : SlV w B A n vs) (hb : Below B w w') : SlV w' B A n vs := by
  obtain ⟨cs, h1, h2, h3⟩ := h
  refine ⟨cs, h1.below hb, h2, ?_⟩
  rcases h3 with h0 | ⟨g, rfl, hg, hc⟩
  · exact .inl h0
  · exact .inr ⟨g, rfl, hg, fun j hj => (hb.cell (p := ⟨g, j, none⟩) hg).trans (hc j hj)⟩
theorem SlV.more {w : World} {B B' n : Nat} {A : Option Addr} {vs : List V} (h : SlV w B A n vs) (hB : B ≤ B') : SlV w B' A n vs := by
  obtain ⟨cs, h1, h2, h3⟩ := h
  refine ⟨cs, h1.more hB, h2, ?_⟩
  rcases h3 with h0 | ⟨g, rfl, hg, hc⟩
  · exact .inl h0
  · exact .inr ⟨g, rfl, by omega, hc⟩
theorem SlV.drewN {w : World} {B n : Nat} {A : Option Addr} {vs : List V} (h : SlV w B A n vs) (q : Nat) : SlV (w.drewN q) B A n vs := by
  refine h.below ⟨rfl, rfl, rfl, Nat.le_refl _, fun _ _ => rfl⟩
theorem SlV.take {w : World} {B n : Nat} {A : Option Addr} {vs : List V} (h : SlV w B A n vs) (k : Nat) (hk : k ≤ n) : SlV w B A k (vs.take k) := by
  obtain ⟨cs, h1, h2, h3⟩ := h
  refine ⟨cs.take (5 * k), h1.take k, by rw [List.length_take]; omega, ?_⟩
  rcases h3 with h0 | ⟨g, rfl, hg, hc⟩
  · exact .inl (by omega)
  · refine .inr ⟨g, rfl, hg, fun j hj => ?_⟩
    rw [hc j (by omega), List.getElem?_take, if_pos hj]
theorem SlV.at_ {w : World} {B n : Nat} {A : Option Addr} {vs : List V} (h : SlV w B A n vs) (i : Nat) (hi : i < n) (hv : i < vs.length) : ∃ g Ab cb Al cl, A = some ⟨g, 0, none⟩ ∧ g < B ∧ VOk w B vs[i] Ab cb Al cl ∧
    w.cell? ⟨g, i * 5, none⟩ = some (.int .i64 vs[i].k) ∧ w.cell? ⟨g, i * 5 + 1, none⟩ = some (.int .u64 vs[i].u) ∧ w.cell? ⟨g, i * 5 + 2, none⟩ = some (.int .i64 vs[i].n) ∧
    w.cell? ⟨g, i * 5 + 3, none⟩ = some (.slice Ab vs[i].b.length cb) ∧ w.cell? ⟨g, i * 5 + 4, none⟩ = some (.slice Al vs[i].l.length cl) := by
  obtain ⟨cs, h1, h2, h3⟩ := h
  rcases h3 with h0 | ⟨g, rfl, hg, hc⟩
  · omega
  · obtain ⟨Ab, cb, Al, cl, k1, k2, k3, k4, k5, k6⟩ := h1.at_ i hv
    rw [Nat.mul_comm 5 i] at k2 k3 k4 k5 k6
    exact ⟨g, Ab, cb, Al, cl, rfl, hg, k1, (hc _ (by omega)).trans k2, (hc _ (by omega)).trans k3, (hc _ (by omega)).trans k4, (hc _ (by omega)).trans k5, (hc _ (by omega)).trans k6⟩

theorem own_shape {w : World} {base n size : Nat} {e : TypeId} {v : Value} {xs : List Value} (h : w.ownsRow base e size v n xs) : ∃ A c, v = .slice A n c ∧ n ≤ c ∧ c ≤ maxLen := by
  rcases h.2 with ⟨rfl, rfl⟩ | ⟨g, cap, cur, rfl, hb, hg, hnc, hm, hcs, ht⟩
  · exact ⟨none, 0, rfl, Nat.le_refl _, Nat.zero_le _⟩
  · exact ⟨_, cap, rfl, hnc, hm⟩
/-- a row of values of the call's own -/
def OwnV (w : World) (base : Nat) (v : Value) (n : Nat) (vs : List V) : Prop := ∃ cs, w.ownsRow base 28 5 v n cs ∧ Desc w w.heap.size vs cs ∧ vs.length = n
theorem OwnV.nil (w : World) (base : Nat) : OwnV w base (.slice none 0 0) 0 [] := ⟨[], World.ownsRow_nil _ _ _ _, rfl, rfl⟩
theorem own_below5 {w w' : World} {base n size : Nat} {e : TypeId} {v : Value} {xs : List Value} (h : w.ownsRow base e size v n xs) (hb : Below w.heap.size w w') : w'.ownsRow base e size v n xs := ownsRow_below' h hb
theorem OwnV.below {w w' : World} {base n : Nat} {v : Value} {vs : List V} (h : OwnV w base v n vs) (hb : Below w.heap.size w w') : OwnV w' base v n vs := by
  obtain ⟨cs, h1, h2, h3⟩ := h
  exact ⟨cs, own_below5 h1 hb, (h2.below hb).more hb.size, h3⟩
theorem OwnV.slice {w : World} {base n : Nat} {v : Value} {vs : List V} (h : OwnV w base v n vs) : ∃ A c, v = .slice A n c ∧ n ≤ c ∧ c ≤ maxLen ∧ SlV w w.heap.size A n vs := by
  obtain ⟨cs, h1, h2, h3⟩ := h
  rcases h1.2 with ⟨rfl, rfl⟩ | ⟨g, cap, cur, rfl, hb, hg, hnc, hm, hcs, ht⟩
  · exact ⟨none, 0, rfl, Nat.le_refl _, Nat.zero_le _, cs, h2, h3, .inl rfl⟩
  · exact ⟨_, cap, rfl, hnc, hm, cs, h2, h3, .inr ⟨g, rfl, (Array.getElem?_eq_some_iff.1 hg).1, fun j hj => h1.cellAt j (by omega)⟩⟩
end Go.Proofs.Ytjnjglkmabnlfaa
