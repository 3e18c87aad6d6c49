/- The law WireOwn: its walk. -/
import Derived.Test.YtjnjglkmabnlfaaWireV
import Derived.Test.YtjnjglkmabnlfaaWireM3
namespace Go.Proofs.Ytjnjglkmabnlfaa
open Go.RowKit
set_option linter.unusedVariables false

/-- a writer whose row lies below B -/
def WrB (w : World) (p B : Nat) (bs : List Int) : Prop := ∃ v, Boxed w p 32 v ∧ w.ownsRow p 5 1 v bs.length (cB bs) ∧ (∀ g, v.ownBlock = some g → g < B) ∧ p < B ∧ B ≤ w.heap.size
theorem Wr.bound {w : World} {p : Nat} {bs : List Int} (h : Wr w p bs) : WrB w p w.heap.size bs := by
  obtain ⟨v, hv, hr⟩ := h
  exact ⟨v, hv, hr, fun g hg => (hr.lt g hg).2, hv.lt, Nat.le_refl _⟩
theorem WrB.wr {w : World} {p B : Nat} {bs : List Int} (h : WrB w p B bs) : Wr w p bs := by
  obtain ⟨v, hv, hr, _⟩ := h; exact ⟨v, hv, hr⟩
theorem WrB.below {w w' : World} {p B : Nat} {bs : List Int} (h : WrB w p B bs) (hb : Below w.heap.size w w') : WrB w' p B bs := by
  obtain ⟨v, hv, hr, h1, h2, h3⟩ := h
  exact ⟨v, (hb.block p hv.lt).trans hv, ownsRow_below' hr hb, h1, h2, Nat.le_trans h3 hb.size⟩
theorem WrB.kept {w w' : World} {p B : Nat} {bs : List Int} {row : Option Nat} (h : WrB w p B bs) (hg : w.grownBy w' row) (hr : ∀ g, row = some g → g < p ∨ B ≤ g) : WrB w' p B bs := by
  obtain ⟨v, hv, ho, h1, h2, h3⟩ := h
  refine ⟨v, hv.kept hg ?_, ho.kept hg ?_, h1, h2, Nat.le_trans h3 hg.size⟩
  · intro e
    rcases hr p e.symm with h | h <;> omega
  · cases hb : v.ownBlock with
    | none => exact .inl rfl
    | some g =>
      refine .inr fun e => ?_
      have a := h1 g hb
      have b := (ho.lt g hb).1
      rcases hr g e.symm with h | h <;> omega
/-- rows in different blocks -/
theorem own_apart {w w' : World} {base n size : Nat} {e : TypeId} {v : Value} {xs : List Value} {row : Option Nat} (h : w.ownsRow base e size v n xs) (hg : w.grownBy w' row) (hr : ∀ g, row = some g → g < base) : w'.ownsRow base e size v n xs := by
  refine h.kept hg ?_
  cases hb : v.ownBlock with
  | none => exact .inl rfl
  | some g =>
    refine .inr fun e => ?_
    have a := (h.lt g hb).1
    have := hr g e.symm
    omega
theorem own_apart' {w w' : World} {base n size : Nat} {e : TypeId} {v : Value} {xs : List Value} {row : Option Nat} (h : w.ownsRow base e size v n xs) (hg : w.grownBy w' row) (B : Nat) (hB : ∀ g, v.ownBlock = some g → g < B) (hr : ∀ g, row = some g → B ≤ g) : w'.ownsRow base e size v n xs := by
  refine h.kept hg ?_
  cases hb : v.ownBlock with
  | none => exact .inl rfl
  | some g =>
    refine .inr fun e => ?_
    have a := hB g hb
    have := hr g e.symm
    omega
/-- a loop that stores into a row of the call's own -/
def StoreRel (W wr : World) (base : Nat) (e : TypeId) (A : Option Addr) (n c : Nat) : Prop := ∃ xs, wr.ownsRow base e 1 (.slice A n c) n xs ∧ W.grownBy wr (Value.slice A n c).ownBlock
theorem store_step {W wr : World} {base n c k : Nat} {e : TypeId} {A : Option Addr} (h : StoreRel W wr base e A n c) (hk : k < n) (u : Value) :
    ∃ g v, A = some ⟨g, 0, none⟩ ∧ wr.cell? ⟨g, k, none⟩ = some v ∧ wr.frozen? ⟨g, k, none⟩ = false ∧ StoreRel W (wr.setCell ⟨g, k, none⟩ u) base e A n c := by
  obtain ⟨xs, ho, hg⟩ := h
  obtain ⟨g, c', hv, hb, hlt⟩ := own_slice ho (by omega)
  cases hv
  have hl : xs.length = n := by simpa using ho.1
  have hs := ho.stored k u
  refine ⟨g, xs[k]'(by omega), rfl, ?_, ho.frozenAt k, _, hs.1, grown_trans hg hs.2⟩
  rw [ho.cellAt k (by omega), List.getElem?_eq_getElem (by omega)]
theorem Rd.apart {t : TypeId} {w w' : World} {p B : Nat} {s : RS} {row : Option Nat} (h : Rd t w p B s) (hg : w.grownBy w' row) (hp : p < B) (hr : ∀ g, row = some g → B ≤ g) : Rd t w' p B s := by
  obtain ⟨A, n, c, h1, h2, h3, h4, h5, h6, h7⟩ := h
  have hb : Below B w w' := ⟨hg.os, hg.tape, hg.output, hg.size, fun k hk => hg.block k (by omega) (fun e => by have := hr k e.symm; omega)⟩
  exact ⟨A, n, c, (hb.block p hp).trans h1, h2, h3, h4, fun h0 => (h5 h0).below hb, h6, Nat.le_trans h7 hb.size⟩
theorem below_row {B : Nat} {w0 w w' : World} {row : Option Nat} (hb : Below B w0 w) (hg : w.grownBy w' row) (hB : B ≤ w.heap.size) (hr : ∀ g, row = some g → B ≤ g) : Below B w0 w' :=
  hb.trans ⟨hg.os, hg.tape, hg.output, hg.size, fun k hk => hg.block k (by omega) (fun e => by have := hr k e.symm; omega)⟩

theorem r_read' (A : Option Addr) (n c : Nat) (zs : List Int) (w : World) (h : Sl .u8 w w.heap.size A n zs) (hA : A = none → c = 0) (hn : n ≤ 1000000) :
    Calls Try.prog 20 #[.slice A n c] w fun e w' => ∃ p A1 c1, e = .returned (.pointer (some ⟨p, 0, none⟩)) ∧ w.heap.size ≤ p ∧ Blk2 w' p 77 (.slice A1 n c1) (.int .i64 0) ∧ w'.ownsRow w.heap.size 5 1 (.slice A1 n c1) n (cB zs) ∧ Below w.heap.size w w' := by
  go_enter Try.func20, Try.ntmps20
  go_wp2_with fail
  refine (clone_any A n c zs _ h hA hn).mono ?_
  rintro e w1 ⟨v, rfl, hown, hb⟩
  obtain ⟨A1, c1, rfl, hnc, hcm, hA1, hsl⟩ := own_sl (k := .u8) hown
  have HO := Lib.hid hown
  clear hsl hown hA1
  go_wp2_with fail
  go_ret
  have hw2 : Below w1.heap.size w1 (w1.alloc (.cells #[.slice A1 n c1, .int .i64 0] 77)) := (Below.refl _ _).alloc (Nat.le_refl _) _
  exact ⟨_, _, _, rfl, hb.size, Blk2.new _ _ _ _, ownsRow_below' HO.out hw2, hb.trans (hw2.mono hb.size)⟩
theorem rd_of {w : World} {p base n c : Nat} {A : Option Addr} {zs : List Int} (h : Blk2 w p 77 (.slice A n c) (.int .i64 0)) (ho : w.ownsRow base 5 1 (.slice A n c) n (cB zs)) (hz : ∀ b ∈ zs, byteI b) : RdW w p w.heap.size ⟨zs, 0⟩ := by
  obtain ⟨A', c', hv, h1, h2, h3, h4⟩ := own_sl (k := .u8) ho
  cases hv
  exact ⟨A, n, c, h, h1, h2, h3, fun _ => h4, ⟨hz, fun h => absurd rfl h, .inl rfl⟩, Nat.le_refl _⟩
theorem encR_byte (b : List Int) (h : ∀ x ∈ b, byteI x) : ∀ x ∈ encR b, byteI x := by
  intro x hx
  rcases List.mem_append.1 hx with hx | hx
  · exact encU_byte _ (by omega) x hx
  · exact h x hx
theorem encL_byte (l : List Int) (h : ∀ x ∈ l, i64 x) : ∀ x ∈ encL l, byteI x := by
  intro x hx
  rcases List.mem_append.1 hx with hx | hx
  · exact encU_byte _ (by omega) x hx
  · obtain ⟨n, hn, hx⟩ := List.mem_flatMap.1 hx
    exact encU_byte _ (zig_u64 n (h n hn)).1 x hx
theorem encR_len (b : List Int) (h : b.length ≤ 1000000) : (encR b).length ≤ b.length + 10 := by
  unfold encR; rw [List.length_append]; have := encU_len b.length (by unfold u64; omega); omega
theorem encL_len (l : List Int) (h : l.length ≤ 1000000) (hi : ∀ x ∈ l, i64 x) : (encL l).length ≤ 10 * l.length + 10 := by
  unfold encL; rw [List.length_append]; have := encU_len l.length (by unfold u64; omega); have := encL_nil_len l hi; omega
end Go.Proofs.Ytjnjglkmabnlfaa
