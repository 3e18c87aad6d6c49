/- A block of two cells; what leaves it alone. · Contracts of the reference of wide: normal. · Contracts of package wide's numbers: the closures, at, trimmed. -/
import Derived.Test.YtgfhniiidejmoaaGreatDoorB03
import Derived.RangeFuncBox
import Derived.Test.YtgfhniiidejmoaaGreatDoorB14
import Derived.Test.YtgfhniiidejmoaaGreatDoorB02
namespace Go.Proofs.YtgfhniiidejmoaaGreatDoor
open Go.RowKit
set_option linter.unusedVariables false

/-- block g holds the two cells x, y -/
def Blk2 (w : World) (g : Nat) (t : TypeId) (x y : Value) : Prop := w.heap[g]? = some (.cells #[x, y] t (0, 0))
theorem Blk2.lt {w : World} {g : Nat} {t : TypeId} {x y : Value} (h : Blk2 w g t x y) : g < w.heap.size := (Array.getElem?_eq_some_iff.1 h).1
theorem Blk2.c0 {w : World} {g : Nat} {t : TypeId} {x y : Value} (h : Blk2 w g t x y) : w.cell? ⟨g, 0, none⟩ = some x := by simp [World.cell?, show w.heap[g]? = _ from h]
theorem Blk2.c1 {w : World} {g : Nat} {t : TypeId} {x y : Value} (h : Blk2 w g t x y) : w.cell? ⟨g, 1, none⟩ = some y := by simp [World.cell?, show w.heap[g]? = _ from h]
theorem Blk2.f0 {w : World} {g : Nat} {t : TypeId} {x y : Value} (h : Blk2 w g t x y) : w.frozen? ⟨g, 0, none⟩ = false := by simp [World.frozen?, show w.heap[g]? = _ from h]
theorem Blk2.f1 {w : World} {g : Nat} {t : TypeId} {x y : Value} (h : Blk2 w g t x y) : w.frozen? ⟨g, 1, none⟩ = false := by simp [World.frozen?, show w.heap[g]? = _ from h]
theorem Blk2.new (w : World) (t : TypeId) (x y : Value) : Blk2 (w.alloc (.cells #[x, y] t)) w.heap.size t x y := World.alloc_heap_new w _
theorem Blk2.grown {w w' : World} {g : Nat} {t : TypeId} {x y : Value} {row : Option Nat} (h : Blk2 w g t x y) (hg : w.grownBy w' row) (hne : some g ≠ row) : Blk2 w' g t x y := (hg.block g h.lt hne).trans h
theorem Blk2.below {w w' : World} {g : Nat} {t : TypeId} {x y : Value} (h : Blk2 w g t x y) (hb : Below w.heap.size w w') : Blk2 w' g t x y := (hb.block g h.lt).trans h
theorem Blk2.set0 {w : World} {g : Nat} {t : TypeId} {x y : Value} (h : Blk2 w g t x y) (v : Value) : Blk2 (w.setCell ⟨g, 0, none⟩ v) g t v y := by
  unfold Blk2 at h ⊢
  simp [World.setCell, Array.getElem?_modify, h]
theorem Blk2.set1 {w : World} {g : Nat} {t : TypeId} {x y : Value} (h : Blk2 w g t x y) (v : Value) : Blk2 (w.setCell ⟨g, 1, none⟩ v) g t x v := by
  unfold Blk2 at h ⊢
  simp [World.setCell, Array.getElem?_modify, h]
/-- what is new since w may be stored into -/
theorem grown_far {w w3 : World} {row : Option Nat} (h : w.grownBy w3 row) {g j : Nat} {u : Value} (hg : w.heap.size ≤ g) : w.grownBy (w3.setCell ⟨g, j, none⟩ u) row :=
  ⟨h.os, h.tape, h.output, by simpa [World.setCell] using h.size, fun k hk hn => (Below.heap_setCell _ _ _ _ (by simp; omega)).trans (h.block k hk hn)⟩
end Go.Proofs.YtgfhniiidejmoaaGreatDoor
namespace Go.Proofs.YtgfhniiidejmoaaGreatDoor
open Go.RowKit
set_option linter.unusedVariables false

/-- an integer of the reference: its sign and its digits -/
def RepN (w : World) (B : Nat) (z : Int) (v : Value) : Prop :=
  ∃ A n c zs, v = .agg #[.bool (decide (z < 0)), .slice A n c] ∧ Sl .i64 w B A n zs ∧ n ≤ c ∧ c ≤ maxLen ∧ (A = none → c = 0) ∧ Dig 10000 zs ∧ Top zs ∧ dv 10000 zs = (z.natAbs : Int)
theorem RepN.below {w w' : World} {B : Nat} {z : Int} {v : Value} (h : RepN w B z v) (hb : Below B w w') : RepN w' B z v := by
  obtain ⟨A, n, c, zs, h1, h2, h3⟩ := h
  exact ⟨A, n, c, zs, h1, h2.below hb, h3⟩
theorem RepN.more {w : World} {B B' : Nat} {z : Int} {v : Value} (h : RepN w B z v) (hb : B ≤ B') : RepN w B' z v := by
  obtain ⟨A, n, c, zs, h1, h2, h3⟩ := h
  exact ⟨A, n, c, zs, h1, h2.more hb, h3⟩
def slLen : Value → Nat
  | .slice _ k _ => k
  | _ => 0
/-- what normal returns -/
def NormPost (B : Nat) (z : Int) (w : World) (e : Ending) (w' : World) : Prop := ∃ v, e = .returned v ∧ RepN w' B z v ∧ Below w.heap.size w w'
/-- the same, with the slice's place -/
def NormA (B : Nat) (A : Option Addr) (c : Nat) (z : Int) (w : World) (e : Ending) (w' : World) : Prop := ∃ d k, e = .returned (.agg #[.bool d, .slice A k c]) ∧ RepN w' B z (.agg #[.bool d, .slice A k c]) ∧ Below w.heap.size w w'
theorem NormPost.mk {B k c : Nat} {neg : Bool} {A : Option Addr} {zs : List Int} {w w' : World} (hd : Dig 10000 zs) (hk : k ≤ zs.length) (hs : Sl .i64 w' B A k (zs.take k)) (hn : k ≤ c) (hc : c ≤ maxLen) (hA : A = none → c = 0) (ht : Top (zs.take k)) (hv : dv 10000 (zs.take k) = dv 10000 zs)
    (hb : Below w.heap.size w w') (b : Bool) (hb' : b = (neg && decide (0 < k))) : NormA B A c (if neg then - dv 10000 zs else dv 10000 zs) w (.returned (.agg #[.bool b, .slice A k c])) w' := by
  have h0 := dv_nonneg (show (0 : Int) < 10000 by omega) hd
  have hkl : (zs.take k).length = k := by rw [List.length_take]; omega
  have hpos : 0 < k ↔ 0 < dv 10000 zs := by
    constructor
    · intro h
      have hne : zs.take k ≠ [] := fun e => by rw [e] at hkl; simp at hkl; omega
      have := top_ge (show (1 : Int) < 10000 by omega) (hd.take k) ht hne
      have := pow_pos' (show (0 : Int) < 10000 by omega) ((zs.take k).length - 1)
      omega
    · intro h
      rcases Nat.eq_zero_or_pos k with rfl | h1
      · simp [dv] at hv; omega
      · exact h1
  refine ⟨_, _, rfl, ⟨A, k, c, zs.take k, ?_, hs, hn, hc, hA, hd.take k, ht, ?_⟩, hb⟩
  · congr 3
    subst hb'
    cases neg
    · simp; omega
    · simp [hpos]
  · rw [hv]
    cases neg <;> simp <;> omega

set_option maxHeartbeats 1000000 in
theorem normal_at (neg : Bool) (A : Option Addr) (n c B : Nat) (zs : List Int) (w : World) (h : Sl .i64 w B A n zs) (hB : B ≤ w.heap.size) (hn : n ≤ c) (hc : c ≤ maxLen) (hA : A = none → c = 0) (hd : Dig 10000 zs) :
    Calls Tryz.prog 22 #[.bool neg, .slice A n c] w (NormA B A c (if neg then - dv 10000 zs else dv 10000 zs) w) := by
  have hl := h.len
  have HS := Lib.hid h
  have HD := Lib.hid hd
  have HA := Lib.hid hA
  have HL := Lib.hid hl
  have hc' := hc
  unfold maxLen at hc'
  have hal : ∀ o : Obj, Below w.heap.size w (w.alloc o) := fun o => (Below.refl _ _).alloc (Nat.le_refl _) _
  have HAL := Lib.hid hal
  obtain ⟨z, hz⟩ : ∃ z, z = if neg then - dv 10000 zs else dv 10000 zs := ⟨_, rfl⟩
  rw [← hz]
  have HZ := Lib.hid hz
  clear h hd hA hl hal hz
  go_enter Tryz.func22, Tryz.ntmps22
  go_wp2_with fail
  go_loopw [1] (fun d wr => ∃ k : Nat, k ≤ n ∧ d = .slice A k c ∧ Hid (dv 10000 (zs.take k) = dv 10000 zs) ∧ Below w.heap.size w wr ∧ Blk2 wr w.heap.size 26 (.bool false) (.slice none 0 0)) (fun d _ => slLen d)
  case atStart => exact ⟨n, Nat.le_refl _, rfl, by rw [List.take_of_length_le (by rw [HL.out]; omega)]; exact rfl, HAL.out _, Blk2.new _ _ _ _⟩
  case round =>
    obtain ⟨k, hk, rfl, HV, hb, hbk⟩ := hrel
    have HB := Lib.hid hb
    have f0 := hbk.f0
    have f1 := hbk.f1
    have c0 := hbk.c0
    have c1 := hbk.c1
    have HSW := Lib.hid ((HS.out.take k hk).below (hb.mono hB))
    have HBK := Lib.hid hbk
    clear hb hbk
    rcases Nat.eq_zero_or_pos k with rfl | hk0
    · have HT := Lib.hid (show Top (zs.take 0) by simp [Top])
      cases neg
      · go_wp2_with fail
        have hbs := ((HB.out.setCell (p := ⟨w.heap.size, 0, none⟩) (Nat.le_refl _) (.bool false)).setCell (p := ⟨w.heap.size, 1, none⟩) (Nat.le_refl _) (.slice A 0 c))
        refine bodyPost_ret (v := .agg #[.bool false, .slice A 0 c]) (by simp [results, Tryz.results22, go_sem, c0, c1]) rfl ?_
        rw [HZ.out]
        exact NormPost.mk (neg := false) HD.out (by rw [HL.out]; omega) (HSW.out.below ((((Below.refl _ _).setCell (p := ⟨w.heap.size, 0, none⟩) hB _)).setCell (p := ⟨w.heap.size, 1, none⟩) hB _)) (by omega) hc HA.out HT.out HV hbs _ (by simp)
      · go_wp2_with fail
        have hbs := ((HB.out.setCell (p := ⟨w.heap.size, 0, none⟩) (Nat.le_refl _) (.bool false)).setCell (p := ⟨w.heap.size, 1, none⟩) (Nat.le_refl _) (.slice A 0 c))
        refine bodyPost_ret (v := .agg #[.bool false, .slice A 0 c]) (by simp [results, Tryz.results22, go_sem, c0, c1]) rfl ?_
        rw [HZ.out]
        exact NormPost.mk (neg := true) HD.out (by rw [HL.out]; omega) (HSW.out.below ((((Below.refl _ _).setCell (p := ⟨w.heap.size, 0, none⟩) hB _)).setCell (p := ⟨w.heap.size, 1, none⟩) hB _)) (by omega) hc HA.out HT.out HV hbs _ (by simp)
    · obtain ⟨k, rfl⟩ : ∃ j, k = j + 1 := ⟨k - 1, by omega⟩
      obtain ⟨bl, off, rfl, hbl, hcl⟩ := HS.out.at_ (by omega)
      have hcell := (HB.out.cell (p := ⟨bl, off + k, none⟩) (by show bl < w.heap.size; omega)).trans (hcl k (by omega))
      obtain ⟨x, hx⟩ : ∃ x, x = zs[k]?.getD 0 := ⟨_, rfl⟩
      rw [← hx] at hcell
      have HX := Lib.hid hx
      clear hcl hx
      by_cases hx0 : x = 0
      · subst hx0
        have HV2 := Lib.hid (show dv 10000 (zs.take k) = dv 10000 zs by rw [← strip_step 10000 zs k HX.out.symm]; exact HV)
        go_wp2_with fail
        first
          | (go_roundw
             case rel => exact ⟨k, by omega, rfl, HV2.out, HB.out, HBK.out⟩
             case measure => simp [slLen])
          | exact ⟨⟨k, by omega, rfl, HV2.out, HB.out, HBK.out⟩, by simp [slLen]⟩
      · have hxf : (x == 0) = false := by simpa using hx0
        have HT := Lib.hid (show Top (zs.take (k + 1)) by
          unfold Top
          rw [List.getLast?_eq_getElem?, List.length_take, HL.out, Nat.min_eq_left hk, List.getElem?_take]
          rw [if_pos (by omega), show k + 1 - 1 = k by omega]
          intro e
          have := HX.out
          rw [e] at this
          exact hx0 this)
        cases neg
        · go_wp2_with fail
          have hbs := ((HB.out.setCell (p := ⟨w.heap.size, 0, none⟩) (Nat.le_refl _) (.bool false)).setCell (p := ⟨w.heap.size, 1, none⟩) (Nat.le_refl _) (.slice (some ⟨bl, off, none⟩) (k + 1) c))
          refine bodyPost_ret (v := .agg #[.bool false, .slice (some ⟨bl, off, none⟩) (k + 1) c]) (by simp [results, Tryz.results22, go_sem, c0, c1]) rfl ?_
          rw [HZ.out]
          exact NormPost.mk (neg := false) HD.out (by rw [HL.out]; omega) (HSW.out.below ((((Below.refl _ _).setCell (p := ⟨w.heap.size, 0, none⟩) hB _)).setCell (p := ⟨w.heap.size, 1, none⟩) hB _)) (by omega) hc HA.out HT.out HV hbs _ (by simp)
        · go_wp2_with fail
          have hbs := ((HB.out.setCell (p := ⟨w.heap.size, 0, none⟩) (Nat.le_refl _) (.bool true)).setCell (p := ⟨w.heap.size, 1, none⟩) (Nat.le_refl _) (.slice (some ⟨bl, off, none⟩) (k + 1) c))
          refine bodyPost_ret (v := .agg #[.bool true, .slice (some ⟨bl, off, none⟩) (k + 1) c]) (by simp [results, Tryz.results22, go_sem, c0, c1]) rfl ?_
          rw [HZ.out]
          exact NormPost.mk (neg := true) HD.out (by rw [HL.out]; omega) (HSW.out.below ((((Below.refl _ _).setCell (p := ⟨w.heap.size, 0, none⟩) hB _)).setCell (p := ⟨w.heap.size, 1, none⟩) hB _)) (by omega) hc HA.out HT.out HV hbs _ (by simp)
theorem normal_any (neg : Bool) (A : Option Addr) (n c B : Nat) (zs : List Int) (w : World) (h : Sl .i64 w B A n zs) (hB : B ≤ w.heap.size) (hn : n ≤ c) (hc : c ≤ maxLen) (hA : A = none → c = 0) (hd : Dig 10000 zs) :
    Calls Tryz.prog 22 #[.bool neg, .slice A n c] w (NormPost B (if neg then - dv 10000 zs else dv 10000 zs) w) :=
  (normal_at neg A n c B zs w h hB hn hc hA hd).mono fun _ _ h => by
    obtain ⟨d, k, h1, h2, h3⟩ := h
    exact ⟨_, h1, h2, h3⟩
end Go.Proofs.YtgfhniiidejmoaaGreatDoor
namespace Go.Proofs.YtgfhniiidejmoaaGreatDoor
open Go.RowKit
set_option linter.unusedVariables false

def slLenU : Value → Nat
  | .slice _ k _ => k
  | _ => 0
/-- block g is one cell -/
def Box1 (w : World) (g : Nat) (t : TypeId) (v : Value) : Prop := w.heap[g]? = some (.cells #[v] t (0, 0))
theorem Box1.c0 {w : World} {g : Nat} {t : TypeId} {v : Value} (h : Box1 w g t v) : w.cell? ⟨g, 0, none⟩ = some v := cell_of_one h
theorem Box1.f0 {w : World} {g : Nat} {t : TypeId} {v : Value} (h : Box1 w g t v) : w.frozen? ⟨g, 0, none⟩ = false := free_of_one h
theorem Box1.lt {w : World} {g : Nat} {t : TypeId} {v : Value} (h : Box1 w g t v) : g < w.heap.size := lt_of_block h
theorem Box1.new (w : World) (t : TypeId) (v : Value) : Box1 (w.alloc (.cells #[v] t)) w.heap.size t v := heap_alloc_new w _
theorem Box1.below {w w' : World} {g B : Nat} {t : TypeId} {v : Value} (h : Box1 w g t v) (hb : Below B w w') (hg : g < B) : Box1 w' g t v := (hb.block g hg).trans h
theorem Box1.set_ {w : World} {g : Nat} {t : TypeId} {v : Value} (h : Box1 w g t v) (u : Value) : Box1 (w.setCell ⟨g, 0, none⟩ u) g t u := one_setCell h
theorem Box1.far {w : World} {g : Nat} {t : TypeId} {v : Value} (h : Box1 w g t v) {p : Addr} (hp : g ≠ p.block) (u : Value) : Box1 (w.setCell p u) g t v := (Below.heap_setCell w p u g hp).trans h
theorem Box1.drewN {w : World} {g : Nat} {t : TypeId} {v : Value} (h : Box1 w g t v) (q : Nat) : Box1 (w.drewN q) g t v := h

theorem carry_any (g : Nat) (s c : Int) (w : World) (h : Box1 w g 22 (.int .u64 c)) (h0 : 0 ≤ s) (h1 : 0 ≤ c) (h2 : s + c ≤ 18446744073709551615) :
    Calls Tryz.prog 100 #[.int .u64 s, .pointer (some ⟨g, 0, none⟩)] w fun e w' => e = .returned (.int .u32 ((s + c) % 4294967296)) ∧ w' = w.setCell ⟨g, 0, none⟩ (.int .u64 ((s + c) / 4294967296)) := by
  have c0 := h.c0
  have f0 := h.f0
  clear h
  go_enter Tryz.func100, Tryz.ntmps100
  go_wp2_with fail
  go_ret
  exact ⟨rfl, rfl⟩
/-- what is borrowed from the next place -/
def borI (d l b : Int) : Int := if d - l - b < 0 then 1 else 0
theorem bor_wrap {d l b : Int} (h0 : 0 ≤ d ∧ d ≤ 4294967295) (h1 : 0 ≤ l ∧ l ≤ 4294967295) (h2 : 0 ≤ b ∧ b ≤ 1) :
    IntKind.u64.wrap (IntKind.u64.wrap (d - l) - b) % 4294967296 = (d - l - b) % 4294967296 ∧ IntKind.u64.wrap (IntKind.u64.wrap (d - l) - b) / 9223372036854775808 = borI d l b := by
  rw [IntKind.wrap_u64, IntKind.wrap_u64]
  unfold borI
  split <;> omega
theorem borrow_any (g : Nat) (d l b : Int) (w : World) (h : Box1 w g 22 (.int .u64 b)) (h0 : 0 ≤ d ∧ d ≤ 4294967295) (h1 : 0 ≤ l ∧ l ≤ 4294967295) (h2 : 0 ≤ b ∧ b ≤ 1) :
    Calls Tryz.prog 113 #[.int .u32 d, .int .u32 l, .pointer (some ⟨g, 0, none⟩)] w fun e w' => e = .returned (.int .u32 ((d - l - b) % 4294967296)) ∧ w' = w.setCell ⟨g, 0, none⟩ (.int .u64 (borI d l b)) := by
  have c0 := h.c0
  have f0 := h.f0
  clear h
  obtain ⟨d0, d1⟩ := h0
  obtain ⟨l0, l1⟩ := h1
  obtain ⟨b0, b1⟩ := h2
  have HW := Lib.hid (bor_wrap ⟨d0, d1⟩ ⟨l0, l1⟩ ⟨b0, b1⟩)
  go_enter Tryz.func113, Tryz.ntmps113
  go_wp2_with fail
  go_ret
  exact ⟨ret_int HW.out.1, by rw [HW.out.2]⟩
theorem nat_at (A : Option Addr) (n c i : Nat) (zs : List Int) (w : World) (h : Sl .u32 w w.heap.size A n zs) (hd : Dig 4294967296 zs) (hn : n ≤ 1000000) (hi : i ≤ 2000000) :
    Calls Tryz.prog 78 #[.slice A n c, .int .i64 i] w fun e w' => e = .returned (.int .u64 (zs[i]?.getD 0)) ∧ w = w' := by
  have hl := h.len
  by_cases hlt : i < n
  · obtain ⟨bl, off, rfl, hbl, hcl⟩ := h.at_ (by omega)
    have hcell := hcl i hlt
    have hb := hd.get (by omega) i
    obtain ⟨x, hx⟩ : ∃ x, x = zs[i]?.getD 0 := ⟨_, rfl⟩
    rw [← hx] at hcell hb ⊢
    obtain ⟨hb0, hb1⟩ := hb
    clear hcl h hl hx
    go_enter Tryz.func78, Tryz.ntmps78
    go_wp2
    go_ret
    exact ⟨rfl, rfl⟩
  · have e : zs[i]?.getD 0 = 0 := by rw [List.getElem?_eq_none (by omega)]; rfl
    rw [e]
    clear h hl e
    go_enter Tryz.func78, Tryz.ntmps78
    go_wp2
    go_ret
    exact ⟨rfl, rfl⟩

/-- a number of package wide: its digits to the base 2^32 -/
def NatR (w : World) (B : Nat) (x : Int) (A : Option Addr) (n c : Nat) (zs : List Int) : Prop := Sl .u32 w B A n zs ∧ n ≤ c ∧ c ≤ maxLen ∧ (A = none → c = 0) ∧ Dig 4294967296 zs ∧ Top zs ∧ dv 4294967296 zs = x
theorem NatR.below {w w' : World} {B : Nat} {x : Int} {A : Option Addr} {n c : Nat} {zs : List Int} (h : NatR w B x A n c zs) (hb : Below B w w') : NatR w' B x A n c zs := ⟨h.1.below hb, h.2⟩
theorem NatR.more {w : World} {B B' : Nat} {x : Int} {A : Option Addr} {n c : Nat} {zs : List Int} (h : NatR w B x A n c zs) (hb : B ≤ B') : NatR w B' x A n c zs := ⟨h.1.more hb, h.2⟩
/-- what trimmed returns -/
def TrimPost (B : Nat) (A : Option Addr) (c : Nat) (zs : List Int) (w : World) (e : Ending) (w' : World) : Prop := ∃ k, e = .returned (.slice A k c) ∧ k ≤ zs.length ∧ NatR w B (dv 4294967296 zs) A k c (zs.take k) ∧ w = w'
set_option maxHeartbeats 1000000 in
theorem trimmed_any (A : Option Addr) (n c B : Nat) (zs : List Int) (w : World) (h : Sl .u32 w B A n zs) (hn : n ≤ c) (hc : c ≤ maxLen) (hA : A = none → c = 0) (hd : Dig 4294967296 zs) :
    Calls Tryz.prog 51 #[.slice A n c] w (TrimPost B A c zs w) := by
  have hc' := hc
  unfold maxLen at hc'
  have HL := Lib.hid h.len
  have HS := Lib.hid h
  have HD := Lib.hid hd
  have HA := Lib.hid hA
  have HC := Lib.hid hc
  have HF := Lib.hid (fun (k : Nat) (hk : k ≤ n) (ht : Top (zs.take k)) (hv : dv 4294967296 (zs.take k) = dv 4294967296 zs) => show TrimPost B A c zs w (.returned (.slice A k c)) w from ⟨k, rfl, by rw [h.len]; exact hk, ⟨h.take k hk, by omega, hc, hA, hd.take k, ht, hv⟩, rfl⟩)
  clear h hA hd hc
  go_enter Tryz.func51, Tryz.ntmps51
  go_wp2_with fail
  go_loop [0] (fun d => ∃ k : Nat, k ≤ n ∧ d = .slice A k c ∧ Hid (dv 4294967296 (zs.take k) = dv 4294967296 zs)) (fun d => slLenU d)
  case atStart => exact ⟨n, Nat.le_refl _, rfl, by rw [List.take_of_length_le (by rw [HL.out]; omega)]; exact rfl⟩
  case round =>
    obtain ⟨k, hk, rfl, HV⟩ := hrel
    rcases Nat.eq_zero_or_pos k with rfl | hk0
    · have HR := Lib.hid (HF.out 0 (by omega) (by simp [Top]) HV.out)
      go_wp2_with fail
      go_ret
      exact HR.out
    · obtain ⟨k, rfl⟩ : ∃ j, k = j + 1 := ⟨k - 1, by omega⟩
      obtain ⟨bl, off, rfl, hbl, hcl⟩ := HS.out.at_ (by omega)
      have hcell := hcl k (by omega)
      obtain ⟨x, hx⟩ : ∃ x, x = zs[k]?.getD 0 := ⟨_, rfl⟩
      rw [← hx] at hcell
      have HX := Lib.hid hx
      clear hcl hx
      by_cases hx0 : x = 0
      · subst hx0
        have HV2 := Lib.hid (show dv 4294967296 (zs.take k) = dv 4294967296 zs by rw [← strip_step 4294967296 zs k HX.out.symm]; exact HV)
        go_wp2_with fail
        first
          | (go_round
             case rel => exact ⟨k, by omega, rfl, HV2.out⟩
             case measure => simp [slLenU])
          | exact ⟨⟨k, by omega, rfl, HV2.out⟩, by simp [slLenU]⟩
      · have hxf : (x == 0) = false := by simpa using hx0
        have HT := Lib.hid (show Top (zs.take (k + 1)) by
          unfold Top
          rw [List.getLast?_eq_getElem?, List.length_take, HL.out, Nat.min_eq_left hk, List.getElem?_take]
          rw [if_pos (by omega), show k + 1 - 1 = k by omega]
          intro e
          have := HX.out
          rw [e] at this
          exact hx0 this)
        have HR := Lib.hid (HF.out (k + 1) hk HT.out HV.out)
        go_wp2_with fail
        go_ret
        exact HR.out
end Go.Proofs.YtgfhniiidejmoaaGreatDoor
