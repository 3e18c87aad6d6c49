/- Contracts of the reference of wide: Div. -/
import Derived.Test.YtgfhniiidejmoaaDoorA23
namespace Go.Proofs.YtgfhniiidejmoaaDoor
open Go.RowKit
set_option linter.unusedVariables false

def DivQ (x y : Int) (w : World) (e : Ending) (w' : World) : Prop := ∃ u v, e = .returned (.tuple #[u, v]) ∧ RepN w' w'.heap.size x u ∧ RepN w' w'.heap.size y v ∧ Below w.heap.size w w'
/-- the boxes of a quotient -/
def DvE (w : World) (A : Option Addr) (n c : Nat) (E : Option Addr) (m f : Nat) (b1 b2 : Bool) (zs ys : List Int) (wr : World) : Prop :=
  Blk2 wr w.heap.size 69 (.bool b1) (.slice A n c) ∧ Blk2 wr (w.heap.size + 1) 69 (.bool b2) (.slice E m f) ∧ Blk2 wr (w.heap.size + 1 + 1) 69 (.bool false) (.slice none 0 0) ∧ Blk2 wr (w.heap.size + 1 + 1 + 1) 69 (.bool false) (.slice none 0 0) ∧
  Sl .i64 wr w.heap.size A n zs ∧ Sl .i64 wr w.heap.size E m ys ∧ Below w.heap.size w wr
theorem DvE.below {w wr w' : World} {A E : Option Addr} {n c m f : Nat} {b1 b2 : Bool} {zs ys : List Int} (h : DvE w A n c E m f b1 b2 zs ys wr) (hb : Below wr.heap.size wr w') : DvE w A n c E m f b1 b2 zs ys w' :=
  have hs := h.2.2.2.2.2.2.size
  ⟨h.1.below hb, h.2.1.below hb, h.2.2.1.below hb, h.2.2.2.1.below hb, h.2.2.2.2.1.below (hb.mono hs), h.2.2.2.2.2.1.below (hb.mono hs), h.2.2.2.2.2.2.trans (hb.mono hs)⟩
theorem DvE.set2 {w wr : World} {A E : Option Addr} {n c m f R : Nat} {b1 b2 : Bool} {zs ys : List Int} {u v : Value} (h : DvE w A n c E m f b1 b2 zs ys wr) (hR : w.heap.size + 1 + 1 + 1 < R) : DvE w A n c E m f b1 b2 zs ys ((wr.setCell ⟨R, 0, none⟩ u).setCell ⟨R, 1, none⟩ v) :=
  have hb : Below (w.heap.size + 1 + 1 + 1 + 1) wr ((wr.setCell ⟨R, 0, none⟩ u).setCell ⟨R, 1, none⟩ v) := ((Below.refl _ _).setCell (p := ⟨R, 0, none⟩) hR _).setCell (p := ⟨R, 1, none⟩) hR _
  have hb0 := hb.mono (show w.heap.size ≤ w.heap.size + 1 + 1 + 1 + 1 by omega)
  ⟨(hb.block _ (by omega)).trans h.1, (hb.block _ (by omega)).trans h.2.1, (hb.block _ (by omega)).trans h.2.2.1, (hb.block _ (by omega)).trans h.2.2.2.1, h.2.2.2.2.1.below hb0, h.2.2.2.2.2.1.below hb0, h.2.2.2.2.2.2.trans hb0⟩
theorem DvE.start (w : World) (A : Option Addr) (n c : Nat) (E : Option Addr) (m f : Nat) (b1 b2 : Bool) (zs ys : List Int) (h : Sl .i64 w w.heap.size A n zs) (k : Sl .i64 w w.heap.size E m ys) :
    ∃ W, W = (((w.alloc (.cells #[.bool b1, .slice A n c] 69)).alloc (.cells #[.bool b2, .slice E m f] 69)).alloc (.cells #[.bool false, .slice none 0 0] 69)).alloc (.cells #[.bool false, .slice none 0 0] 69) ∧ DvE w A n c E m f b1 b2 zs ys W := by
  obtain ⟨W, hW, hB, hS, p1, p2, p3⟩ := boxes3 w 69 (.bool b1) (.slice A n c) (.bool b2) (.slice E m f) (.bool false) (.slice none 0 0)
  refine ⟨_, rfl, ?_⟩
  rw [← hW]
  have hb : Below W.heap.size W (W.alloc (.cells #[.bool false, .slice none 0 0] 69)) := (Below.refl _ _).alloc (Nat.le_refl _) _
  have hn := Blk2.new W 69 (.bool false) (.slice none 0 0)
  rw [hS] at hn
  have hB2 := hB.trans (hb.mono hB.size)
  exact ⟨p1.below hb, p2.below hb, p3.below hb, hn, h.below hB2, k.below hB2, hB2⟩
theorem NRes.alloc {X : Int} {A : Option Addr} {n c : Nat} {l : List Int} {w : World} (h : NRes X A n c l w) (o : Obj) : NRes X A n c l (w.alloc o) := h.below ((Below.refl _ _).alloc (Nat.le_refl _) _)

theorem Blk2.set2 {w : World} {R S : Nat} {t : TypeId} {a b u v : Value} (h : Blk2 w S t a b) (hne : S ≠ R) : Blk2 ((w.setCell ⟨R, 0, none⟩ u).setCell ⟨R, 1, none⟩ v) S t a b := (set2_heap w R u v S hne).trans h
theorem below_set2 {B R : Nat} {a w : World} {u v : Value} (h : Below B a w) (hR : B ≤ R) : Below B a ((w.setCell ⟨R, 0, none⟩ u).setCell ⟨R, 1, none⟩ v) := (h.setCell (p := ⟨R, 0, none⟩) hR _).setCell (p := ⟨R, 1, none⟩) hR _
theorem size_set2 (w : World) (R : Nat) (u v : Value) : ((w.setCell ⟨R, 0, none⟩ u).setCell ⟨R, 1, none⟩ v).heap.size = w.heap.size := by simp [World.setCell]
theorem NRes.stored {X : Int} {A : Option Addr} {n c R : Nat} {l : List Int} {w : World} {u u' : Value} {b0 : Bool} {A0 : Option Addr} {n0 k0 : Nat} {t : TypeId} (h : NRes X A n c l w) (hk : Blk2 w R t (.bool b0) (.slice A0 n0 k0)) : NRes X A n c l ((w.setCell ⟨R, 0, none⟩ u).setCell ⟨R, 1, none⟩ u') :=
  ⟨by rw [size_set2]; exact h.1.off_blk hk (set2_heap _ _ _ _), h.2⟩
theorem RepN.drew {w : World} {B : Nat} {z : Int} {v : Value} (h : RepN w B z v) : RepN w.drew B z v := h
theorem divq_ret {w W : World} {x y : Int} {R S : Nat} {t : TypeId} {d d' b0 b1 : Bool} {A A' A0 A1 : Option Addr} {n c n' c' n0 c0 n1 c1 : Nat} (hx : RepN W W.heap.size x (.agg #[.bool d, .slice A n c])) (hy : RepN W W.heap.size y (.agg #[.bool d', .slice A' n' c']))
    (k1 : Blk2 W R t (.bool b0) (.slice A0 n0 c0)) (k2 : Blk2 W S t (.bool b1) (.slice A1 n1 c1)) (hb : Below w.heap.size w W) (hR : w.heap.size ≤ R) (hS : w.heap.size ≤ S) (hne : S ≠ R) :
    DivQ x y w (.returned (.tuple #[.agg #[.bool d, .slice A n c], .agg #[.bool d', .slice A' n' c']])) ((((W.setCell ⟨R, 0, none⟩ (.bool d)).setCell ⟨R, 1, none⟩ (.slice A n c)).setCell ⟨S, 0, none⟩ (.bool d')).setCell ⟨S, 1, none⟩ (.slice A' n' c')).drew := by
  have k2' := k2.set2 (u := .bool d) (v := .slice A n c) hne
  have hx' := (hx.stored (u := .bool d) (u' := .slice A n c) k1).stored (u := .bool d') (u' := .slice A' n' c') k2'
  have hy' := (hy.stored (u := .bool d) (u' := .slice A n c) k1).stored (u := .bool d') (u' := .slice A' n' c') k2'
  have hs : W.heap.size ≤ ((((W.setCell ⟨R, 0, none⟩ (.bool d)).setCell ⟨R, 1, none⟩ (.slice A n c)).setCell ⟨S, 0, none⟩ (.bool d')).setCell ⟨S, 1, none⟩ (.slice A' n' c')).drew.heap.size := (below_set2 (below_set2 (Below.refl 0 W) (Nat.zero_le _)) (Nat.zero_le _)).drew.size
  exact ⟨_, _, rfl, hx'.drew.more hs, hy'.drew.more hs, (below_set2 (below_set2 hb hR) hS).drew⟩
theorem NRes.zero {X : Int} {A : Option Addr} {n c : Nat} {l : List Int} {w : World} (h : NRes X A n c l w) : n = 0 ↔ X = 0 := by
  constructor
  · rintro rfl
    have : l = [] := List.eq_nil_of_length_eq_zero h.1.len
    rw [← h.2.2.2.2.2.2, this]; rfl
  · intro h0
    rcases Nat.eq_zero_or_pos n with h1 | h1
    · exact h1
    · have h2 := top_ge (show (1 : Int) < 10000 by omega) h.2.2.2.2.1 h.2.2.2.2.2.1 (fun e => by have := h.1.len; rw [e] at this; simp at this; omega)
      have h3 := pow_pos' (show (0 : Int) < 10000 by omega) (l.length - 1)
      rw [h.2.2.2.2.2.2] at h2
      omega
theorem NRes.rep {X : Int} {A : Option Addr} {n c : Nat} {l : List Int} {w : World} (h : NRes X A n c l w) (hX : 0 ≤ X) : RepN w w.heap.size X (.agg #[.bool false, .slice A n c]) :=
  ⟨A, n, c, l, by rw [decide_eq_false (by omega)], h.1, h.2.1, h.2.2.1, h.2.2.2.1, h.2.2.2.2.1, h.2.2.2.2.2.1, by rw [h.2.2.2.2.2.2]; omega⟩
theorem bits_ite {k : Nat} {q : Int} {b : Bool} (h : Bits k q) : Bits k (if b = true then -q else q) := by
  cases b
  · exact h
  · exact h.neg
theorem div_parts {x y a b : Int} {Q R : Int} (hx : (x.natAbs : Int) = Q * (y.natAbs : Int) + R) (hR0 : 0 ≤ R) (hR1 : R < (y.natAbs : Int)) (hQ : 0 ≤ Q) :
    (0 ≤ x → (if (!(decide (x < 0) == decide (y < 0))) = true then -Q else Q) = x / y ∧ R = x % y) ∧
    (x < 0 → R = 0 → (if (!(decide (x < 0) == decide (y < 0))) = true then -Q else Q) = x / y ∧ (0 : Int) = x % y) ∧
    (x < 0 → 0 < R → (if (!(decide (x < 0) == decide (y < 0))) = true then -Q else Q) + (if (!(decide (x < 0) == decide (y < 0))) = true then -1 else 1) = x / y ∧ (y.natAbs : Int) - R = x % y) := by
  have key : ∀ q r : Int, x = q * y + r → 0 ≤ r → r < (y.natAbs : Int) → q = x / y ∧ r = x % y := by
    intro q r h1 h2 h3
    have hy : y ≠ 0 := by intro e; subst e; simp at h3; omega
    have e1 : x / y = q := by
      rw [h1, Int.add_comm, Int.add_mul_ediv_right _ _ hy]
      have : r / y = 0 := by
        rcases Int.lt_or_le y 0 with h | h
        · have h4 := Int.ediv_emod_unique (a := r) (b := y) (r := r) (q := 0) |> fun h => h
          have : r / (-(-y)) = 0 := by rw [Int.ediv_neg, Int.ediv_eq_zero_of_lt h2 (by omega)]; rfl
          rwa [Int.neg_neg] at this
        · exact Int.ediv_eq_zero_of_lt h2 (by omega)
      omega
    have h4 := Int.mul_ediv_add_emod x y
    rw [e1] at h4
    rw [Int.mul_comm] at h4
    exact ⟨e1.symm, by omega⟩
  have hyn : y < 0 → (y.natAbs : Int) = -y := fun h => by omega
  have hyp : 0 ≤ y → (y.natAbs : Int) = y := fun h => by omega
  refine ⟨fun h => ?_, fun h h0 => ?_, fun h h0 => ?_⟩
  · have hd : decide (x < 0) = false := decide_eq_false (by omega)
    rw [hd]
    rcases Int.lt_or_le y 0 with h1 | h1
    · rw [decide_eq_true h1]
      refine key _ _ ?_ hR0 hR1
      rw [hyn h1] at hx
      simp; rw [show (x.natAbs : Int) = x by omega] at hx; grind
    · rw [decide_eq_false (by omega)]
      refine key _ _ ?_ hR0 hR1
      rw [hyp h1] at hx
      simp; rw [show (x.natAbs : Int) = x by omega] at hx; grind
  · have hd : decide (x < 0) = true := decide_eq_true h
    rw [hd]
    rcases Int.lt_or_le y 0 with h1 | h1
    · rw [decide_eq_true h1]
      refine key _ _ ?_ (by omega) (by omega)
      rw [hyn h1] at hx
      simp; rw [show (x.natAbs : Int) = -x by omega] at hx; grind
    · rw [decide_eq_false (by omega)]
      refine key _ _ ?_ (by omega) (by omega)
      rw [hyp h1] at hx
      simp; rw [show (x.natAbs : Int) = -x by omega] at hx; grind
  · have hd : decide (x < 0) = true := decide_eq_true h
    rw [hd]
    rcases Int.lt_or_le y 0 with h1 | h1
    · rw [decide_eq_true h1]
      refine key _ _ ?_ (by omega) (by omega)
      rw [hyn h1] at hx ⊢
      simp; rw [show (x.natAbs : Int) = -x by omega] at hx; grind
    · rw [decide_eq_false (by omega)]
      refine key _ _ ?_ (by omega) (by omega)
      rw [hyp h1] at hx ⊢
      simp; rw [show (x.natAbs : Int) = -x by omega] at hx; grind

set_option maxRecDepth 100000 in
set_option maxHeartbeats 4000000 in
theorem div_any (x y : Int) (u v : Value) (w : World) (hx : RepN w w.heap.size x u) (hy : RepN w w.heap.size y v) (bx : Bits 60000 x) (by_ : Bits 60000 y) (hy0 : y ≠ 0) :
    Calls Tryd.prog 65 #[u, v] w (DivQ (x / y) (x % y) w) := by
  obtain ⟨A, n, c, zs, rfl, hs, hn, hc, hA, hd, ht, hv, hl⟩ := hx.parts (m := 5000) bx (by omega)
  obtain ⟨E, m, f, ys, rfl, ks, km, kf, kE, kd, kt, kv, kl⟩ := hy.parts (m := 5000) by_ (by omega)
  have hm1 : 1 ≤ m := by
    rcases Nat.eq_zero_or_pos m with rfl | h
    · have : ys = [] := List.eq_nil_of_length_eq_zero ks.len
      rw [this] at kv
      simp [dv] at kv
      omega
    · exact h
  obtain ⟨b1, hb1⟩ : ∃ b, b = decide (x < 0) := ⟨_, rfl⟩
  obtain ⟨b2, hb2⟩ : ∃ b, b = decide (y < 0) := ⟨_, rfl⟩
  rw [← hb1, ← hb2]
  obtain ⟨W, hW, hE⟩ := DvE.start w A n c E m f b1 b2 zs ys hs ks
  have HW := Lib.hid hW
  have HE := Lib.hid hE
  have HV := Lib.hid hv
  have KV := Lib.hid kv
  have HB1 := Lib.hid hb1
  have HB2 := Lib.hid hb2
  have HC := Lib.hid (divided_any A E n c m f zs ys W (hE.2.2.2.2.1.more hE.2.2.2.2.2.2.size) (hE.2.2.2.2.2.1.more hE.2.2.2.2.2.2.size) hl kl hd kd kt hm1 hn hc hA km kf kE)
  clear hW hE hv kv hx hy bx by_ hs ks hA kE hd ht kt hb1 hb2
  go_enter Tryd.func65, Tryd.ntmps65
  go_wp2_with fail
  rw [← HW.out]
  clear HW
  refine HC.out.mono ?_
  rintro e w1 h1
  obtain ⟨A1, n1, c1, L, A2, n2, c2, l, rfl, s1, t1, t2, t3, s2, t4, t5, t6, t7, t8, t9, t10, t11, t12, b1'⟩ := h1
  have HE1 := Lib.hid (HE.out.below b1')
  have d0 := HE1.out.1.c0
  have d1 := HE1.out.2.1.c0
  have HN1 := Lib.hid (normal_any (!(b1 == b2)) A1 n1 c1 w1.heap.size L w1 s1 (Nat.le_refl _) t1 t2 t3 t7)
  have HL2 := Lib.hid (show NRes (dv 10000 l) A2 n2 c2 l w1 from ⟨s2, t4, t5, t6, t8, t9, rfl⟩)
  have HX := Lib.hid t11
  have HR := Lib.hid t12
  have HQ0 := Lib.hid (dv_nonneg (show (0 : Int) < 10000 by omega) t7)
  have HQB := Lib.hid (bits_dv t7 (by rw [t10]; exact hl))
  have HYD := Lib.hid kd
  clear s1 t1 t2 t3 s2 t4 t5 t6 t7 t8 t9 t10 t11 t12 b1' HC HE kd
  go_wp2_with fail
  refine HN1.out.mono ?_
  rintro e w2 h2
  obtain ⟨v2, rfl, r2, b2'⟩ := h2
  obtain ⟨d2, A3, n3, c3, rfl⟩ := r2.shape
  obtain ⟨gx, hgx⟩ : ∃ gx, gx = w2.heap.size := ⟨_, rfl⟩
  have hal := (Below.refl w2.heap.size w2).alloc (Nat.le_refl _) (.cells #[.bool d2, .slice A3 n3 c3] 69)
  have HKX := Lib.hid (Blk2.new w2 69 (.bool d2) (.slice A3 n3 c3))
  rw [← hgx] at HKX
  have HRX := Lib.hid (((r2.more b2'.size).below hal).more hal.size)
  have HL3 := Lib.hid ((HL2.out.below b2').below hal)
  have HE2 := Lib.hid ((HE1.out.below b2').below hal)
  have HN2 := Lib.hid (normal_any false A2 n2 c2 (w2.alloc (.cells #[.bool d2, .slice A3 n3 c3] 69)).heap.size l _ HL3.out.1 (Nat.le_refl _) HL3.out.2.1 HL3.out.2.2.1 HL3.out.2.2.2.1 HL3.out.2.2.2.2.1)
  have hgxl : w.heap.size + 1 + 1 + 1 < gx := by rw [hgx]; exact (HE1.out.below b2').2.2.2.1.lt
  have HGX := Lib.hid hgx
  clear r2 b2' d0 d1 HE1 HN1 HL2 hal hgx
  go_wp2_with fail
  refine HN2.out.mono ?_
  rintro e w3 h3
  obtain ⟨v3, rfl, r3, b3'⟩ := h3
  obtain ⟨A4, n4, c4, l4, rfl, s4⟩ := NRes.of_rep r3 b3'.size (dv_nonneg (by omega) HL3.out.2.2.2.2.1)
  have hal := (Below.refl w3.heap.size w3).alloc (Nat.le_refl _) (.cells #[.bool false, .slice A4 n4 c4] 69)
  obtain ⟨W4, hW4⟩ : ∃ W4, W4 = w3.alloc (.cells #[.bool false, .slice A4 n4 c4] 69) := ⟨_, rfl⟩
  obtain ⟨gy, hgy⟩ : ∃ gy, gy = w3.heap.size := ⟨_, rfl⟩
  rw [← hW4] at hal
  have HKY : Hid (Blk2 W4 gy 69 (.bool false) (.slice A4 n4 c4)) := by rw [hW4, hgy]; exact Blk2.new _ _ _ _
  have HRY := Lib.hid (s4.below hal)
  have HE4 := Lib.hid ((HE2.out.below b3').below hal)
  have HKX4 := Lib.hid ((HKX.out.below b3').below hal)
  have HRX4 := Lib.hid (((HRX.out.below b3').more b3'.size |>.below hal).more hal.size)
  have hgxy : gx < gy := by rw [hgy]; exact (HKX.out.below b3').lt
  have HW4 := Lib.hid hW4
  have HGY := Lib.hid hgy
  clear r3 b3' s4 hal hW4 hgy HE2 HL3 HN2 HRX HKX
  have e0 := HE4.out.1.c0
  have e1 := HE4.out.2.1.c0
  have x0 := HKX4.out.c0
  have x1 := HKX4.out.c1
  have y0 := HKY.out.c0
  have y1 := HKY.out.c1
  have HP := Lib.hid (div_parts (x := x) (y := y) (a := 0) (b := 0) (Q := dv 10000 L) (R := dv 10000 l) (by rw [← HV.out, ← KV.out]; exact HX.out) (by have := HRY.out.2.2.2.2.2.2; rw [if_neg (by simp)] at this; rw [← this]; exact dv_nonneg (by omega) HRY.out.2.2.2.2.1) (by rw [← KV.out]; exact HR.out) HQ0.out)
  rw [← HB1.out, ← HB2.out] at HP
  by_cases hx0 : x < 0
  · obtain rfl : b1 = true := by rw [HB1.out]; exact decide_eq_true hx0
    by_cases hz0 : n4 = 0
    · have hz : dv 10000 l = 0 := HRY.out.zero.1 hz0
      have HP2 := Lib.hid (HP.out.2.1 hx0 hz)
      have HZ := Lib.hid hz
      subst hz0
      clear hz hx0
      go_upto_region 4 with (fail)
      rw [← HW4.out, ← HGX.out, ← HGY.out]
      go_wp2_with fail
      have f0 := HE4.out.2.2.1.f0
      have f1 := HE4.out.2.2.1.f1
      have f2 := HE4.out.2.2.2.1.f0
      have f3 := HE4.out.2.2.2.1.f1
      have u0 := HE4.out.2.2.1.c0
      have u1 := HE4.out.2.2.1.c1
      have u2 := HE4.out.2.2.2.1.c0
      have u3 := HE4.out.2.2.2.1.c1
      have ne1 : gy ≠ w.heap.size + 1 + 1 := by omega
      have ne2 : gy ≠ w.heap.size + 1 + 1 + 1 := by omega
      have ne3 : gx ≠ w.heap.size + 1 + 1 := by omega
      have ne4 : gx ≠ w.heap.size + 1 + 1 + 1 := by omega
      have HF := Lib.hid (divq_ret HRX4.out (HRY.out.rep (by have := HZ.out; show (0 : Int) ≤ dv 10000 l; omega)) HE4.out.2.2.1 HE4.out.2.2.2.1 HE4.out.2.2.2.2.2.2 (by omega) (by omega) (by omega))
      go_region
      go_wp2
      refine bodyPost_ret (v := .tuple #[.agg #[.bool d2, .slice A3 n3 c3], .agg #[.bool false, .slice A4 0 c4]]) (by simp [results, Tryd.results65, go_sem, u0, u1, u2, u3]) rfl ?_
      exact (by have h := HF.out; rw [HP2.out.1] at h; have h2 := HP2.out.2; have h3 := HZ.out; rw [← h2, ← h3]; exact h)
    · have hz0' : 0 < n4 := by omega
      go_upto_region 4 with (fail)
      rw [← HW4.out, ← HGX.out, ← HGY.out]
      have HNO := Lib.hid (normal_any (!b2) (some ⟨W4.heap.size, 0, none⟩) 1 1 (W4.alloc (.cells #[.int .i64 1] 3)).heap.size [1] _ (one_cell .i64 W4 3 1) (Nat.le_refl _) (Nat.le_refl _) (by unfold maxLen; omega) (by intro h; cases h) (Dig.cons (by omega) Dig.nil))
      have hz : 0 < dv 10000 l := by
        have h0 := HRY.out.2.2.2.2.2.2
        have h1 := dv_nonneg (show (0 : Int) < 10000 by omega) HRY.out.2.2.2.2.1
        have h2 : ¬ (if false = true then -dv 10000 l else dv 10000 l) = 0 := fun h => hz0 (HRY.out.zero.2 h)
        rw [if_neg (by simp)] at h2 h0
        omega
      have HP2 := Lib.hid (HP.out.2.2 hx0 hz)
      have HZ := Lib.hid hz
      have hal := (Below.refl W4.heap.size W4).alloc (Nat.le_refl _) (.cells #[.int .i64 1] 3)
      have HE5 := Lib.hid (HE4.out.below hal)
      have HKX5 := Lib.hid (HKX4.out.below hal)
      have HKY5 := Lib.hid (HKY.out.below hal)
      have HRX5 := Lib.hid ((HRX4.out.below hal).more hal.size)
      have HRY5 := Lib.hid (HRY.out.below hal)
      clear hz hal hx0 HE4 HKX4 HKY HRX4 HRY
      go_wp2_with fail
      clear e0 e1 x0 x1 y0 y1
      refine HNO.out.mono ?_
      rintro e w6 h6
      obtain ⟨v6, rfl, r6, b6⟩ := h6
      obtain ⟨d6, A6, n6, c6, rfl⟩ := r6.shape
      obtain ⟨gz, hgz⟩ : ∃ gz, gz = w6.heap.size := ⟨_, rfl⟩
      obtain ⟨W6, hW6⟩ : ∃ W6, W6 = w6.alloc (.cells #[.bool d6, .slice A6 n6 c6] 69) := ⟨_, rfl⟩
      have hal : Below w6.heap.size w6 W6 := by rw [hW6]; exact (Below.refl _ _).alloc (Nat.le_refl _) _
      have HE6 := Lib.hid ((HE5.out.below b6).below hal)
      have HKX6 := Lib.hid ((HKX5.out.below b6).below hal)
      have HKY6 := Lib.hid ((HKY5.out.below b6).below hal)
      have HRX6 := Lib.hid ((((HRX5.out.below b6).more b6.size).below hal).more hal.size)
      have HRY6 := Lib.hid ((HRY5.out.below b6).below hal)
      have HRZ6 := Lib.hid (((r6.more b6.size).below hal).more hal.size)
      have HKZ6 : Hid (Blk2 W6 gz 69 (.bool d6) (.slice A6 n6 c6)) := by rw [hW6, hgz]; exact Blk2.new _ _ _ _
      have HW6 := Lib.hid hW6
      have HGZ := Lib.hid hgz
      have x0 := HKX6.out.c0
      have x1 := HKX6.out.c1
      have z0 := HKZ6.out.c0
      have z1 := HKZ6.out.c1
      have fx0 := HKX6.out.f0
      have fx1 := HKX6.out.f1
      clear r6 b6 hgz hW6 hal HE5 HKX5 HKY5 HRX5 HRY5 HNO
      go_upto_region 6 with (fail)
      rw [← HW6.out, ← HGZ.out]
      go_wp2_with fail
      have HA := Lib.hid (add_any _ _ _ _ W6 HRX6.out HRZ6.out ((bits_ite HQB.out).mono (by omega)) (Bits.mono (j := 64) (Bits.i64 (by split <;> simp [dv]) (by split <;> simp [dv])) (by omega)))
      refine HA.out.mono ?_
      rintro e w7 h7
      obtain ⟨v7, rfl, r7, b7⟩ := h7
      obtain ⟨d7, A7, n7, c7, rfl⟩ := r7.shape
      have hval : (if (!(true == b2)) = true then -dv 10000 L else dv 10000 L) + (if (!b2) = true then -dv 10000 [1] else dv 10000 [1]) = x / y := by
        rw [← HP2.out.1]
        cases b2 <;> simp [dv]
      rw [hval] at r7
      have HE7 := HE6.out.below b7
      have hkx7 := HKX6.out.below b7
      have hky7 := HKY6.out.below b7
      have hgyl : gy < w7.heap.size := hky7.lt
      have q0 := hkx7.c0
      have q1 := hkx7.c1
      have q2 := hkx7.f0
      have q3 := hkx7.f1
      obtain ⟨W8, hW8⟩ : ∃ W8, W8 = (w7.setCell ⟨gx, 0, none⟩ (.bool d7)).setCell ⟨gx, 1, none⟩ (.slice A7 n7 c7) := ⟨_, rfl⟩
      have HE8 : Hid (DvE w A n c E m f true b2 zs ys W8) := by rw [hW8]; exact HE7.set2 (by omega)
      have HKY8 : Hid (Blk2 W8 gy 69 (.bool false) (.slice A4 n4 c4)) := by rw [hW8]; exact hky7.set2 (by omega)
      have HKX8 : Hid (Blk2 W8 gx 69 (.bool d7) (.slice A7 n7 c7)) := by rw [hW8]; exact (hkx7.set0 _).set1 _
      have HRX8 : Hid (RepN W8 W8.heap.size (x / y) (.agg #[.bool d7, .slice A7 n7 c7])) := by rw [hW8]; rw [size_set2]; exact r7.stored hkx7
      have HRY8 : Hid (NRes (if false = true then -dv 10000 l else dv 10000 l) A4 n4 c4 l4 W8) := by rw [hW8]; exact (HRY6.out.below b7).stored hkx7
      have HW8 := Lib.hid hW8
      have hyb := HE8.out.2.1.c1
      have hyy := HKY8.out.c1
      rw [hW8] at hyb hyy
      have hny : n4 ≤ m := by
        rcases Nat.lt_or_ge m n4 with h1 | h1
        · have h2 := len_lt (show (1 : Int) < 10000 by omega) HYD.out HRY8.out.2.2.2.2.1 HRY8.out.2.2.2.2.2.1 (by rw [HE8.out.2.2.2.2.2.1.len, HRY8.out.1.len]; exact h1)
          rw [HRY8.out.2.2.2.2.2.2, if_neg (by simp)] at h2
          have h3 := HR.out
          omega
        · exact h1
      have HMI := Lib.hid (minus_any E A4 m f n4 c4 ys l4 W8 (HE8.out.2.2.2.2.2.1.more HE8.out.2.2.2.2.2.2.size) HRY8.out.1 hny (by omega) HYD.out HRY8.out.2.2.2.2.1 (by rw [HRY8.out.2.2.2.2.2.2, if_neg (by simp)]; have := HR.out; omega))
      rw [HRY8.out.2.2.2.2.2.2, if_neg (show ¬ (false = true) by simp)] at HMI
      have HY0 := Lib.hid (show 0 ≤ x % y from Int.emod_nonneg _ hy0)
      clear hval r7 b7 HE7 hkx7 hky7 hgyl hW8 hny x0 x1 z0 z1 fx0 fx1 HE6 HKX6 HKY6 HRX6 HRY6 HRZ6 HKZ6 HW6 HA
      go_wp2_with fail
      rw [← HW8.out]
      refine (HMI.out.mono (fun _ _ h => NewD.of_own h)).mono ?_
      rintro e w9 ⟨A9, c9, l9, rfl, s9, t1, t2, t3, b9, t4, t5, t6, t7⟩
      have HNN := Lib.hid (normal_any false A9 l9.length c9 w9.heap.size l9 w9 s9 (Nat.le_refl _) t1 t2 t3 t4)
      have hyv : dv 10000 l9 = x % y := by rw [t5, ← HP2.out.2, KV.out]
      rw [hyv, if_neg (show ¬ (false = true) by simp)] at HNN
      have HE9 := Lib.hid (HE8.out.below b9)
      have HKX9 := Lib.hid (HKX8.out.below b9)
      have HKY9 := Lib.hid (HKY8.out.below b9)
      have HRX9 := Lib.hid ((HRX8.out.below b9).more b9.size)
      clear s9 t1 t2 t3 b9 t4 t5 t6 t7 hyv HE8 HKX8 HKY8 HRX8 HRY8 HMI HW8 hyb hyy q0 q1 q2 q3
      go_wp2_with fail
      refine HNN.out.mono ?_
      rintro e w10 h10
      obtain ⟨v10, rfl, r10, b10⟩ := h10
      obtain ⟨A10, n10, c10, l10, rfl, s10⟩ := NRes.of_rep r10 b10.size HY0.out
      have hkx10 := HKX9.out.below b10
      have hky10 := HKY9.out.below b10
      have q0 := hky10.c0
      have q1 := hky10.c1
      have q2 := hky10.f0
      have q3 := hky10.f1
      obtain ⟨W11, hW11⟩ : ∃ W11, W11 = (w10.setCell ⟨gy, 0, none⟩ (.bool false)).setCell ⟨gy, 1, none⟩ (.slice A10 n10 c10) := ⟨_, rfl⟩
      have HE11 : Hid (DvE w A n c E m f true b2 zs ys W11) := by rw [hW11]; exact (HE9.out.below b10).set2 (by omega)
      have HKX11 : Hid (Blk2 W11 gx 69 (.bool d7) (.slice A7 n7 c7)) := by rw [hW11]; exact hkx10.set2 (by omega)
      have HKY11 : Hid (Blk2 W11 gy 69 (.bool false) (.slice A10 n10 c10)) := by rw [hW11]; exact (hky10.set0 _).set1 _
      have HRX11 : Hid (RepN W11 W11.heap.size (x / y) (.agg #[.bool d7, .slice A7 n7 c7])) := by rw [hW11]; rw [size_set2]; exact ((HRX9.out.below b10).more b10.size).stored hky10
      have HRY11 : Hid (NRes (x % y) A10 n10 c10 l10 W11) := by rw [hW11]; exact s10.stored hky10
      have HW11 := Lib.hid hW11
      clear r10 b10 s10 hkx10 hky10 hW11 HE9 HKX9 HKY9 HRX9 HNN
      go_wp2_with fail
      rw [← HW11.out]
      clear q0 q1 q2 q3
      have f0 := HE11.out.2.2.1.f0
      have f1 := HE11.out.2.2.1.f1
      have f2 := HE11.out.2.2.2.1.f0
      have f3 := HE11.out.2.2.2.1.f1
      have u0 := HE11.out.2.2.1.c0
      have u1 := HE11.out.2.2.1.c1
      have u2 := HE11.out.2.2.2.1.c0
      have u3 := HE11.out.2.2.2.1.c1
      have ne1 : gy ≠ w.heap.size + 1 + 1 := by omega
      have ne2 : gy ≠ w.heap.size + 1 + 1 + 1 := by omega
      have ne3 : gx ≠ w.heap.size + 1 + 1 := by omega
      have ne4 : gx ≠ w.heap.size + 1 + 1 + 1 := by omega
      have HF := Lib.hid (divq_ret HRX11.out (HRY11.out.rep HY0.out) HE11.out.2.2.1 HE11.out.2.2.2.1 HE11.out.2.2.2.2.2.2 (by omega) (by omega) (by omega))
      have x0 := HKX11.out.c0
      have x1 := HKX11.out.c1
      have y0 := HKY11.out.c0
      have y1 := HKY11.out.c1
      go_region
      go_wp2
      refine bodyPost_ret (v := .tuple #[.agg #[.bool d7, .slice A7 n7 c7], .agg #[.bool false, .slice A10 n10 c10]]) (by simp [results, Tryd.results65, go_sem, u0, u1, u2, u3]) rfl ?_
      exact HF.out
  · obtain rfl : b1 = false := by rw [HB1.out]; exact decide_eq_false hx0
    have HP2 := Lib.hid (HP.out.1 (by omega))
    go_upto_region 4 with (fail)
    rw [← HW4.out, ← HGX.out, ← HGY.out]
    go_wp2_with fail
    have f0 := HE4.out.2.2.1.f0
    have f1 := HE4.out.2.2.1.f1
    have f2 := HE4.out.2.2.2.1.f0
    have f3 := HE4.out.2.2.2.1.f1
    have u0 := HE4.out.2.2.1.c0
    have u1 := HE4.out.2.2.1.c1
    have u2 := HE4.out.2.2.2.1.c0
    have u3 := HE4.out.2.2.2.1.c1
    have ne1 : gy ≠ w.heap.size + 1 + 1 := by omega
    have ne2 : gy ≠ w.heap.size + 1 + 1 + 1 := by omega
    have ne3 : gx ≠ w.heap.size + 1 + 1 := by omega
    have ne4 : gx ≠ w.heap.size + 1 + 1 + 1 := by omega
    have HF := Lib.hid (divq_ret HRX4.out (HRY.out.rep (by have := HRY.out.2.2.2.2.2.2; rw [← this]; exact dv_nonneg (by omega) HRY.out.2.2.2.2.1)) HE4.out.2.2.1 HE4.out.2.2.2.1 HE4.out.2.2.2.2.2.2 (by omega) (by omega) (by omega))
    go_region
    go_wp2
    refine bodyPost_ret (v := .tuple #[.agg #[.bool d2, .slice A3 n3 c3], .agg #[.bool false, .slice A4 n4 c4]]) (by simp [results, Tryd.results65, go_sem, u0, u1, u2, u3]) rfl ?_
    exact (by have h := HF.out; rw [HP2.out.1] at h; rw [← HP2.out.2]; exact h)
end Go.Proofs.YtgfhniiidejmoaaDoor
