/- Contracts of the reference of wide: Gcd, Power, Fits. · Contracts of the reference of wide: Gcd, Fits. · Contracts of the reference of wide: Fits, Small. · Contracts of the reference: Decimal, Text. · Contracts of the reference: Text. · Contracts of the reference: Parse. -/
import Derived.Test.YtgfhniiidejmoaaDoorA33
import Derived.Deep.LoopGhost
import Derived.Test.YtgfhniiidejmoaaDoorA14
namespace Go.Proofs.YtgfhniiidejmoaaDoor
open Go.RowKit
set_option linter.unusedVariables false

/-- block g holds an integer of the reference -/
def BoxN (w : World) (g : Nat) (z : Int) : Prop := ∃ d A n c, Blk2 w g 69 (.bool d) (.slice A n c) ∧ RepN w w.heap.size z (.agg #[.bool d, .slice A n c])
theorem BoxN.below {w w' : World} {g : Nat} {z : Int} (h : BoxN w g z) (hb : Below w.heap.size w w') : BoxN w' g z := by
  obtain ⟨d, A, n, c, h1, h2⟩ := h
  exact ⟨d, A, n, c, h1.below hb, (h2.below hb).more hb.size⟩
theorem BoxN.other {w : World} {g R : Nat} {z : Int} {u v : Value} {d : Bool} {A : Option Addr} {n c : Nat} (h : BoxN w g z) (hk : Blk2 w R 69 (.bool d) (.slice A n c)) (hne : g ≠ R) : BoxN ((w.setCell ⟨R, 0, none⟩ u).setCell ⟨R, 1, none⟩ v) g z := by
  obtain ⟨d', A', n', c', h1, h2⟩ := h
  exact ⟨d', A', n', c', h1.set2 hne, by rw [size_set2]; exact h2.stored hk⟩
theorem BoxN.self {w : World} {R : Nat} {z : Int} {d d' : Bool} {A A' : Option Addr} {n c n' c' : Nat} (h : RepN w w.heap.size z (.agg #[.bool d', .slice A' n' c'])) (hk : Blk2 w R 69 (.bool d) (.slice A n c)) : BoxN ((w.setCell ⟨R, 0, none⟩ (.bool d')).setCell ⟨R, 1, none⟩ (.slice A' n' c')) R z :=
  ⟨d', A', n', c', (hk.set0 _).set1 _, by rw [size_set2]; exact h.stored hk⟩
theorem BoxN.new {w : World} {z : Int} {d : Bool} {A : Option Addr} {n c : Nat} (h : RepN w w.heap.size z (.agg #[.bool d, .slice A n c])) : BoxN (w.alloc (.cells #[.bool d, .slice A n c] 69)) w.heap.size z :=
  have hal := (Below.refl w.heap.size w).alloc (Nat.le_refl _) (.cells #[.bool d, .slice A n c] 69)
  ⟨d, A, n, c, Blk2.new _ _ _ _, (h.below hal).more hal.size⟩

/-! ### Power -/
theorem bits_pow (a : Nat) : Bits (a + 1) (2 ^ a) := by
  have h := pow_pos' (show (0 : Int) < 2 by omega) a
  unfold Bits
  rw [Int.pow_succ]
  omega
theorem pow_odd {a b k K : Nat} (h : a + b * k = K) (ho : k % 2 = 1) : a + b + (b + b) * (k / 2) = K ∧ (0 < k / 2 → b + b ≤ K) := by
  obtain ⟨j, rfl⟩ : ∃ j, k = 2 * j + 1 := ⟨k / 2, by omega⟩
  have e : b * (2 * j) = b * j + b * j := by rw [show 2 * j = j + j by omega, Nat.mul_add]
  rw [show (2 * j + 1) / 2 = j by omega]
  rw [Nat.mul_add, Nat.mul_one, e] at h
  rw [Nat.add_mul]
  refine ⟨by omega, fun hj => ?_⟩
  have := Nat.mul_le_mul_left b (show 1 ≤ j by omega)
  omega
theorem pow_even {a b k K : Nat} (h : a + b * k = K) (ho : ¬ k % 2 = 1) : a + (b + b) * (k / 2) = K ∧ (0 < k / 2 → b + b ≤ K) := by
  obtain ⟨j, rfl⟩ : ∃ j, k = 2 * j := ⟨k / 2, by omega⟩
  have e : b * (2 * j) = b * j + b * j := by rw [show 2 * j = j + j by omega, Nat.mul_add]
  rw [show 2 * j / 2 = j by omega]
  rw [e] at h
  rw [Nat.add_mul]
  refine ⟨by omega, fun hj => ?_⟩
  have := Nat.mul_le_mul_left b (show 1 ≤ j by omega)
  omega
def PowS (w : World) (K gO gT a b : Nat) (wr : World) : Prop := BoxN wr gO (2 ^ a) ∧ BoxN wr gT (2 ^ b) ∧ Blk2 wr w.heap.size 69 (.bool false) (.slice none 0 0) ∧ Below w.heap.size w wr
set_option maxRecDepth 100000 in
set_option maxHeartbeats 4000000 in
theorem power_any (K : Nat) (w : World) (hK : K ≤ 20000) : Calls Tryd.prog 64 #[.int .i64 K] w (NewN (2 ^ K) w) := by
  obtain ⟨W1, hW1⟩ : ∃ W1, W1 = w.alloc (.cells #[.bool false, .slice none 0 0] 69) := ⟨_, rfl⟩
  have HB1 : Hid (Below w.heap.size w W1) := by rw [hW1]; exact (Below.refl _ _).alloc (Nat.le_refl _) _
  have HK1 : Hid (Blk2 W1 w.heap.size 69 (.bool false) (.slice none 0 0)) := by rw [hW1]; exact Blk2.new _ _ _ _
  have HW1 := Lib.hid hW1
  have HO1 := Lib.hid (of_pos 1 W1 (by omega) (by omega))
  have HO2 := Lib.hid (fun w => of_pos 2 w (by omega) (by omega))
  clear hW1
  go_enter Tryd.func64, Tryd.ntmps64
  go_wp2_with fail
  rw [← HW1.out]
  refine HO1.out.mono ?_
  rintro e w2 h2
  obtain ⟨v2, rfl, r2, b2⟩ := h2
  obtain ⟨d2, A2, n2, c2, rfl⟩ := r2.shape
  have hal := (Below.refl w2.heap.size w2).alloc (Nat.le_refl _) (.cells #[.bool d2, .slice A2 n2 c2] 69)
  have HX2 := Lib.hid (BoxN.new r2)
  have HK2 := Lib.hid ((HK1.out.below b2).below hal)
  have HB2 := Lib.hid ((HB1.out.trans (b2.mono HB1.out.size)).trans (hal.mono (Nat.le_trans HB1.out.size b2.size)))
  obtain ⟨gO, hgO⟩ : ∃ gO, gO = w2.heap.size := ⟨_, rfl⟩
  rw [← hgO] at HX2
  have hgl : w.heap.size < gO := by rw [hgO]; exact (HK1.out.below b2).lt
  obtain ⟨W3, hW3⟩ : ∃ W3, W3 = w2.alloc (.cells #[.bool d2, .slice A2 n2 c2] 69) := ⟨_, rfl⟩
  rw [← hW3] at HX2 HK2 HB2
  have HW3 := Lib.hid hW3
  have HGO := Lib.hid hgO
  clear r2 b2 hal hgO hW3 HK1 HB1 HO1
  go_wp2_with fail
  rw [← HW3.out, ← HGO.out]
  refine (HO2.out W3).mono ?_
  rintro e w4 h4
  obtain ⟨v4, rfl, r4, b4⟩ := h4
  obtain ⟨d4, A4, n4, c4, rfl⟩ := r4.shape
  have hal := (Below.refl w4.heap.size w4).alloc (Nat.le_refl _) (.cells #[.bool d4, .slice A4 n4 c4] 69)
  have HS := Lib.hid (show PowS w K gO w4.heap.size 0 1 (w4.alloc (.cells #[.bool d4, .slice A4 n4 c4] 69)) from ⟨(HX2.out.below b4).below hal, by have := BoxN.new r4; exact this, (HK2.out.below b4).below hal, (HB2.out.trans (b4.mono HB2.out.size)).trans (hal.mono (Nat.le_trans HB2.out.size b4.size))⟩)
  have hgT : gO < w4.heap.size := by obtain ⟨_, _, _, _, h, _⟩ := HX2.out.below b4; exact h.lt
  obtain ⟨gT, hgT'⟩ : ∃ gT, gT = w4.heap.size := ⟨_, rfl⟩
  rw [← hgT'] at HS hgT
  obtain ⟨W5, hW5⟩ : ∃ W5, W5 = w4.alloc (.cells #[.bool d4, .slice A4 n4 c4] 69) := ⟨_, rfl⟩
  rw [← hW5] at HS
  have HW5 := Lib.hid hW5
  have HGT := Lib.hid hgT'
  clear r4 b4 hal hgT' hW5 HK2 HB2 HX2 HO2 HW3 HGO
  go_upto_region 3 with (fail)
  rw [← HW5.out, ← HGT.out]
  go_loopw [0] (fun kv wr => ∃ k a b : Nat, k ≤ K ∧ kv = .int .i64 k ∧ Hid (a + b * k = K) ∧ (0 < k → b ≤ K) ∧ Hid (PowS w K gO gT a b wr)) (fun kv _ => (intOf kv).toNat)
  case atStart => exact ⟨K, 0, 1, Nat.le_refl _, rfl, by show 0 + 1 * K = K; omega, fun h => by omega, HS.out⟩
  case round =>
    clear HS
    obtain ⟨k, a, b, hk, rfl, HK, hb, HS⟩ := hrel
    rcases Nat.eq_zero_or_pos k with rfl | hk0
    · obtain rfl : a = K := by have h : a + b * 0 = K := HK.out; simpa using h
      obtain ⟨dO, AO, nO, cO, pO, rO⟩ := HS.out.1
      have t0 := pO.c0
      have t1 := pO.c1
      have hk := HS.out.2.2.1
      have f0 := hk.f0
      have f1 := hk.f1
      have u0 := hk.c0
      have u1 := hk.c1
      have HF := Lib.hid (newN_ret rO hk HS.out.2.2.2 (by omega))
      clear pO rO hk
      go_wp2_with fail
      exact bodyPost_ret (v := .agg #[.bool dO, .slice AO nO cO]) (by simp [results, Tryd.results64, go_sem, u0, u1]) rfl HF.out
    have hb' := hb hk0
    have haK : a ≤ K := by have h : a + b * k = K := HK.out; omega
    by_cases hodd : k % 2 = 1
    · have hB : ((k : Int) % 2 == 1) = true := by simp; omega
      have HKQ := Lib.hid (pow_odd HK.out hodd)
      obtain ⟨dO, AO, nO, cO, pO, rO⟩ := HS.out.1
      obtain ⟨dT, AT, nT, cT, pT, rT⟩ := HS.out.2.1
      have s0 := pO.c0
      have s1 := pO.c1
      have t0 := pT.c0
      have t1 := pT.c1
      have HM1 := Lib.hid (mul_any (2 ^ a) (2 ^ b) _ _ wr rO rT ((bits_pow a).mono (by omega)) ((bits_pow b).mono (by omega)))
      rw [← Int.pow_add] at HM1
      clear pO rO pT rT
      go_wp2_with fail
      refine HM1.out.mono ?_
      rintro e w6 h6
      obtain ⟨v6, rfl, r6, b6⟩ := h6
      obtain ⟨d6, A6, n6, c6, rfl⟩ := r6.shape
      obtain ⟨d9, A9, n9, c9, p9, r9⟩ := HS.out.1.below b6
      have hbT := HS.out.2.1.below b6
      have f0 := p9.f0
      have f1 := p9.f1
      have q0 := p9.c0
      have q1 := p9.c1
      obtain ⟨W7, hW7⟩ : ∃ W7, W7 = (w6.setCell ⟨gO, 0, none⟩ (.bool d6)).setCell ⟨gO, 1, none⟩ (.slice A6 n6 c6) := ⟨_, rfl⟩
      have HS7 : Hid (PowS w K gO gT (a + b) b W7) := by rw [hW7]; exact ⟨BoxN.self r6 p9, hbT.other p9 (by omega), (HS.out.2.2.1.below b6).set2 (by omega), below_set2 (HS.out.2.2.2.trans (b6.mono HS.out.2.2.2.size)) (by omega)⟩
      have HW7 := Lib.hid hW7
      have hgne : gT ≠ gO := by omega
      clear r6 b6 p9 r9 hbT s0 s1 t0 t1 hW7 HM1
      obtain ⟨dO, AO, nO, cO, pO, rO⟩ := HS7.out.1
      obtain ⟨dT, AT, nT, cT, pT, rT⟩ := HS7.out.2.1
      have t0 := pT.c0
      have t1 := pT.c1
      rw [HW7.out] at t0 t1
      have HM2 := Lib.hid (mul_any (2 ^ b) (2 ^ b) _ _ W7 rT rT ((bits_pow b).mono (by omega)) ((bits_pow b).mono (by omega)))
      rw [← Int.pow_add] at HM2
      clear pO rO pT rT
      go_wp2_with fail
      rw [← HW7.out]
      clear f0 f1 q0 q1
      refine HM2.out.mono ?_
      rintro e w8 h8
      obtain ⟨v8, rfl, r8, b8⟩ := h8
      obtain ⟨d8, A8, n8, c8, rfl⟩ := r8.shape
      have hbO := HS7.out.1.below b8
      obtain ⟨d9, A9, n9, c9, p9, r9⟩ := HS7.out.2.1.below b8
      have f0 := p9.f0
      have f1 := p9.f1
      have q0 := p9.c0
      have q1 := p9.c1
      have HS9 := Lib.hid (show PowS w K gO gT (a + b) (b + b) ((w8.setCell ⟨gT, 0, none⟩ (.bool d8)).setCell ⟨gT, 1, none⟩ (.slice A8 n8 c8)) from ⟨hbO.other p9 (by omega), BoxN.self r8 p9, (HS7.out.2.2.1.below b8).set2 (by omega), below_set2 (HS7.out.2.2.2.trans (b8.mono HS7.out.2.2.2.size)) (by omega)⟩)
      clear r8 b8 hbO p9 r9 t0 t1
      go_wp2_with fail
      exact ⟨⟨k / 2, (a + b), b + b, by omega, by go_num, HKQ.out.1, HKQ.out.2, HS9.out⟩, by simp [intOf]; omega⟩
    · have hB : ((k : Int) % 2 == 1) = false := by simp; omega
      have HKQ := Lib.hid (pow_even HK.out hodd)
      obtain ⟨W7, hW7⟩ : ∃ W7, W7 = wr := ⟨_, rfl⟩
      subst hW7
      have HS7 := HS
      obtain ⟨dO, AO, nO, cO, pO, rO⟩ := HS7.out.1
      obtain ⟨dT, AT, nT, cT, pT, rT⟩ := HS7.out.2.1
      have t0 := pT.c0
      have t1 := pT.c1
      have HM2 := Lib.hid (mul_any (2 ^ b) (2 ^ b) _ _ W7 rT rT ((bits_pow b).mono (by omega)) ((bits_pow b).mono (by omega)))
      rw [← Int.pow_add] at HM2
      clear pO rO pT rT
      go_wp2_with fail
      refine HM2.out.mono ?_
      rintro e w8 h8
      obtain ⟨v8, rfl, r8, b8⟩ := h8
      obtain ⟨d8, A8, n8, c8, rfl⟩ := r8.shape
      have hbO := HS7.out.1.below b8
      obtain ⟨d9, A9, n9, c9, p9, r9⟩ := HS7.out.2.1.below b8
      have f0 := p9.f0
      have f1 := p9.f1
      have q0 := p9.c0
      have q1 := p9.c1
      have HS9 := Lib.hid (show PowS w K gO gT a (b + b) ((w8.setCell ⟨gT, 0, none⟩ (.bool d8)).setCell ⟨gT, 1, none⟩ (.slice A8 n8 c8)) from ⟨hbO.other p9 (by omega), BoxN.self r8 p9, (HS7.out.2.2.1.below b8).set2 (by omega), below_set2 (HS7.out.2.2.2.trans (b8.mono HS7.out.2.2.2.size)) (by omega)⟩)
      clear r8 b8 hbO p9 r9 t0 t1
      go_wp2_with fail
      exact ⟨⟨k / 2, a, b + b, by omega, by go_num, HKQ.out.1, HKQ.out.2, HS9.out⟩, by simp [intOf]; omega⟩
end Go.Proofs.YtgfhniiidejmoaaDoor
namespace Go.Proofs.YtgfhniiidejmoaaDoor
open Go.RowKit
set_option linter.unusedVariables false

theorem RepN.zero {w : World} {B n c : Nat} {z : Int} {d : Bool} {A : Option Addr} (h : RepN w B z (.agg #[.bool d, .slice A n c])) : n = 0 ↔ z = 0 := by
  obtain ⟨A', n', c', l, e, h1, h2, h3, h4, h5, h6, h7⟩ := h
  cases e
  constructor
  · rintro rfl
    have : l = [] := List.eq_nil_of_length_eq_zero h1.len
    rw [this] at h7
    simp [dv] at h7
    omega
  · rintro rfl
    rcases Nat.eq_zero_or_pos n with h8 | h8
    · exact h8
    · have h9 := top_ge (show (1 : Int) < 10000 by omega) h5 h6 (fun e => by have := h1.len; rw [e] at this; simp at this; omega)
      have := pow_pos' (show (0 : Int) < 10000 by omega) (l.length - 1)
      omega
def GcdS (w : World) (gx gy X Y : Nat) (wr : World) : Prop := BoxN wr gx X ∧ BoxN wr gy Y ∧ Blk2 wr (w.heap.size + 1 + 1) 69 (.bool false) (.slice none 0 0) ∧ Below w.heap.size w wr
theorem GcdS.below {w : World} {gx gy X Y : Nat} {wr w' : World} (h : GcdS w gx gy X Y wr) (hb : Below wr.heap.size wr w') : GcdS w gx gy X Y w' :=
  ⟨h.1.below hb, h.2.1.below hb, h.2.2.1.below hb, h.2.2.2.trans (hb.mono h.2.2.2.size)⟩
theorem BoxN.lt {w : World} {g : Nat} {z : Int} (h : BoxN w g z) : g < w.heap.size := by
  obtain ⟨_, _, _, _, h1, _⟩ := h
  exact h1.lt
end Go.Proofs.YtgfhniiidejmoaaDoor
namespace Go.Proofs.YtgfhniiidejmoaaDoor
open Go.RowKit
set_option linter.unusedVariables false

/-! ### Small -/
def SmallPost (n : Int) (b : Bool) (w : World) (e : Ending) (w' : World) : Prop := e = .returned (.tuple #[.int .i64 n, .bool b]) ∧ Below w.heap.size w w'
def inI (z : Int) : Bool := decide (-9223372036854775808 ≤ z ∧ z ≤ 9223372036854775807)
theorem smallR {z : Int} {zs : List Int} (hd : Dig 10000 zs) (hv : dv 10000 zs = (z.natAbs : Int)) (k : Nat) (hk : k < zs.length) : dv 10000 (zs.drop k) = zs[k]?.getD 0 + 10000 * dv 10000 (zs.drop (k + 1)) ∧ 0 ≤ dv 10000 (zs.drop (k + 1)) ∧ 0 ≤ zs[k]?.getD 0 ∧ dv 10000 (zs.drop k) ≤ z.natAbs := by
  have h1 : zs.drop k = zs[k]?.getD 0 :: zs.drop (k + 1) := by rw [List.drop_eq_getElem_cons hk, List.getElem?_eq_getElem hk]; rfl
  have h2 := dv_nonneg (show (0 : Int) < 10000 by omega) (hd.drop (k + 1))
  have h3 := hd.get (show (0 : Int) < 10000 by omega) k
  have h4 := top_part (show (1 : Int) < 10000 by omega) hd k (by omega)
  have h5 := pow_pos' (show (0 : Int) < 10000 by omega) k
  have h6 := dv_nonneg (show (0 : Int) < 10000 by omega) (hd.drop k)
  have h7 := Int.mul_le_mul_of_nonneg_left (show 1 ≤ (10000 : Int) ^ k by omega) h6
  rw [Int.mul_one] at h7
  exact ⟨by rw [h1, dv], h2, h3.1, by omega⟩
set_option maxRecDepth 100000 in
set_option maxHeartbeats 8000000 in
theorem small_num (z : Int) (v : Value) (w : World) (h : RepN w w.heap.size z v) (bz : Bits 200000 z) :
    Calls Tryd.prog 41 #[v] w (SmallPost (if inI z then z else 0) (inI z) w) := by
  obtain ⟨A, n, c, zs, rfl, hs, hn, hc, hA, hd, ht, hv, hl⟩ := h.parts (m := 20000) bz (by omega)
  obtain ⟨b, hb⟩ : ∃ b, b = decide (z < 0) := ⟨_, rfl⟩
  rw [← hb] at h ⊢
  have HBB := Lib.hid hb
  have hal : Below w.heap.size w (w.alloc (.cells #[.bool b, .slice A n c] 69)) := (Below.refl _ _).alloc (Nat.le_refl _) _
  obtain ⟨W, hW⟩ : ∃ W, W = w.alloc (.cells #[.bool b, .slice A n c] 69) := ⟨_, rfl⟩
  have hk : Blk2 W w.heap.size 69 (.bool b) (.slice A n c) := by rw [hW]; exact Blk2.new _ _ _ _
  rw [← hW] at hal
  have HR := Lib.hid ((h.below hal).more hal.size)
  have HB := Lib.hid hal
  have HBZ := Lib.hid bz
  have HW := Lib.hid hW
  have HK := Lib.hid hk
  have HS := Lib.hid hs
  have HD := Lib.hid hd
  have HV := Lib.hid hv
  have HTT := Lib.hid ht
  have g0 := hk.c0
  have g1 := hk.c1
  have HO1 := Lib.hid (of_any 9223372036854775807)
  have HO2 := Lib.hid (of_any (-9223372036854775808))
  obtain ⟨t, htt⟩ : ∃ t, t = inI z := ⟨_, rfl⟩
  obtain ⟨q, hqq⟩ : ∃ q, q = if inI z then z else 0 := ⟨_, rfl⟩
  rw [← hqq, ← htt]
  have HT := Lib.hid htt
  have HQ := Lib.hid hqq
  clear h hal hW bz hk hs hA hd ht hv hb htt hqq
  go_enter Tryd.func41, Tryd.ntmps41
  go_upto_region 1 with (fail)
  rw [← HW.out]
  go_cut [15] (fun vv wx => vv = .bool (!t) ∧ Hid (Blk2 wx w.heap.size 69 (.bool b) (.slice A n c)) ∧ Hid (RepN wx wx.heap.size z (.agg #[.bool b, .slice A n c])) ∧ Hid (Below w.heap.size w wx))
  case first =>
    by_cases hbig : 9223372036854775807 < z
    · have HC1 : Hid (cmpI z 9223372036854775807 = 1) := by show cmpI z 9223372036854775807 = 1; unfold cmpI; rw [if_neg (by omega), if_pos hbig]
      obtain rfl : t = false := by rw [HT.out]; unfold inI; exact decide_eq_false (by omega)
      clear hbig
      go_region_with (first
        | (go_at_call 40
           (with_reducible refine (HO1.out _ (by omega) (by omega)).mono ?_)
           rintro e w2 h2
           obtain ⟨v2, rfl, r2, b2⟩ := h2
           obtain ⟨d2, A2, n2, c2, rfl⟩ := r2.shape
           have b2 : Below W.heap.size W w2 := by first | exact b2 | exact below_undrew b2
           have HR2 := Lib.hid ((HR.out.below b2).more b2.size)
           have HQ2 := Lib.hid r2
           have HK2 := Lib.hid (HK.out.below b2)
           have HB2 := Lib.hid (HB.out.trans (b2.mono HB.out.size))
           have k2 := HK2.out.c0
           have l2 := HK2.out.c1
           clear r2 b2)
        | (go_at_call 68
           refine (compare_any z 9223372036854775807 _ _ _ (by exact HR2.out) (by exact HQ2.out) HBZ.out ((Bits.i64 (by omega) (by omega)).mono (by omega))).mono ?_
           rintro e w3 ⟨rfl, b3⟩
           rw [HC1.out]
           have b3 : Below w2.heap.size w2 w3 := by first | exact b3 | exact below_undrew b3
           have HR3 := Lib.hid ((HR2.out.below b3).more b3.size)
           have HK3 := Lib.hid (HK2.out.below b3)
           have HB3 := Lib.hid (HB2.out.trans (b3.mono HB2.out.size))
           have k3 := HK3.out.c0
           have l3 := HK3.out.c1
           clear b3)
)
      all_goals
        go_wp2
        go_meet
        case rel => exact ⟨rfl, HK3.out, HR3.out, HB3.out⟩
    · have HC1 : Hid (cmpI z 9223372036854775807 = if z = 9223372036854775807 then 0 else -1) := by
        show cmpI z 9223372036854775807 = if z = 9223372036854775807 then 0 else -1
        unfold cmpI
        by_cases he : z = 9223372036854775807
        · rw [if_neg (by omega), if_neg (by omega), if_pos he]
        · rw [if_pos (by omega), if_neg he]
      obtain ⟨C1, hC1⟩ : ∃ C1, C1 = (if z = 9223372036854775807 then 0 else -1 : Int) := ⟨_, rfl⟩
      have hc1 : ¬ 0 < C1 := by rw [hC1]; split <;> omega
      have hc1b : decide (0 < C1) = false := decide_eq_false hc1
      rw [← hC1] at HC1
      clear hC1
      obtain ⟨C2, hC2⟩ : ∃ C2, C2 = cmpI z (-9223372036854775808) := ⟨_, rfl⟩
      have HC2 := Lib.hid hC2.symm
      have hc2 : decide (C2 < 0) = !t := by
        rw [hC2, HT.out]
        unfold cmpI inI
        by_cases he : z < -9223372036854775808
        · rw [if_pos he, decide_eq_false (p := -9223372036854775808 ≤ z ∧ z ≤ 9223372036854775807) (by omega)]; rfl
        · rw [if_neg he, decide_eq_true (p := -9223372036854775808 ≤ z ∧ z ≤ 9223372036854775807) (by omega)]
          split <;> rfl
      have HC2B := Lib.hid hc2
      clear hC2 hc2 hbig
      go_region_held3 (fun w' => w'.cell? ⟨w.heap.size, 0, none⟩ = some (.bool b) ∧ w'.cell? ⟨w.heap.size, 1, none⟩ = some (.slice A n c))
        (exact ⟨by first | assumption | (simp only [World.cell?_drew]; assumption), by first | assumption | (simp only [World.cell?_drew]; assumption)⟩)
        (first
        | (go_at_call 40
           (with_reducible refine (HO1.out _ (by omega) (by omega)).mono ?_)
           rintro e w2 h2
           obtain ⟨v2, rfl, r2, b2⟩ := h2
           obtain ⟨d2, A2, n2, c2, rfl⟩ := r2.shape
           have b2 : Below W.heap.size W w2 := by first | exact b2 | exact below_undrew b2
           have HR2 := Lib.hid ((HR.out.below b2).more b2.size)
           have HQ2 := Lib.hid r2
           have HK2 := Lib.hid (HK.out.below b2)
           have HB2 := Lib.hid (HB.out.trans (b2.mono HB.out.size))
           have k2 := HK2.out.c0
           have l2 := HK2.out.c1
           clear r2 b2)
        | (go_at_call 68
           refine (compare_any z 9223372036854775807 _ _ _ (by exact HR2.out) (by exact HQ2.out) HBZ.out ((Bits.i64 (by omega) (by omega)).mono (by omega))).mono ?_
           rintro e w3 ⟨rfl, b3⟩
           rw [HC1.out]
           have b3 : Below w2.heap.size w2 w3 := by first | exact b3 | exact below_undrew b3
           have HR3 := Lib.hid ((HR2.out.below b3).more b3.size)
           have HK3 := Lib.hid (HK2.out.below b3)
           have HB3 := Lib.hid (HB2.out.trans (b3.mono HB2.out.size))
           have k3 := HK3.out.c0
           have l3 := HK3.out.c1
           clear b3)
        | (go_at_call 40
           (with_reducible refine (HO2.out _ (by omega) (by omega)).mono ?_)
           rintro e w4 h4
           obtain ⟨v4, rfl, r4, b4⟩ := h4
           obtain ⟨d4, A4, n4, c4, rfl⟩ := r4.shape
           have b4 : Below w3.heap.size w3 w4 := by first | exact b4 | exact below_undrew b4
           have HR4 := Lib.hid ((HR3.out.below b4).more b4.size)
           have HQ4 := Lib.hid r4
           have HK4 := Lib.hid (HK3.out.below b4)
           have HB4 := Lib.hid (HB3.out.trans (b4.mono HB3.out.size))
           have k4 := HK4.out.c0
           have l4 := HK4.out.c1
           clear r4 b4)
        | (go_at_call 68
           refine (compare_any z (-9223372036854775808) _ _ _ (by exact HR4.out) (by exact HQ4.out) HBZ.out ((Bits.i64 (by omega) (by omega)).mono (by omega))).mono ?_
           rintro e w5 ⟨rfl, b5⟩
           rw [HC2.out]
           have b5 : Below w4.heap.size w4 w5 := by first | exact b5 | exact below_undrew b5
           have HR5 := Lib.hid ((HR4.out.below b5).more b5.size)
           have HK5 := Lib.hid (HK4.out.below b5)
           have HB5 := Lib.hid (HB4.out.trans (b5.mono HB4.out.size))
           have k5 := HK5.out.c0
           have l5 := HK5.out.c1
           clear b5)
)
      all_goals
        go_wp2
        go_meet
        case rel => exact ⟨congrArg Value.bool HC2B.out, HK5.out, HR5.out, HB5.out⟩
  case rest =>
    clear HBZ HO1 HO2 HR HB HW HK g0 g1
    obtain ⟨rfl, HK2, HR2, HB2⟩ := hcut
    have g0 := HK2.out.c0
    have g1 := HK2.out.c1
    cases t
    · have hq : q = 0 := by rw [HQ.out, ← HT.out]; rfl
      have HF := Lib.hid (show SmallPost q false w (.returned (.tuple #[.int .i64 0, .bool false])) wc from ⟨by rw [hq], HB2.out⟩)
      clear hq
      go_wp2_with fail
      go_ret2
      exact HF.out
    · have HLN := Lib.hid HS.out.len
      have HS2 := Lib.hid (show Sl .i64 wc wc.heap.size A n zs by
        obtain ⟨A', n', c', l, e, h1, h2, h3, h4, h5, h6, h7⟩ := HR2.out
        cases e
        have : l = zs := (can_digs (by omega) h5 h6).trans ((by rw [h7, ← HV.out] : digs 10000 (dv 10000 l) = digs 10000 (dv 10000 zs)).trans (can_digs (by omega) HD.out HTT.out).symm)
        rw [← this]; exact h1)
      have HZB : Hid ((z.natAbs : Int) ≤ 9223372036854775808 ∧ (0 ≤ z → z ≤ 9223372036854775807)) := by
        have h := HT.out
        unfold inI at h
        have h2 := of_decide_eq_true h.symm
        exact ⟨by omega, fun _ => h2.2⟩
      cases b
      · have HZN : Hid (0 ≤ z) := by have h := HBB.out; have h2 := of_decide_eq_false (p := z < 0) h.symm; show 0 ≤ z; omega
        go_wp2_with fail
        go_loopw [4, 5] (fun nv iv wr => ∃ k : Nat, k ≤ n ∧ iv = .int .i64 ((k : Int) - 1) ∧ nv = .int .i64 (dv 10000 (zs.drop k)) ∧ wr = wc) (fun _ iv _ => (intOf iv + 1).toNat)
        case atStart => exact ⟨n, Nat.le_refl _, rfl, by rw [List.drop_of_length_le (by rw [HLN.out]; omega)]; rfl, rfl⟩
        case round =>
          obtain ⟨k, hk, rfl, rfl, rfl⟩ := hrel
          rcases Nat.eq_zero_or_pos k with rfl | hk0
          · obtain ⟨X, hX⟩ : ∃ X, X = dv 10000 (zs.drop 0) := ⟨_, rfl⟩
            have hq : q = z := by have h1 := HQ.out; rw [if_pos HT.out.symm] at h1; exact h1
            have hXq : X = q := by have h1 := HZN.out; rw [hX, List.drop_zero, HV.out, hq]; omega
            have HF := Lib.hid (show SmallPost q true w (.returned (.tuple #[.int .i64 (X), .bool true])) _ from ⟨by rw [hXq], HB2.out⟩)
            rw [← hX]
            clear hX hq hXq
            go_wp2_with fail
            go_ret2
            exact HF.out
          · obtain ⟨j, rfl⟩ : ∃ j, k = j + 1 := ⟨k - 1, by omega⟩
            rw [show (((j + 1 : Nat) : Int) - 1) = (j : Int) by omega]
            obtain ⟨ba, oa, rfl, _, hca⟩ := HS2.out.at_ (by omega)
            have ca := hca j (by omega)
            obtain ⟨e1, e2, e3, e4⟩ := smallR HD.out HV.out j (by rw [HLN.out]; omega)
            obtain ⟨d, hd⟩ : ∃ d, d = zs[j]?.getD 0 := ⟨_, rfl⟩
            obtain ⟨X, hX⟩ : ∃ X, X = dv 10000 (zs.drop (j + 1)) := ⟨_, rfl⟩
            obtain ⟨Y, hY⟩ : ∃ Y, Y = dv 10000 (zs.drop j) := ⟨_, rfl⟩
            rw [← hd] at ca e1 e3
            rw [← hX] at e1 e2 ⊢
            rw [← hY] at e1 e4
            have HY := Lib.hid hY
            have E1 := Lib.hid e1
            have hzb := HZB.out
            have a1 : X * 10000 + d ≤ 9223372036854775808 := by omega
            have a2 : X * 10000 + d ≤ 9223372036854775807 := by have := HZN.out; omega
            clear hd hX hY hca e1 e4 hzb
            go_wp2_with fail
            go_roundw
            case rel => exact ⟨j, by omega, by go_num, by rw [← HY.out, E1.out]; congr 1; omega, by first | rfl | trivial⟩
            case measure => simp [intOf]
      · have HZN : Hid (z < 0) := by have h := HBB.out; exact of_decide_eq_true (p := z < 0) h.symm
        go_wp2_with fail
        go_loopw [4, 5] (fun nv iv wr => ∃ k : Nat, k ≤ n ∧ iv = .int .i64 ((k : Int) - 1) ∧ nv = .int .i64 (-dv 10000 (zs.drop k)) ∧ wr = wc) (fun _ iv _ => (intOf iv + 1).toNat)
        case atStart => exact ⟨n, Nat.le_refl _, rfl, by rw [List.drop_of_length_le (by rw [HLN.out]; omega)]; rfl, rfl⟩
        case round =>
          obtain ⟨k, hk, rfl, rfl, rfl⟩ := hrel
          rcases Nat.eq_zero_or_pos k with rfl | hk0
          · obtain ⟨X, hX⟩ : ∃ X, X = dv 10000 (zs.drop 0) := ⟨_, rfl⟩
            have hq : q = z := by have h1 := HQ.out; rw [if_pos HT.out.symm] at h1; exact h1
            have hXq : (-X) = q := by have h1 := HZN.out; rw [hX, List.drop_zero, HV.out, hq]; omega
            have HF := Lib.hid (show SmallPost q true w (.returned (.tuple #[.int .i64 (-X), .bool true])) _ from ⟨by rw [hXq], HB2.out⟩)
            rw [← hX]
            clear hX hq hXq
            go_wp2_with fail
            go_ret2
            exact HF.out
          · obtain ⟨j, rfl⟩ : ∃ j, k = j + 1 := ⟨k - 1, by omega⟩
            rw [show (((j + 1 : Nat) : Int) - 1) = (j : Int) by omega]
            obtain ⟨ba, oa, rfl, _, hca⟩ := HS2.out.at_ (by omega)
            have ca := hca j (by omega)
            obtain ⟨e1, e2, e3, e4⟩ := smallR HD.out HV.out j (by rw [HLN.out]; omega)
            obtain ⟨d, hd⟩ : ∃ d, d = zs[j]?.getD 0 := ⟨_, rfl⟩
            obtain ⟨X, hX⟩ : ∃ X, X = dv 10000 (zs.drop (j + 1)) := ⟨_, rfl⟩
            obtain ⟨Y, hY⟩ : ∃ Y, Y = dv 10000 (zs.drop j) := ⟨_, rfl⟩
            rw [← hd] at ca e1 e3
            rw [← hX] at e1 e2 ⊢
            rw [← hY] at e1 e4
            have HY := Lib.hid hY
            have E1 := Lib.hid e1
            have hzb := HZB.out
            have a1 : X * 10000 + d ≤ 9223372036854775808 := by omega
            have a2 : 0 ≤ X * 10000 := by omega
            clear hd hX hY hca e1 e4 hzb
            go_wp2_with fail
            go_roundw
            case rel => exact ⟨j, by omega, by go_num, by rw [← HY.out, E1.out]; congr 1; omega, by first | rfl | trivial⟩
            case measure => simp [intOf]
end Go.Proofs.YtgfhniiidejmoaaDoor
namespace Go.Proofs.YtgfhniiidejmoaaDoor
open Go.RowKit
set_option linter.unusedVariables false

end Go.Proofs.YtgfhniiidejmoaaDoor
namespace Go.Proofs.YtgfhniiidejmoaaDoor
open Go.RowKit
set_option linter.unusedVariables false

end Go.Proofs.YtgfhniiidejmoaaDoor
namespace Go.Proofs.YtgfhniiidejmoaaDoor
open Go.RowKit
set_option linter.unusedVariables false

/-- digits gathered in groups of four, from the last one on -/
def GrpI (t : List UInt8) (k : Nat) (L : List Int) : Prop := L.length = k ∧ Dig 10000 L ∧ dv 10000 L = valT (t.drop (t.length - 4 * k)) ∧ (0 < k → 4 * (k - 1) < t.length)
theorem valT_take {t : List UInt8} (hd : ∀ b ∈ t, isD b = true) (n : Nat) : 0 ≤ valT (t.take n) ∧ valT (t.take n) < 10 ^ n := by
  obtain ⟨h0, h1⟩ := valT_bd (l := t.take n) (fun b hb => hd b (List.mem_of_mem_take hb))
  have h2 := pow_mono' (show (0 : Int) < 10 by omega) (show (t.take n).length ≤ n by rw [List.length_take]; omega)
  exact ⟨h0, by omega⟩
theorem GrpI.step {t : List UInt8} {k e' : Nat} {L : List Int} (h : GrpI t k L) (hd : ∀ b ∈ t, isD b = true) (hk : 4 * k < t.length) (he : e' = t.length - 4 * (k + 1)) :
    GrpI t (k + 1) (L ++ [valT ((t.drop e').take (t.length - 4 * k - e'))]) ∧ 0 ≤ valT ((t.drop e').take (t.length - 4 * k - e')) ∧ valT ((t.drop e').take (t.length - 4 * k - e')) < 10000 := by
  obtain ⟨h1, h2, h3, h4⟩ := h
  have hb := valT_take (t := t.drop e') (fun b hb => hd b (List.mem_of_mem_drop hb)) (t.length - 4 * k - e')
  have hp := pow_mono' (show (0 : Int) < 10 by omega) (show t.length - 4 * k - e' ≤ 4 by omega)
  have h10 : (10 : Int) ^ 4 = 10000 := by decide
  rw [h10] at hp
  refine ⟨⟨by simp [h1], h2.app (Dig.cons ⟨hb.1, by omega⟩ Dig.nil), ?_, fun _ => by omega⟩, hb.1, by omega⟩
  have e1 : t.drop e' = (t.drop e').take (t.length - 4 * k - e') ++ t.drop (t.length - 4 * k) := by
    conv => lhs; rw [← List.take_append_drop (t.length - 4 * k - e') (t.drop e')]
    rw [List.drop_drop, show e' + (t.length - 4 * k - e') = t.length - 4 * k by omega]
  rw [dv_snoc, h3, h1, ← he]
  conv => rhs; rw [e1]
  rw [valT_app, List.length_drop, show t.length - (t.length - 4 * k) = 4 * k by omega, Int.pow_mul]
  rfl

def ParsePost (l : List UInt8) (w : World) (e : Ending) (w' : World) : Prop := ∃ v, e = .returned (.tuple #[v, .int .i64 ((parseT l).2 : Int)]) ∧ RepN w' w'.heap.size (parseT l).1 v ∧ Below w.heap.size w w'
theorem ParsePost.mk {l : List UInt8} {z : Int} {n : Nat} (hp : parseT l = (z, n)) {w w' : World} {v : Value} (hr : RepN w' w'.heap.size z v) (hb : Below w.heap.size w w') (k : Int) (hk : k = (n : Int)) : ParsePost l w (.returned (.tuple #[v, .int .i64 k])) w' :=
  ⟨v, by rw [hp, hk], by rw [hp]; exact hr, hb⟩
theorem RepN.nil (w : World) (B : Nat) : RepN w B 0 (.agg #[.bool false, .slice none 0 0]) := ⟨none, 0, 0, [], rfl, Sl.nil _ _ _ _, Nat.le_refl _, by unfold maxLen; omega, fun _ => rfl, Dig.nil, by simp [Top], rfl⟩
end Go.Proofs.YtgfhniiidejmoaaDoor
