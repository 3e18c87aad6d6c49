/- Contracts of the reference of wide: Gcd, Power, Fits. -/
import Derived.Test.YtpilpceclmppgaaDoorRef3K
import Derived.Deep.LoopGhost
namespace Go.Proofs.YtpilpceclmppgaaDoor
open Go.RowKit
set_option linter.unusedVariables false

/-- block g holds an integer of the reference -/
def BoxN (w : World) (g : Nat) (z : Int) : Prop := ∃ d A n c, Blk2 w g 25 (.bool d) (.slice A n c) ∧ RepN w w.heap.size z (.agg #[.bool d, .slice A n c])
theorem BoxN.below {w w' : World} {g : Nat} {z : Int} (h : BoxN w g z) (hb : Below w.heap.size w w') : BoxN w' g z := by
  obtain ⟨d, A, n, c, h1, h2⟩ := h
  exact ⟨d, A, n, c, h1.below hb, (h2.below hb).more hb.size⟩
theorem BoxN.other {w : World} {g R : Nat} {z : Int} {u v : Value} {d : Bool} {A : Option Addr} {n c : Nat} (h : BoxN w g z) (hk : Blk2 w R 25 (.bool d) (.slice A n c)) (hne : g ≠ R) : BoxN ((w.setCell ⟨R, 0, none⟩ u).setCell ⟨R, 1, none⟩ v) g z := by
  obtain ⟨d', A', n', c', h1, h2⟩ := h
  exact ⟨d', A', n', c', h1.set2 hne, by rw [size_set2]; exact h2.stored hk⟩
theorem BoxN.self {w : World} {R : Nat} {z : Int} {d d' : Bool} {A A' : Option Addr} {n c n' c' : Nat} (h : RepN w w.heap.size z (.agg #[.bool d', .slice A' n' c'])) (hk : Blk2 w R 25 (.bool d) (.slice A n c)) : BoxN ((w.setCell ⟨R, 0, none⟩ (.bool d')).setCell ⟨R, 1, none⟩ (.slice A' n' c')) R z :=
  ⟨d', A', n', c', (hk.set0 _).set1 _, by rw [size_set2]; exact h.stored hk⟩
theorem BoxN.new {w : World} {z : Int} {d : Bool} {A : Option Addr} {n c : Nat} (h : RepN w w.heap.size z (.agg #[.bool d, .slice A n c])) : BoxN (w.alloc (.cells #[.bool d, .slice A n c] 25)) w.heap.size z :=
  have hal := (Below.refl w.heap.size w).alloc (Nat.le_refl _) (.cells #[.bool d, .slice A n c] 25)
  ⟨d, A, n, c, Blk2.new _ _ _ _, (h.below hal).more hal.size⟩

/-! ### Power -/
theorem bits_pow (a : Nat) : Bits (a + 1) (2 ^ a) := by
  have h := pow_pos' (show (0 : Int) < 2 by omega) a
  unfold Bits
  rw [Int.pow_succ]
  omega
theorem pow_odd {a b k K : Nat} (h : a + b * k = K) (ho : k % 2 = 1) : a + b + (b + b) * (k / 2) = K ∧ (0 < k / 2 → b + b ≤ K) := by
  obtain ⟨j, rfl⟩ : ∃ j, k = 2 * j + 1 := ⟨k / 2, by omega⟩
  have e : b * (2 * j) = b * j + b * j := by rw [show 2 * j = j + j by omega, Nat.mul_add]
  rw [show (2 * j + 1) / 2 = j by omega]
  rw [Nat.mul_add, Nat.mul_one, e] at h
  rw [Nat.add_mul]
  refine ⟨by omega, fun hj => ?_⟩
  have := Nat.mul_le_mul_left b (show 1 ≤ j by omega)
  omega
theorem pow_even {a b k K : Nat} (h : a + b * k = K) (ho : ¬ k % 2 = 1) : a + (b + b) * (k / 2) = K ∧ (0 < k / 2 → b + b ≤ K) := by
  obtain ⟨j, rfl⟩ : ∃ j, k = 2 * j := ⟨k / 2, by omega⟩
  have e : b * (2 * j) = b * j + b * j := by rw [show 2 * j = j + j by omega, Nat.mul_add]
  rw [show 2 * j / 2 = j by omega]
  rw [e] at h
  rw [Nat.add_mul]
  refine ⟨by omega, fun hj => ?_⟩
  have := Nat.mul_le_mul_left b (show 1 ≤ j by omega)
  omega
def PowS (w : World) (K gO gT a b : Nat) (wr : World) : Prop := BoxN wr gO (2 ^ a) ∧ BoxN wr gT (2 ^ b) ∧ Blk2 wr w.heap.size 25 (.bool false) (.slice none 0 0) ∧ Below w.heap.size w wr
set_option maxRecDepth 100000 in
set_option maxHeartbeats 4000000 in
theorem power_any (K : Nat) (w : World) (hK : K ≤ 20000) : Calls Tryd.prog 46 #[.int .i64 K] w (NewN (2 ^ K) w) := by
  obtain ⟨W1, hW1⟩ : ∃ W1, W1 = w.alloc (.cells #[.bool false, .slice none 0 0] 25) := ⟨_, rfl⟩
  have HB1 : Hid (Below w.heap.size w W1) := by rw [hW1]; exact (Below.refl _ _).alloc (Nat.le_refl _) _
  have HK1 : Hid (Blk2 W1 w.heap.size 25 (.bool false) (.slice none 0 0)) := by rw [hW1]; exact Blk2.new _ _ _ _
  have HW1 := Lib.hid hW1
  have HO1 := Lib.hid (of_pos 1 W1 (by omega) (by omega))
  have HO2 := Lib.hid (fun w => of_pos 2 w (by omega) (by omega))
  clear hW1
  go_enter Tryd.func46, Tryd.ntmps46
  go_wp2_with fail
  rw [← HW1.out]
  refine HO1.out.mono ?_
  rintro e w2 h2
  obtain ⟨v2, rfl, r2, b2⟩ := h2
  obtain ⟨d2, A2, n2, c2, rfl⟩ := r2.shape
  have hal := (Below.refl w2.heap.size w2).alloc (Nat.le_refl _) (.cells #[.bool d2, .slice A2 n2 c2] 25)
  have HX2 := Lib.hid (BoxN.new r2)
  have HK2 := Lib.hid ((HK1.out.below b2).below hal)
  have HB2 := Lib.hid ((HB1.out.trans (b2.mono HB1.out.size)).trans (hal.mono (Nat.le_trans HB1.out.size b2.size)))
  obtain ⟨gO, hgO⟩ : ∃ gO, gO = w2.heap.size := ⟨_, rfl⟩
  rw [← hgO] at HX2
  have hgl : w.heap.size < gO := by rw [hgO]; exact (HK1.out.below b2).lt
  obtain ⟨W3, hW3⟩ : ∃ W3, W3 = w2.alloc (.cells #[.bool d2, .slice A2 n2 c2] 25) := ⟨_, rfl⟩
  rw [← hW3] at HX2 HK2 HB2
  have HW3 := Lib.hid hW3
  have HGO := Lib.hid hgO
  clear r2 b2 hal hgO hW3 HK1 HB1 HO1
  go_wp2_with fail
  rw [← HW3.out, ← HGO.out]
  refine (HO2.out W3).mono ?_
  rintro e w4 h4
  obtain ⟨v4, rfl, r4, b4⟩ := h4
  obtain ⟨d4, A4, n4, c4, rfl⟩ := r4.shape
  have hal := (Below.refl w4.heap.size w4).alloc (Nat.le_refl _) (.cells #[.bool d4, .slice A4 n4 c4] 25)
  have HS := Lib.hid (show PowS w K gO w4.heap.size 0 1 (w4.alloc (.cells #[.bool d4, .slice A4 n4 c4] 25)) from ⟨(HX2.out.below b4).below hal, by have := BoxN.new r4; exact this, (HK2.out.below b4).below hal, (HB2.out.trans (b4.mono HB2.out.size)).trans (hal.mono (Nat.le_trans HB2.out.size b4.size))⟩)
  have hgT : gO < w4.heap.size := by obtain ⟨_, _, _, _, h, _⟩ := HX2.out.below b4; exact h.lt
  obtain ⟨gT, hgT'⟩ : ∃ gT, gT = w4.heap.size := ⟨_, rfl⟩
  rw [← hgT'] at HS hgT
  obtain ⟨W5, hW5⟩ : ∃ W5, W5 = w4.alloc (.cells #[.bool d4, .slice A4 n4 c4] 25) := ⟨_, rfl⟩
  rw [← hW5] at HS
  have HW5 := Lib.hid hW5
  have HGT := Lib.hid hgT'
  clear r4 b4 hal hgT' hW5 HK2 HB2 HX2 HO2 HW3 HGO
  go_upto_region 3 with (fail)
  rw [← HW5.out, ← HGT.out]
  go_loopw [0] (fun kv wr => ∃ k a b : Nat, k ≤ K ∧ kv = .int .i64 k ∧ Hid (a + b * k = K) ∧ (0 < k → b ≤ K) ∧ Hid (PowS w K gO gT a b wr)) (fun kv _ => (intOf kv).toNat)
  case atStart => exact ⟨K, 0, 1, Nat.le_refl _, rfl, by show 0 + 1 * K = K; omega, fun h => by omega, HS.out⟩
  case round =>
    clear HS
    obtain ⟨k, a, b, hk, rfl, HK, hb, HS⟩ := hrel
    rcases Nat.eq_zero_or_pos k with rfl | hk0
    · obtain rfl : a = K := by have h : a + b * 0 = K := HK.out; simpa using h
      obtain ⟨dO, AO, nO, cO, pO, rO⟩ := HS.out.1
      have t0 := pO.c0
      have t1 := pO.c1
      have hk := HS.out.2.2.1
      have f0 := hk.f0
      have f1 := hk.f1
      have u0 := hk.c0
      have u1 := hk.c1
      have HF := Lib.hid (newN_ret rO hk HS.out.2.2.2 (by omega))
      clear pO rO hk
      go_wp2_with fail
      exact bodyPost_ret (v := .agg #[.bool dO, .slice AO nO cO]) (by simp [results, Tryd.results46, go_sem, u0, u1]) rfl HF.out
    have hb' := hb hk0
    have haK : a ≤ K := by have h : a + b * k = K := HK.out; omega
    by_cases hodd : k % 2 = 1
    · have hB : ((k : Int) % 2 == 1) = true := by simp; omega
      have HKQ := Lib.hid (pow_odd HK.out hodd)
      obtain ⟨dO, AO, nO, cO, pO, rO⟩ := HS.out.1
      obtain ⟨dT, AT, nT, cT, pT, rT⟩ := HS.out.2.1
      have s0 := pO.c0
      have s1 := pO.c1
      have t0 := pT.c0
      have t1 := pT.c1
      have HM1 := Lib.hid (mul_any (2 ^ a) (2 ^ b) _ _ wr rO rT ((bits_pow a).mono (by omega)) ((bits_pow b).mono (by omega)))
      rw [← Int.pow_add] at HM1
      clear pO rO pT rT
      go_wp2_with fail
      refine HM1.out.mono ?_
      rintro e w6 h6
      obtain ⟨v6, rfl, r6, b6⟩ := h6
      obtain ⟨d6, A6, n6, c6, rfl⟩ := r6.shape
      obtain ⟨d9, A9, n9, c9, p9, r9⟩ := HS.out.1.below b6
      have hbT := HS.out.2.1.below b6
      have f0 := p9.f0
      have f1 := p9.f1
      have q0 := p9.c0
      have q1 := p9.c1
      obtain ⟨W7, hW7⟩ : ∃ W7, W7 = (w6.setCell ⟨gO, 0, none⟩ (.bool d6)).setCell ⟨gO, 1, none⟩ (.slice A6 n6 c6) := ⟨_, rfl⟩
      have HS7 : Hid (PowS w K gO gT (a + b) b W7) := by rw [hW7]; exact ⟨BoxN.self r6 p9, hbT.other p9 (by omega), (HS.out.2.2.1.below b6).set2 (by omega), below_set2 (HS.out.2.2.2.trans (b6.mono HS.out.2.2.2.size)) (by omega)⟩
      have HW7 := Lib.hid hW7
      have hgne : gT ≠ gO := by omega
      clear r6 b6 p9 r9 hbT s0 s1 t0 t1 hW7 HM1
      obtain ⟨dO, AO, nO, cO, pO, rO⟩ := HS7.out.1
      obtain ⟨dT, AT, nT, cT, pT, rT⟩ := HS7.out.2.1
      have t0 := pT.c0
      have t1 := pT.c1
      rw [HW7.out] at t0 t1
      have HM2 := Lib.hid (mul_any (2 ^ b) (2 ^ b) _ _ W7 rT rT ((bits_pow b).mono (by omega)) ((bits_pow b).mono (by omega)))
      rw [← Int.pow_add] at HM2
      clear pO rO pT rT
      go_wp2_with fail
      rw [← HW7.out]
      clear f0 f1 q0 q1
      refine HM2.out.mono ?_
      rintro e w8 h8
      obtain ⟨v8, rfl, r8, b8⟩ := h8
      obtain ⟨d8, A8, n8, c8, rfl⟩ := r8.shape
      have hbO := HS7.out.1.below b8
      obtain ⟨d9, A9, n9, c9, p9, r9⟩ := HS7.out.2.1.below b8
      have f0 := p9.f0
      have f1 := p9.f1
      have q0 := p9.c0
      have q1 := p9.c1
      have HS9 := Lib.hid (show PowS w K gO gT (a + b) (b + b) ((w8.setCell ⟨gT, 0, none⟩ (.bool d8)).setCell ⟨gT, 1, none⟩ (.slice A8 n8 c8)) from ⟨hbO.other p9 (by omega), BoxN.self r8 p9, (HS7.out.2.2.1.below b8).set2 (by omega), below_set2 (HS7.out.2.2.2.trans (b8.mono HS7.out.2.2.2.size)) (by omega)⟩)
      clear r8 b8 hbO p9 r9 t0 t1
      go_wp2_with fail
      exact ⟨⟨k / 2, (a + b), b + b, by omega, by go_num, HKQ.out.1, HKQ.out.2, HS9.out⟩, by simp [intOf]; omega⟩
    · have hB : ((k : Int) % 2 == 1) = false := by simp; omega
      have HKQ := Lib.hid (pow_even HK.out hodd)
      obtain ⟨W7, hW7⟩ : ∃ W7, W7 = wr := ⟨_, rfl⟩
      subst hW7
      have HS7 := HS
      obtain ⟨dO, AO, nO, cO, pO, rO⟩ := HS7.out.1
      obtain ⟨dT, AT, nT, cT, pT, rT⟩ := HS7.out.2.1
      have t0 := pT.c0
      have t1 := pT.c1
      have HM2 := Lib.hid (mul_any (2 ^ b) (2 ^ b) _ _ W7 rT rT ((bits_pow b).mono (by omega)) ((bits_pow b).mono (by omega)))
      rw [← Int.pow_add] at HM2
      clear pO rO pT rT
      go_wp2_with fail
      refine HM2.out.mono ?_
      rintro e w8 h8
      obtain ⟨v8, rfl, r8, b8⟩ := h8
      obtain ⟨d8, A8, n8, c8, rfl⟩ := r8.shape
      have hbO := HS7.out.1.below b8
      obtain ⟨d9, A9, n9, c9, p9, r9⟩ := HS7.out.2.1.below b8
      have f0 := p9.f0
      have f1 := p9.f1
      have q0 := p9.c0
      have q1 := p9.c1
      have HS9 := Lib.hid (show PowS w K gO gT a (b + b) ((w8.setCell ⟨gT, 0, none⟩ (.bool d8)).setCell ⟨gT, 1, none⟩ (.slice A8 n8 c8)) from ⟨hbO.other p9 (by omega), BoxN.self r8 p9, (HS7.out.2.2.1.below b8).set2 (by omega), below_set2 (HS7.out.2.2.2.trans (b8.mono HS7.out.2.2.2.size)) (by omega)⟩)
      clear r8 b8 hbO p9 r9 t0 t1
      go_wp2_with fail
      exact ⟨⟨k / 2, a, b + b, by omega, by go_num, HKQ.out.1, HKQ.out.2, HS9.out⟩, by simp [intOf]; omega⟩
end Go.Proofs.YtpilpceclmppgaaDoor
