/- Contracts of the reference of wide: Gcd, Power, Fits. · Contracts of the reference of wide: Gcd, Fits. · Contracts of the reference of wide: Fits, Small. · Contracts of the reference: Decimal, Text. · Contracts of the reference: Text. · Contracts of the reference: Parse. -/
import Derived.Test.YtgfhniiidejmoaaGreatDoorB31
import Derived.Deep.LoopGhost
import Derived.Test.YtgfhniiidejmoaaGreatDoorB14
namespace Go.Proofs.YtgfhniiidejmoaaGreatDoor
open Go.RowKit
set_option linter.unusedVariables false

/-- block g holds an integer of the reference -/
def BoxN (w : World) (g : Nat) (z : Int) : Prop := ∃ d A n c, Blk2 w g 26 (.bool d) (.slice A n c) ∧ RepN w w.heap.size z (.agg #[.bool d, .slice A n c])
theorem BoxN.below {w w' : World} {g : Nat} {z : Int} (h : BoxN w g z) (hb : Below w.heap.size w w') : BoxN w' g z := by
  obtain ⟨d, A, n, c, h1, h2⟩ := h
  exact ⟨d, A, n, c, h1.below hb, (h2.below hb).more hb.size⟩
theorem BoxN.other {w : World} {g R : Nat} {z : Int} {u v : Value} {d : Bool} {A : Option Addr} {n c : Nat} (h : BoxN w g z) (hk : Blk2 w R 26 (.bool d) (.slice A n c)) (hne : g ≠ R) : BoxN ((w.setCell ⟨R, 0, none⟩ u).setCell ⟨R, 1, none⟩ v) g z := by
  obtain ⟨d', A', n', c', h1, h2⟩ := h
  exact ⟨d', A', n', c', h1.set2 hne, by rw [size_set2]; exact h2.stored hk⟩
theorem BoxN.self {w : World} {R : Nat} {z : Int} {d d' : Bool} {A A' : Option Addr} {n c n' c' : Nat} (h : RepN w w.heap.size z (.agg #[.bool d', .slice A' n' c'])) (hk : Blk2 w R 26 (.bool d) (.slice A n c)) : BoxN ((w.setCell ⟨R, 0, none⟩ (.bool d')).setCell ⟨R, 1, none⟩ (.slice A' n' c')) R z :=
  ⟨d', A', n', c', (hk.set0 _).set1 _, by rw [size_set2]; exact h.stored hk⟩
theorem BoxN.new {w : World} {z : Int} {d : Bool} {A : Option Addr} {n c : Nat} (h : RepN w w.heap.size z (.agg #[.bool d, .slice A n c])) : BoxN (w.alloc (.cells #[.bool d, .slice A n c] 26)) w.heap.size z :=
  have hal := (Below.refl w.heap.size w).alloc (Nat.le_refl _) (.cells #[.bool d, .slice A n c] 26)
  ⟨d, A, n, c, Blk2.new _ _ _ _, (h.below hal).more hal.size⟩

/-! ### Power -/
theorem bits_pow (a : Nat) : Bits (a + 1) (2 ^ a) := by
  have h := pow_pos' (show (0 : Int) < 2 by omega) a
  unfold Bits
  rw [Int.pow_succ]
  omega
theorem pow_odd {a b k K : Nat} (h : a + b * k = K) (ho : k % 2 = 1) : a + b + (b + b) * (k / 2) = K ∧ (0 < k / 2 → b + b ≤ K) := by
  obtain ⟨j, rfl⟩ : ∃ j, k = 2 * j + 1 := ⟨k / 2, by omega⟩
  have e : b * (2 * j) = b * j + b * j := by rw [show 2 * j = j + j by omega, Nat.mul_add]
  rw [show (2 * j + 1) / 2 = j by omega]
  rw [Nat.mul_add, Nat.mul_one, e] at h
  rw [Nat.add_mul]
  refine ⟨by omega, fun hj => ?_⟩
  have := Nat.mul_le_mul_left b (show 1 ≤ j by omega)
  omega
theorem pow_even {a b k K : Nat} (h : a + b * k = K) (ho : ¬ k % 2 = 1) : a + (b + b) * (k / 2) = K ∧ (0 < k / 2 → b + b ≤ K) := by
  obtain ⟨j, rfl⟩ : ∃ j, k = 2 * j := ⟨k / 2, by omega⟩
  have e : b * (2 * j) = b * j + b * j := by rw [show 2 * j = j + j by omega, Nat.mul_add]
  rw [show 2 * j / 2 = j by omega]
  rw [e] at h
  rw [Nat.add_mul]
  refine ⟨by omega, fun hj => ?_⟩
  have := Nat.mul_le_mul_left b (show 1 ≤ j by omega)
  omega
def PowS (w : World) (K gO gT a b : Nat) (wr : World) : Prop := BoxN wr gO (2 ^ a) ∧ BoxN wr gT (2 ^ b) ∧ Blk2 wr w.heap.size 26 (.bool false) (.slice none 0 0) ∧ Below w.heap.size w wr
set_option maxRecDepth 100000 in
set_option maxHeartbeats 4000000 in
theorem power_any (K : Nat) (w : World) (hK : K ≤ 20000) : Calls Tryz.prog 10 #[.int .i64 K] w (NewN (2 ^ K) w) := by
  obtain ⟨W1, hW1⟩ : ∃ W1, W1 = w.alloc (.cells #[.bool false, .slice none 0 0] 26) := ⟨_, rfl⟩
  have HB1 : Hid (Below w.heap.size w W1) := by rw [hW1]; exact (Below.refl _ _).alloc (Nat.le_refl _) _
  have HK1 : Hid (Blk2 W1 w.heap.size 26 (.bool false) (.slice none 0 0)) := by rw [hW1]; exact Blk2.new _ _ _ _
  have HW1 := Lib.hid hW1
  have HO1 := Lib.hid (of_pos 1 W1 (by omega) (by omega))
  have HO2 := Lib.hid (fun w => of_pos 2 w (by omega) (by omega))
  clear hW1
  go_enter Tryz.func10, Tryz.ntmps10
  go_wp2_with fail
  rw [← HW1.out]
  refine HO1.out.mono ?_
  rintro e w2 h2
  obtain ⟨v2, rfl, r2, b2⟩ := h2
  obtain ⟨d2, A2, n2, c2, rfl⟩ := r2.shape
  have hal := (Below.refl w2.heap.size w2).alloc (Nat.le_refl _) (.cells #[.bool d2, .slice A2 n2 c2] 26)
  have HX2 := Lib.hid (BoxN.new r2)
  have HK2 := Lib.hid ((HK1.out.below b2).below hal)
  have HB2 := Lib.hid ((HB1.out.trans (b2.mono HB1.out.size)).trans (hal.mono (Nat.le_trans HB1.out.size b2.size)))
  obtain ⟨gO, hgO⟩ : ∃ gO, gO = w2.heap.size := ⟨_, rfl⟩
  rw [← hgO] at HX2
  have hgl : w.heap.size < gO := by rw [hgO]; exact (HK1.out.below b2).lt
  obtain ⟨W3, hW3⟩ : ∃ W3, W3 = w2.alloc (.cells #[.bool d2, .slice A2 n2 c2] 26) := ⟨_, rfl⟩
  rw [← hW3] at HX2 HK2 HB2
  have HW3 := Lib.hid hW3
  have HGO := Lib.hid hgO
  clear r2 b2 hal hgO hW3 HK1 HB1 HO1
  go_wp2_with fail
  rw [← HW3.out, ← HGO.out]
  refine (HO2.out W3).mono ?_
  rintro e w4 h4
  obtain ⟨v4, rfl, r4, b4⟩ := h4
  obtain ⟨d4, A4, n4, c4, rfl⟩ := r4.shape
  have hal := (Below.refl w4.heap.size w4).alloc (Nat.le_refl _) (.cells #[.bool d4, .slice A4 n4 c4] 26)
  have HS := Lib.hid (show PowS w K gO w4.heap.size 0 1 (w4.alloc (.cells #[.bool d4, .slice A4 n4 c4] 26)) from ⟨(HX2.out.below b4).below hal, by have := BoxN.new r4; exact this, (HK2.out.below b4).below hal, (HB2.out.trans (b4.mono HB2.out.size)).trans (hal.mono (Nat.le_trans HB2.out.size b4.size))⟩)
  have hgT : gO < w4.heap.size := by obtain ⟨_, _, _, _, h, _⟩ := HX2.out.below b4; exact h.lt
  obtain ⟨gT, hgT'⟩ : ∃ gT, gT = w4.heap.size := ⟨_, rfl⟩
  rw [← hgT'] at HS hgT
  obtain ⟨W5, hW5⟩ : ∃ W5, W5 = w4.alloc (.cells #[.bool d4, .slice A4 n4 c4] 26) := ⟨_, rfl⟩
  rw [← hW5] at HS
  have HW5 := Lib.hid hW5
  have HGT := Lib.hid hgT'
  clear r4 b4 hal hgT' hW5 HK2 HB2 HX2 HO2 HW3 HGO
  go_upto_region 3 with (fail)
  rw [← HW5.out, ← HGT.out]
  go_loopw [0] (fun kv wr => ∃ k a b : Nat, k ≤ K ∧ kv = .int .i64 k ∧ Hid (a + b * k = K) ∧ (0 < k → b ≤ K) ∧ Hid (PowS w K gO gT a b wr)) (fun kv _ => (intOf kv).toNat)
  case atStart => exact ⟨K, 0, 1, Nat.le_refl _, rfl, by show 0 + 1 * K = K; omega, fun h => by omega, HS.out⟩
  case round =>
    clear HS
    obtain ⟨k, a, b, hk, rfl, HK, hb, HS⟩ := hrel
    rcases Nat.eq_zero_or_pos k with rfl | hk0
    · obtain rfl : a = K := by have h : a + b * 0 = K := HK.out; simpa using h
      obtain ⟨dO, AO, nO, cO, pO, rO⟩ := HS.out.1
      have t0 := pO.c0
      have t1 := pO.c1
      have hk := HS.out.2.2.1
      have f0 := hk.f0
      have f1 := hk.f1
      have u0 := hk.c0
      have u1 := hk.c1
      have HF := Lib.hid (newN_ret rO hk HS.out.2.2.2 (by omega))
      clear pO rO hk
      go_wp2_with fail
      exact bodyPost_ret (v := .agg #[.bool dO, .slice AO nO cO]) (by simp [results, Tryz.results10, go_sem, u0, u1]) rfl HF.out
    have hb' := hb hk0
    have haK : a ≤ K := by have h : a + b * k = K := HK.out; omega
    by_cases hodd : k % 2 = 1
    · have hB : ((k : Int) % 2 == 1) = true := by simp; omega
      have HKQ := Lib.hid (pow_odd HK.out hodd)
      obtain ⟨dO, AO, nO, cO, pO, rO⟩ := HS.out.1
      obtain ⟨dT, AT, nT, cT, pT, rT⟩ := HS.out.2.1
      have s0 := pO.c0
      have s1 := pO.c1
      have t0 := pT.c0
      have t1 := pT.c1
      have HM1 := Lib.hid (mul_any (2 ^ a) (2 ^ b) _ _ wr rO rT ((bits_pow a).mono (by omega)) ((bits_pow b).mono (by omega)))
      rw [← Int.pow_add] at HM1
      clear pO rO pT rT
      go_wp2_with fail
      refine HM1.out.mono ?_
      rintro e w6 h6
      obtain ⟨v6, rfl, r6, b6⟩ := h6
      obtain ⟨d6, A6, n6, c6, rfl⟩ := r6.shape
      obtain ⟨d9, A9, n9, c9, p9, r9⟩ := HS.out.1.below b6
      have hbT := HS.out.2.1.below b6
      have f0 := p9.f0
      have f1 := p9.f1
      have q0 := p9.c0
      have q1 := p9.c1
      obtain ⟨W7, hW7⟩ : ∃ W7, W7 = (w6.setCell ⟨gO, 0, none⟩ (.bool d6)).setCell ⟨gO, 1, none⟩ (.slice A6 n6 c6) := ⟨_, rfl⟩
      have HS7 : Hid (PowS w K gO gT (a + b) b W7) := by rw [hW7]; exact ⟨BoxN.self r6 p9, hbT.other p9 (by omega), (HS.out.2.2.1.below b6).set2 (by omega), below_set2 (HS.out.2.2.2.trans (b6.mono HS.out.2.2.2.size)) (by omega)⟩
      have HW7 := Lib.hid hW7
      have hgne : gT ≠ gO := by omega
      clear r6 b6 p9 r9 hbT s0 s1 t0 t1 hW7 HM1
      obtain ⟨dO, AO, nO, cO, pO, rO⟩ := HS7.out.1
      obtain ⟨dT, AT, nT, cT, pT, rT⟩ := HS7.out.2.1
      have t0 := pT.c0
      have t1 := pT.c1
      rw [HW7.out] at t0 t1
      have HM2 := Lib.hid (mul_any (2 ^ b) (2 ^ b) _ _ W7 rT rT ((bits_pow b).mono (by omega)) ((bits_pow b).mono (by omega)))
      rw [← Int.pow_add] at HM2
      clear pO rO pT rT
      go_wp2_with fail
      rw [← HW7.out]
      clear f0 f1 q0 q1
      refine HM2.out.mono ?_
      rintro e w8 h8
      obtain ⟨v8, rfl, r8, b8⟩ := h8
      obtain ⟨d8, A8, n8, c8, rfl⟩ := r8.shape
      have hbO := HS7.out.1.below b8
      obtain ⟨d9, A9, n9, c9, p9, r9⟩ := HS7.out.2.1.below b8
      have f0 := p9.f0
      have f1 := p9.f1
      have q0 := p9.c0
      have q1 := p9.c1
      have HS9 := Lib.hid (show PowS w K gO gT (a + b) (b + b) ((w8.setCell ⟨gT, 0, none⟩ (.bool d8)).setCell ⟨gT, 1, none⟩ (.slice A8 n8 c8)) from ⟨hbO.other p9 (by omega), BoxN.self r8 p9, (HS7.out.2.2.1.below b8).set2 (by omega), below_set2 (HS7.out.2.2.2.trans (b8.mono HS7.out.2.2.2.size)) (by omega)⟩)
      clear r8 b8 hbO p9 r9 t0 t1
      go_wp2_with fail
      exact ⟨⟨k / 2, (a + b), b + b, by omega, by go_num, HKQ.out.1, HKQ.out.2, HS9.out⟩, by simp [intOf]; omega⟩
    · have hB : ((k : Int) % 2 == 1) = false := by simp; omega
      have HKQ := Lib.hid (pow_even HK.out hodd)
      obtain ⟨W7, hW7⟩ : ∃ W7, W7 = wr := ⟨_, rfl⟩
      subst hW7
      have HS7 := HS
      obtain ⟨dO, AO, nO, cO, pO, rO⟩ := HS7.out.1
      obtain ⟨dT, AT, nT, cT, pT, rT⟩ := HS7.out.2.1
      have t0 := pT.c0
      have t1 := pT.c1
      have HM2 := Lib.hid (mul_any (2 ^ b) (2 ^ b) _ _ W7 rT rT ((bits_pow b).mono (by omega)) ((bits_pow b).mono (by omega)))
      rw [← Int.pow_add] at HM2
      clear pO rO pT rT
      go_wp2_with fail
      refine HM2.out.mono ?_
      rintro e w8 h8
      obtain ⟨v8, rfl, r8, b8⟩ := h8
      obtain ⟨d8, A8, n8, c8, rfl⟩ := r8.shape
      have hbO := HS7.out.1.below b8
      obtain ⟨d9, A9, n9, c9, p9, r9⟩ := HS7.out.2.1.below b8
      have f0 := p9.f0
      have f1 := p9.f1
      have q0 := p9.c0
      have q1 := p9.c1
      have HS9 := Lib.hid (show PowS w K gO gT a (b + b) ((w8.setCell ⟨gT, 0, none⟩ (.bool d8)).setCell ⟨gT, 1, none⟩ (.slice A8 n8 c8)) from ⟨hbO.other p9 (by omega), BoxN.self r8 p9, (HS7.out.2.2.1.below b8).set2 (by omega), below_set2 (HS7.out.2.2.2.trans (b8.mono HS7.out.2.2.2.size)) (by omega)⟩)
      clear r8 b8 hbO p9 r9 t0 t1
      go_wp2_with fail
      exact ⟨⟨k / 2, a, b + b, by omega, by go_num, HKQ.out.1, HKQ.out.2, HS9.out⟩, by simp [intOf]; omega⟩
end Go.Proofs.YtgfhniiidejmoaaGreatDoor
namespace Go.Proofs.YtgfhniiidejmoaaGreatDoor
open Go.RowKit
set_option linter.unusedVariables false

theorem RepN.zero {w : World} {B n c : Nat} {z : Int} {d : Bool} {A : Option Addr} (h : RepN w B z (.agg #[.bool d, .slice A n c])) : n = 0 ↔ z = 0 := by
  obtain ⟨A', n', c', l, e, h1, h2, h3, h4, h5, h6, h7⟩ := h
  cases e
  constructor
  · rintro rfl
    have : l = [] := List.eq_nil_of_length_eq_zero h1.len
    rw [this] at h7
    simp [dv] at h7
    omega
  · rintro rfl
    rcases Nat.eq_zero_or_pos n with h8 | h8
    · exact h8
    · have h9 := top_ge (show (1 : Int) < 10000 by omega) h5 h6 (fun e => by have := h1.len; rw [e] at this; simp at this; omega)
      have := pow_pos' (show (0 : Int) < 10000 by omega) (l.length - 1)
      omega
def GcdS (w : World) (gx gy X Y : Nat) (wr : World) : Prop := BoxN wr gx X ∧ BoxN wr gy Y ∧ Blk2 wr (w.heap.size + 1 + 1) 26 (.bool false) (.slice none 0 0) ∧ Below w.heap.size w wr
theorem GcdS.below {w : World} {gx gy X Y : Nat} {wr w' : World} (h : GcdS w gx gy X Y wr) (hb : Below wr.heap.size wr w') : GcdS w gx gy X Y w' :=
  ⟨h.1.below hb, h.2.1.below hb, h.2.2.1.below hb, h.2.2.2.trans (hb.mono h.2.2.2.size)⟩
theorem BoxN.lt {w : World} {g : Nat} {z : Int} (h : BoxN w g z) : g < w.heap.size := by
  obtain ⟨_, _, _, _, h1, _⟩ := h
  exact h1.lt
end Go.Proofs.YtgfhniiidejmoaaGreatDoor
namespace Go.Proofs.YtgfhniiidejmoaaGreatDoor
open Go.RowKit
set_option linter.unusedVariables false

/-! ### Small -/
end Go.Proofs.YtgfhniiidejmoaaGreatDoor
namespace Go.Proofs.YtgfhniiidejmoaaGreatDoor
open Go.RowKit
set_option linter.unusedVariables false

def strB (l : List UInt8) : ByteArray := ⟨l.toArray⟩
theorem ret_str {a b : ByteArray} (h : a = b) : Ending.returned (.string a) = .returned (.string b) := by rw [h]
theorem dec_more {x d : Int} (hx : 0 ≤ x) (hd : 0 ≤ d ∧ d < 10) (h : 0 < 10 * x + d) : dec10 (10 * x + d) = dec10 x ++ [chr d] := by
  rcases Int.lt_or_eq_of_le hx with h1 | h1
  · exact dec_step h1 hd
  · subst h1
    have e : dec10 0 = [] := by unfold dec10; rw [digs_neg (by omega)]; rfl
    rw [e, Int.mul_zero, Int.zero_add, dec_one (by omega)]; rfl
theorem digit_slice (d : Nat) (hd : d < 10) (w : World) : (Instr.slice 9 (.string ⟨#[48, 49, 50, 51, 52, 53, 54, 55, 56, 57]⟩) (some (.int .i64 (d : Int))) (some (.int .i64 ((d : Int) + 1))) none).run Tryz.prog w = .ok (.string (strB [chr (d : Int)])) w := by
  have e : (⟨#[48, 49, 50, 51, 52, 53, 54, 55, 56, 57]⟩ : ByteArray).extract d (d + 1) = strB [chr (d : Int)] := by
    have : d = 0 ∨ d = 1 ∨ d = 2 ∨ d = 3 ∨ d = 4 ∨ d = 5 ∨ d = 6 ∨ d = 7 ∨ d = 8 ∨ d = 9 := by omega
    rcases this with h | h | h | h | h | h | h | h | h | h <;> subst h <;> rfl
  have h := run_slice_string (P := Tryz.prog) w 9 ⟨#[48, 49, 50, 51, 52, 53, 54, 55, 56, 57]⟩ .i64 .i64 (d : Int) ((d : Int) + 1) Tryz.underlying9 (by omega) (by omega) (by show (d : Int) + 1 ≤ ((10 : Nat) : Int); omega)
  rw [Int.toNat_natCast, show ((d : Int) + 1).toNat = d + 1 by omega, e] at h
  exact h
set_option maxRecDepth 100000 in
set_option maxHeartbeats 2000000 in
theorem decimal_any (n : Int) (w : World) (h0 : 0 ≤ n) (h1 : n ≤ 9223372036854775807) :
    Calls Tryz.prog 27 #[.int .i64 n] w fun e w' => e = .returned (.string (strB (decT n))) ∧ w = w' := by
  by_cases hz : n = 0
  · subst hz
    go_enter Tryz.func27, Tryz.ntmps27
    go_wp2
    go_ret
    exact ⟨ret_str rfl, rfl⟩
  · have hzb : (n == 0) = false := by simpa using hz
    have hneg : ¬ n < 0 := by omega
    have HD : Hid (decT n = dec10 n) := by show decT n = dec10 n; unfold decT; rw [if_neg hz, if_neg hneg]
    go_enter Tryz.func27, Tryz.ntmps27
    go_wp2_with fail
    go_loop [4, 5] (fun s kv => ∃ (k : Int) (l : List UInt8), 0 ≤ k ∧ k ≤ n ∧ kv = .int .i64 k ∧ s = .string (strB l) ∧ l.length ≤ 100 ∧ Hid (dec10 n = dec10 k ++ l)) (fun _ kv => (intOf kv).toNat)
    case atStart => exact ⟨n, [], h0, Int.le_refl _, rfl, rfl, by simp, by show dec10 n = dec10 n ++ []; simp⟩
    case round =>
      obtain ⟨k, l, hk0, hkn, rfl, rfl, hll, HL⟩ := hrel
      by_cases hk : k = 0
      · subst hk
        go_wp2_with fail
        go_ret
        exact ⟨ret_str (by rw [HD.out, HL.out, show dec10 0 = [] from by unfold dec10; rw [digs_neg (by omega)]; rfl]; rfl), rfl⟩
      · have hkb : (k == 0) = false := by simpa using hk
        have t1 : k.tmod 10 = k % 10 := Int.tmod_eq_emod_of_nonneg hk0
        have t2 : k.tdiv 10 = k / 10 := Int.tdiv_eq_ediv_of_nonneg hk0
        obtain ⟨d, hd⟩ : ∃ d : Nat, k % 10 = (d : Int) := ⟨(k % 10).toNat, by omega⟩
        have t4 : d < 10 := by omega
        rw [hd] at t1
        have HDD := Lib.hid hd
        have HK := Lib.hid (show 10 * (k / 10) + (d : Int) = k by omega)
        have t6 : (d : Int) + 1 ≤ 10 := by omega
        have hsl := digit_slice d t4 w
        have hs1 : (strB [chr (d : Int)]).size ≤ 1 := Nat.le_refl _
        have hs2 : (strB l).size ≤ 100 := hll
        have hl20 : l.length < 20 := by
          rcases Nat.lt_or_ge l.length 20 with h | h
          · exact h
          · have e := congrArg List.length HL.out
            rw [List.length_append] at e
            have h2 : (dec10 n).length ≤ 19 := by rw [dec_len]; exact digs_len (by omega) h0 (by have : (10 : Int) ^ 19 = 10000000000000000000 := by decide
                                                                                                 omega)
            omega
        have HL2 := Lib.hid (show dec10 n = dec10 (k / 10) ++ (chr (d : Int) :: l) by
          have e := dec_more (x := k / 10) (d := (d : Int)) (by omega) (by omega) (by have := HK.out; omega)
          rw [HK.out] at e
          rw [HL.out, e]; simp)
        clear hll
        go_wp2_with fail
        exact ⟨⟨k / 10, chr (d : Int) :: l, by omega, by omega, rfl, rfl, by simp; omega, HL2.out⟩, by simp [intOf]; omega⟩
end Go.Proofs.YtgfhniiidejmoaaGreatDoor
namespace Go.Proofs.YtgfhniiidejmoaaGreatDoor
open Go.RowKit
set_option linter.unusedVariables false

def strLen : Value → Nat
  | .string b => b.size
  | _ => 0
theorem strB_app (a b : List UInt8) : strB a ++ strB b = strB (a ++ b) := by
  unfold strB
  apply ByteArray.ext
  simp
theorem strB_size (l : List UInt8) : (strB l).size = l.length := rfl
theorem drop_pos {zs : List Int} (hd : Dig 10000 zs) (ht : Top zs) (k : Nat) (hk : k < zs.length) : 0 < dv 10000 (zs.drop k) := by
  have ht2 : Top (zs.drop k) := by
    unfold Top at *
    rw [List.getLast?_drop, if_neg (by omega)]
    exact ht
  have h := top_ge (show (1 : Int) < 10000 by omega) (hd.drop k) ht2 (fun e => by have := congrArg List.length e; rw [List.length_drop] at this; simp at this; omega)
  have := pow_pos' (show (0 : Int) < 10000 by omega) ((zs.drop k).length - 1)
  omega
theorem dec10_len4 {zs : List Int} (hd : Dig 10000 zs) (k : Nat) : (dec10 (dv 10000 (zs.drop k))).length ≤ 4 * zs.length := by
  rw [dec_len]
  refine digs_len (by omega) (dv_nonneg (by omega) (hd.drop k)) ?_
  have h1 := dv_lt (show (0 : Int) < 10000 by omega) (hd.drop k)
  have h2 := pow_mono' (show (0 : Int) < 10000 by omega) (show (zs.drop k).length ≤ zs.length by rw [List.length_drop]; omega)
  have h3 : (10 : Int) ^ (4 * zs.length) = 10000 ^ zs.length := by rw [Int.pow_mul]; rfl
  omega
def TextPost (z : Int) (w : World) (e : Ending) (w' : World) : Prop := e = .returned (.string (strB (decT z))) ∧ Below w.heap.size w w'
set_option maxRecDepth 100000 in
set_option maxHeartbeats 4000000 in
theorem text_any (z : Int) (v : Value) (w : World) (h : RepN w w.heap.size z v) (bz : Bits 60000 z) :
    Calls Tryz.prog 13 #[v] w (TextPost z w) := by
  obtain ⟨A, n, c, zs, rfl, hs, hn, hc, hA, hd, ht, hv, hl⟩ := h.parts (m := 5000) bz (by omega)
  have hzz := h.zero
  obtain ⟨b, hb⟩ : ∃ b, b = decide (z < 0) := ⟨_, rfl⟩
  rw [← hb]
  obtain ⟨W, hW⟩ : ∃ W, W = w.alloc (.cells #[.bool b, .slice A n c] 26) := ⟨_, rfl⟩
  have hal : Below w.heap.size w W := by rw [hW]; exact (Below.refl _ _).alloc (Nat.le_refl _) _
  have hk : Blk2 W w.heap.size 26 (.bool b) (.slice A n c) := by rw [hW]; exact Blk2.new _ _ _ _
  have HAL := Lib.hid hal
  have HS := Lib.hid (hs.below hal)
  have HD := Lib.hid hd
  have HT := Lib.hid ht
  have HV := Lib.hid hv
  have HB := Lib.hid hb
  have HW := Lib.hid hW
  have HLN := Lib.hid hs.len
  have HZ := Lib.hid hzz
  have g0 := hk.c0
  have g1 := hk.c1
  clear h bz hal hs hd ht hv hb hW hk hA hzz
  by_cases hn0 : n = 0
  · have hz : z = 0 := HZ.out.1 hn0
    subst hn0
    have HF := Lib.hid (show TextPost z w (.returned (.string ⟨#[48]⟩)) W from ⟨by rw [hz]; rfl, HAL.out⟩)
    clear hz
    go_enter Tryz.func13, Tryz.ntmps13
    go_upto_region 1 with (fail)
    rw [← HW.out]
    go_wp2_with fail
    go_ret
    exact HF.out
  · obtain ⟨p, rfl⟩ : ∃ p, n = p + 1 := ⟨n - 1, by omega⟩
    obtain ⟨ba, oa, rfl, _, hca⟩ := HS.out.at_ (by omega)
    have hpl : p < zs.length := by rw [HLN.out]; omega
    have hg := fun k => HD.out.get (show (0 : Int) < 10000 by omega) k
    have HG := Lib.hid hg
    have HCA := Lib.hid hca
    have c0 := hca p (by omega)
    obtain ⟨d, hd⟩ : ∃ d, d = zs[p]?.getD 0 := ⟨_, rfl⟩
    rw [← hd] at c0
    have hdb := hg p
    rw [← hd] at hdb
    have HDC := Lib.hid (decimal_any d W (by omega) (by omega))
    have hdrop : dv 10000 (zs.drop p) = d := by
      rw [List.drop_eq_getElem_cons hpl, List.drop_of_length_le (by rw [HLN.out]; omega), hd, List.getElem?_eq_getElem hpl]
      simp [dv]
    have hd0 := drop_pos HD.out HT.out p hpl
    have hdt : decT d = dec10 (dv 10000 (zs.drop p)) := by
      rw [hdrop] at hd0 ⊢
      unfold decT
      rw [if_neg (by omega), if_neg (by omega)]
    rw [hdt] at HDC
    have hl2 := dec10_len4 HD.out p
    rw [HLN.out] at hl2
    have hs0 : (strB (dec10 (dv 10000 (zs.drop p)))).size ≤ 20000 := by rw [strB_size]; omega
    have hne : ((p : Int) + 1 == 0) = false := by simp; omega
    have hp1 : (p : Int) + 1 - 1 = (p : Int) := by omega
    clear hd hdb hdrop hd0 hdt hl2 hg hca hn0 hpl
    go_enter Tryz.func13, Tryz.ntmps13
    go_upto_region 1 with (fail)
    rw [← HW.out]
    go_wp2_with fail
    refine HDC.out.mono ?_
    rintro e w1 ⟨rfl, rfl⟩
    clear c0 hs0
    go_wp2_with fail
    go_loop [3, 4] (fun ov iv => ∃ k : Nat, k ≤ p ∧ iv = .int .i64 ((k : Int) - 1) ∧ ov = .string (strB (dec10 (dv 10000 (zs.drop k))))) (fun _ iv => (intOf iv + 1).toNat)
    case atStart => exact ⟨p, Nat.le_refl _, by congr 1; omega, rfl⟩
    case round =>
      obtain ⟨k, hk, rfl, rfl⟩ := hrel
      have hl2 := dec10_len4 HD.out k
      rw [HLN.out] at hl2
      have hs0 : (strB (dec10 (dv 10000 (zs.drop k)))).size ≤ 20000 := by rw [strB_size]; omega
      clear hl2
      rcases Nat.eq_zero_or_pos k with rfl | hk0
      · have hv0 : dv 10000 (zs.drop 0) = (z.natAbs : Int) := by rw [List.drop_zero]; exact HV.out
        have hz0 : z ≠ 0 := fun e => by have := HZ.out.2 e; omega
        obtain ⟨s, hs⟩ : ∃ s, s = strB (dec10 (dv 10000 (zs.drop 0))) := ⟨_, rfl⟩
        rw [← hs] at hs0 ⊢
        cases b
        · have hb : ¬ z < 0 := by have h := HB.out; exact of_decide_eq_false h.symm
          have HF := Lib.hid (show TextPost z w (.returned (.string s)) W from ⟨by rw [hs, hv0]; unfold decT; rw [if_neg hz0, if_neg hb, show ((z.natAbs : Nat) : Int) = z by omega], HAL.out⟩)
          clear hv0 hz0 hs hb
          go_wp2_with fail
          go_ret
          exact HF.out
        · have hb : z < 0 := by have h := HB.out; exact of_decide_eq_true (p := z < 0) h.symm
          have HF := Lib.hid (show TextPost z w (.returned (.string (⟨#[45]⟩ ++ s))) W from ⟨by rw [hs, hv0]; unfold decT; rw [if_neg hz0, if_pos hb, show ((z.natAbs : Nat) : Int) = -z by omega, show (⟨#[45]⟩ : ByteArray) = strB [45] from rfl, strB_app]; rfl, HAL.out⟩)
          clear hv0 hz0 hs hb
          go_wp2_with fail
          go_ret
          exact HF.out
      · obtain ⟨j, rfl⟩ : ∃ j, k = j + 1 := ⟨k - 1, by omega⟩
        rw [show (((j + 1 : Nat) : Int) - 1) = (j : Int) by omega]
        have cj := HCA.out j (by omega)
        have hdb := HG.out j
        have hjl : j < zs.length := by rw [HLN.out]; omega
        have hjl2 : j + 1 < zs.length := by rw [HLN.out]; omega
        obtain ⟨d, hd⟩ : ∃ d, d = zs[j]?.getD 0 := ⟨_, rfl⟩
        rw [← hd] at cj hdb
        have HDC := Lib.hid (decimal_any d W (by omega) (by omega))
        have hst : dec10 (dv 10000 (zs.drop j)) = dec10 (dv 10000 (zs.drop (j + 1))) ++ pad4 d := by
          have e : zs.drop j = d :: zs.drop (j + 1) := by rw [List.drop_eq_getElem_cons hjl, hd, List.getElem?_eq_getElem hjl]; rfl
          rw [e, dv, Int.add_comm]
          exact dec_step4 (drop_pos HD.out HT.out (j + 1) hjl2) hdb
        have hpd := pad4_of hdb
        have HST := Lib.hid hst
        have HPD := Lib.hid hpd
        obtain ⟨X, hX⟩ : ∃ X, X = strB (dec10 (dv 10000 (zs.drop (j + 1)))) := ⟨_, rfl⟩
        rw [← hX] at hs0 ⊢
        have HX := Lib.hid hX
        clear hd hdb hst hpd hX hjl hjl2
        go_wp2_with fail
        refine HDC.out.mono ?_
        rintro e w1 ⟨rfl, rfl⟩
        clear cj
        go_wp2_with fail
        go_loop [5] (fun sv => ∃ q : Nat, q + (decT d).length ≤ 4 ∧ sv = .string (strB (List.replicate q 48 ++ decT d))) (fun sv => 4 - strLen sv)
        case atStart => exact ⟨0, by have := HPD.out.1; omega, rfl⟩
        case round =>
          obtain ⟨q, hq, rfl⟩ := hrel
          have hsz : (strB (List.replicate q 48 ++ decT d)).size = q + (decT d).length := by rw [strB_size]; simp
          obtain ⟨L, hL⟩ : ∃ L, L = (decT d).length := ⟨_, rfl⟩
          rw [← hL] at hsz hq
          obtain ⟨s, hs⟩ : ∃ s, s = strB (List.replicate q 48 ++ decT d) := ⟨_, rfl⟩
          rw [← hs] at hsz ⊢
          have hsz2 : s.size ≤ 4 := by omega
          have hsz3 : (s.size : Int) = ((q + L : Nat) : Int) := by omega
          have HL := Lib.hid hL
          have HSS := Lib.hid hs
          have HSZ := Lib.hid hsz
          clear hL hs hsz hsz3
          by_cases h4 : s.size < 4
          · go_wp2_with fail
            have e1 : (⟨#[48]⟩ : ByteArray) ++ s = strB (List.replicate (q + 1) 48 ++ decT d) := by
              rw [HSS.out, show (⟨#[48]⟩ : ByteArray) = strB [48] from rfl, strB_app, List.replicate_succ]
              rfl
            exact ⟨⟨q + 1, by have := HL.out; have := HSZ.out; omega, congrArg Value.string e1⟩, by
              show 4 - ((⟨#[48]⟩ : ByteArray) ++ s).size < 4 - s.size
              rw [ByteArray.size_append, show (⟨#[48]⟩ : ByteArray).size = 1 from rfl]
              omega⟩
          · have hs4 : s.size = 4 := by omega
            have HFF := Lib.hid (show X ++ s = strB (dec10 (dv 10000 (zs.drop j))) by
              have e : 4 - (decT d).length = q := by have := HSZ.out; have := HL.out; omega
              have h2 := HPD.out.2
              rw [e] at h2
              rw [HX.out, HSS.out, strB_app, HST.out, ← h2])
            clear hs4
            go_wp2_with fail
            exact ⟨⟨j, by omega, rfl, congrArg Value.string HFF.out⟩, by simp [intOf]⟩
end Go.Proofs.YtgfhniiidejmoaaGreatDoor
namespace Go.Proofs.YtgfhniiidejmoaaGreatDoor
open Go.RowKit
set_option linter.unusedVariables false

/-- digits gathered in groups of four, from the last one on -/
def GrpI (t : List UInt8) (k : Nat) (L : List Int) : Prop := L.length = k ∧ Dig 10000 L ∧ dv 10000 L = valT (t.drop (t.length - 4 * k)) ∧ (0 < k → 4 * (k - 1) < t.length)
theorem valT_take {t : List UInt8} (hd : ∀ b ∈ t, isD b = true) (n : Nat) : 0 ≤ valT (t.take n) ∧ valT (t.take n) < 10 ^ n := by
  obtain ⟨h0, h1⟩ := valT_bd (l := t.take n) (fun b hb => hd b (List.mem_of_mem_take hb))
  have h2 := pow_mono' (show (0 : Int) < 10 by omega) (show (t.take n).length ≤ n by rw [List.length_take]; omega)
  exact ⟨h0, by omega⟩
theorem GrpI.step {t : List UInt8} {k e' : Nat} {L : List Int} (h : GrpI t k L) (hd : ∀ b ∈ t, isD b = true) (hk : 4 * k < t.length) (he : e' = t.length - 4 * (k + 1)) :
    GrpI t (k + 1) (L ++ [valT ((t.drop e').take (t.length - 4 * k - e'))]) ∧ 0 ≤ valT ((t.drop e').take (t.length - 4 * k - e')) ∧ valT ((t.drop e').take (t.length - 4 * k - e')) < 10000 := by
  obtain ⟨h1, h2, h3, h4⟩ := h
  have hb := valT_take (t := t.drop e') (fun b hb => hd b (List.mem_of_mem_drop hb)) (t.length - 4 * k - e')
  have hp := pow_mono' (show (0 : Int) < 10 by omega) (show t.length - 4 * k - e' ≤ 4 by omega)
  have h10 : (10 : Int) ^ 4 = 10000 := by decide
  rw [h10] at hp
  refine ⟨⟨by simp [h1], h2.app (Dig.cons ⟨hb.1, by omega⟩ Dig.nil), ?_, fun _ => by omega⟩, hb.1, by omega⟩
  have e1 : t.drop e' = (t.drop e').take (t.length - 4 * k - e') ++ t.drop (t.length - 4 * k) := by
    conv => lhs; rw [← List.take_append_drop (t.length - 4 * k - e') (t.drop e')]
    rw [List.drop_drop, show e' + (t.length - 4 * k - e') = t.length - 4 * k by omega]
  rw [dv_snoc, h3, h1, ← he]
  conv => rhs; rw [e1]
  rw [valT_app, List.length_drop, show t.length - (t.length - 4 * k) = 4 * k by omega, Int.pow_mul]
  rfl

def ParsePost (l : List UInt8) (w : World) (e : Ending) (w' : World) : Prop := ∃ v, e = .returned (.tuple #[v, .int .i64 ((parseT l).2 : Int)]) ∧ RepN w' w'.heap.size (parseT l).1 v ∧ Below w.heap.size w w'
theorem ParsePost.mk {l : List UInt8} {z : Int} {n : Nat} (hp : parseT l = (z, n)) {w w' : World} {v : Value} (hr : RepN w' w'.heap.size z v) (hb : Below w.heap.size w w') (k : Int) (hk : k = (n : Int)) : ParsePost l w (.returned (.tuple #[v, .int .i64 k])) w' :=
  ⟨v, by rw [hp, hk], by rw [hp]; exact hr, hb⟩
theorem RepN.nil (w : World) (B : Nat) : RepN w B 0 (.agg #[.bool false, .slice none 0 0]) := ⟨none, 0, 0, [], rfl, Sl.nil _ _ _ _, Nat.le_refl _, by unfold maxLen; omega, fun _ => rfl, Dig.nil, by simp [Top], rfl⟩
end Go.Proofs.YtgfhniiidejmoaaGreatDoor
