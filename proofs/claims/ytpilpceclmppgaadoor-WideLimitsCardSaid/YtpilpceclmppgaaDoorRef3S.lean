/- Contracts of the reference: Near. -/
import Derived.Test.YtpilpceclmppgaaDoorRef3R
namespace Go.Proofs.YtpilpceclmppgaaDoor
open Go.RowKit
set_option linter.unusedVariables false

/-! ### Near -/
def nearE (m : Nat) : Nat := if m = 0 then 16384 else if m = 1 then 16383 else if m = 2 then 8192 else 63
def NearPost (k : Int) (w : World) (e : Ending) (w' : World) : Prop := ∃ z, (z.natAbs : Int) ≤ 2 ^ nearE (k.toNat % 4) + 4 ∧ NewN z w e w'
theorem near_cell (w : World) (m : Nat) (hm : m < 4) : (w.alloc (.cells #[.int .i64 16384, .int .i64 16383, .int .i64 8192, .int .i64 63] 3)).cell? ⟨w.heap.size, m, none⟩ = some (.int .i64 (nearE m : Int)) := by
  rw [cell_of_row _ _ _ _ _ _ (heap_alloc_new w _)]
  rcases (show m = 0 ∨ m = 1 ∨ m = 2 ∨ m = 3 by omega) with h | h | h | h <;> subst h <;> rfl
set_option maxRecDepth 100000 in
set_option maxHeartbeats 4000000 in
theorem near_any (n : Int) (w : World) (h0 : -9223372036854775808 ≤ n) (h1 : n ≤ 9223372036854775807) :
    Calls Tryd.prog 24 #[.int .i64 n] w (NearPost (aroundI n 28) w) := by
  have hbd := aroundI_bd n 28 (by omega)
  obtain ⟨k, hk⟩ : ∃ k : Nat, aroundI n 28 = (k : Int) := ⟨(aroundI n 28).toNat, by omega⟩
  obtain ⟨W, hW⟩ : ∃ W, W = w.alloc (.cells #[.bool false, .slice none 0 0] 25) := ⟨_, rfl⟩
  have hal : Below w.heap.size w W := by rw [hW]; exact (Below.refl _ _).alloc (Nat.le_refl _) _
  have hkb : Blk2 W w.heap.size 25 (.bool false) (.slice none 0 0) := by rw [hW]; exact Blk2.new _ _ _ _
  have HA := Lib.hid (around_any n 28 W h0 h1 (by omega) (by omega))
  rw [hk] at HA
  have HK := Lib.hid hk
  have HB := Lib.hid hal
  have HKB := Lib.hid hkb
  have HW := Lib.hid hW
  have hk28 : k < 28 := by omega
  obtain ⟨E, hEE⟩ : ∃ E, E = nearE (k % 4) := ⟨_, rfl⟩
  have hE : E ≤ 16384 := by rw [hEE]; unfold nearE; split <;> (try split) <;> (try split) <;> omega
  have HE := Lib.hid hEE
  have HNT := Lib.hid (show ((n.tdiv 28 : Int) ≤ 9223372036854775807 ∧ -9223372036854775808 ≤ n.tdiv 28) by
    rcases Int.lt_or_le n 0 with h | h
    · have : n.tdiv 28 = -((-n) / 28) := by rw [← Int.tdiv_eq_ediv_of_nonneg (by omega), Int.neg_tdiv, Int.neg_neg]
      omega
    · have : n.tdiv 28 = n / 28 := Int.tdiv_eq_ediv_of_nonneg h
      omega)
  have HCL := Lib.hid (near_cell W (k % 4) (by omega))
  rw [← hEE] at HCL
  clear hbd hk hW hal hkb hEE
  go_enter Tryd.func24, Tryd.ntmps24
  go_upto_region 1 with (fail)
  rw [← HW.out]
  go_wp2_with fail
  refine HA.out.mono ?_
  rintro e w1 ⟨rfl, rfl⟩
  have hcell := HCL.out
  go_wp2_with fail
  obtain ⟨W2, hW2⟩ : ∃ W2, W2 = W.alloc (.cells #[.int .i64 16384, .int .i64 16383, .int .i64 8192, .int .i64 63] 3) := ⟨_, rfl⟩
  rw [← hW2]
  have hal2 : Below W.heap.size W W2 := by rw [hW2]; exact (Below.refl _ _).alloc (Nat.le_refl _) _
  have HB2 := Lib.hid (HB.out.trans (hal2.mono HB.out.size))
  have HKB2 := Lib.hid (HKB.out.below hal2)
  clear hW2 hal2 HCL hcell
  refine (power_any E W2 (by omega)).mono ?_
  rintro e w3 h3
  obtain ⟨v3, rfl, r3, b3⟩ := h3
  obtain ⟨d3, A3, n3, c3, rfl⟩ := r3.shape
  have HB3 := Lib.hid (HB2.out.trans (b3.mono HB2.out.size))
  have HKB3 := Lib.hid (HKB2.out.below b3)
  have HR3 := Lib.hid r3
  clear r3 b3 HB2 HKB2 HB HKB
  go_wp2_with fail
  refine (of_any ((k : Int) / 4 - 3) w3 (by omega) (by omega)).mono ?_
  rintro e w4 h4
  obtain ⟨v4, rfl, r4, b4⟩ := h4
  obtain ⟨d4, A4, n4, c4, rfl⟩ := r4.shape
  have HB4 := Lib.hid (HB3.out.trans (b4.mono HB3.out.size))
  have HKB4 := Lib.hid (HKB3.out.below b4)
  have HR34 := Lib.hid ((HR3.out.below b4).more b4.size)
  have HR4 := Lib.hid r4
  clear r4 b4 HB3 HKB3 HR3
  go_wp2_with fail
  refine (add_any _ _ _ _ w4 HR34.out HR4.out ((bits_pow E).mono (by omega)) ((Bits.i64 (by omega) (by omega)).mono (by omega))).mono ?_
  rintro e w5 h5
  obtain ⟨v5, rfl, r5, b5⟩ := h5
  obtain ⟨d5, A5, n5, c5, rfl⟩ := r5.shape
  obtain ⟨Z, hZ⟩ : ∃ Z, Z = 2 ^ E + ((k : Int) / 4 - 3) := ⟨_, rfl⟩
  rw [← hZ] at r5
  have HZ : Hid ((Z.natAbs : Int) ≤ 2 ^ E + 4) := by
    have := pow_pos' (show (0 : Int) < 2 by omega) E
    show (Z.natAbs : Int) ≤ 2 ^ E + 4
    rw [hZ]; generalize (2 : Int) ^ E = P at *; omega
  obtain ⟨W6, hW6⟩ : ∃ W6, W6 = w5.alloc (.cells #[.bool d5, .slice A5 n5 c5] 25) := ⟨_, rfl⟩
  obtain ⟨gx, hgx⟩ : ∃ gx, gx = w5.heap.size := ⟨_, rfl⟩
  have hal6 : Below w5.heap.size w5 W6 := by rw [hW6]; exact (Below.refl _ _).alloc (Nat.le_refl _) _
  have HX6 : Hid (Blk2 W6 gx 25 (.bool d5) (.slice A5 n5 c5)) := by rw [hW6, hgx]; exact Blk2.new _ _ _ _
  have HR6 := Lib.hid ((r5.below hal6).more hal6.size)
  have HKB6 := Lib.hid ((HKB4.out.below b5).below hal6)
  have HB6 := Lib.hid ((HB4.out.trans (b5.mono HB4.out.size)).trans (hal6.mono (Nat.le_trans HB4.out.size b5.size)))
  have hgl : w.heap.size < gx := by rw [hgx]; exact (HKB4.out.below b5).lt
  have HW6 := Lib.hid hW6
  have HGX := Lib.hid hgx
  have HAR := Lib.hid (around_any (n.tdiv 28) 2 W6 HNT.out.2 HNT.out.1 (by omega) (by omega))
  have har := aroundI_bd (n.tdiv 28) 2 (by omega)
  obtain ⟨r, hr⟩ : ∃ r, r = aroundI (n.tdiv 28) 2 := ⟨_, rfl⟩
  rw [← hr] at HAR har
  obtain ⟨hr0, hr1⟩ := har
  have hnt0 := HNT.out.1
  have hnt1 := HNT.out.2
  have hw28 : IntKind.i64.wrap (n.tdiv 28) = n.tdiv 28 := IntWalk.i64_in _ (by omega)
  have f0 := HKB6.out.f0
  have f1 := HKB6.out.f1
  have u0 := HKB6.out.c0
  have u1 := HKB6.out.c1
  have x0 := HX6.out.c0
  have x1 := HX6.out.c1
  clear r5 b5 hal6 hW6 hgx hZ hr HB4 HKB4 HR34 HR4
  go_upto_region 3 with (fail)
  rw [← HW6.out, ← HGX.out]
  go_wp2_with fail
  refine HAR.out.mono ?_
  rintro e w7 ⟨rfl, rfl⟩
  by_cases h1 : r = 1
  · have h1b : (r == 1) = true := by simp [h1]
    have HNG := Lib.hid (neg_any Z _ W6 HR6.out)
    clear HAR HA
    go_wp2_with fail
    refine HNG.out.mono ?_
    rintro e w8 h8
    obtain ⟨v8, rfl, r8, b8⟩ := h8
    obtain ⟨d8, A8, n8, c8, rfl⟩ := r8.shape
    have hk8 := HKB6.out.below b8
    have hb8 := HB6.out.trans (b8.mono HB6.out.size)
    have HF := Lib.hid (show NearPost (aroundI n 28) w (.returned (.agg #[.bool d8, .slice A8 n8 c8])) _ from ⟨-Z, by rw [HK.out, Int.toNat_natCast, ← HE.out, Int.natAbs_neg]; exact HZ.out, newN_ret r8 hk8 hb8 (Nat.le_refl _)⟩)
    have f0 := hk8.f0
    have f1 := hk8.f1
    have u0 := hk8.c0
    have u1 := hk8.c1
    clear r8 b8 hk8 hb8 x0 x1
    go_wp2_with fail
    exact bodyPost_ret (v := .agg #[.bool d8, .slice A8 n8 c8]) (by simp [results, Tryd.results24, go_sem, u0, u1]) rfl HF.out
  · have h1b : (r == 1) = false := by simpa using h1
    have HF := Lib.hid (show NearPost (aroundI n 28) w (.returned (.agg #[.bool d5, .slice A5 n5 c5])) _ from ⟨Z, by rw [HK.out, Int.toNat_natCast, ← HE.out]; exact HZ.out, newN_ret HR6.out HKB6.out HB6.out (Nat.le_refl _)⟩)
    clear HAR HA
    go_wp2_with fail
    exact bodyPost_ret (v := .agg #[.bool d5, .slice A5 n5 c5]) (by simp [results, Tryd.results24, go_sem, u0, u1]) rfl HF.out
end Go.Proofs.YtpilpceclmppgaaDoor
