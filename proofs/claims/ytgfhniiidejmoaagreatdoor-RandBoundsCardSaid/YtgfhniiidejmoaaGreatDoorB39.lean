/- rand.number. -/
import Derived.Test.YtgfhniiidejmoaaGreatDoorB38
namespace Go.Proofs.YtgfhniiidejmoaaGreatDoor
open Go.RowKit
set_option linter.unusedVariables false

/-- the words of a stream by their numbers -/
def strW (lab : List Int) (seed : Int) (j : Nat) : Int := wordI lab seed j
theorem strW_bd (lab : List Int) (seed : Int) (j : Nat) : 0 ≤ strW lab seed j ∧ strW lab seed j ≤ 18446744073709551615 := wordI_u64 _ _ _
theorem pow_255 : (2 : Int) ^ (64 * 255) * 18446744073709551616 = lim := by decide +kernel
theorem numW_lim (lab : List Int) (seed : Int) (a k : Nat) (hk : k ≤ 254) : numW (strW lab seed) a k * 18446744073709551616 + 18446744073709551615 < lim := by
  have h := (numW_bd (strW lab seed) (strW_bd lab seed) k a).2
  have h1 : (2 : Int) ^ (64 * k) ≤ 2 ^ (64 * 254) := pow_mono' (by omega) (by omega)
  have h2 := pow_255
  have h3 : (2 : Int) ^ (64 * 254) + 1 ≤ 2 ^ (64 * 255) := by decide +kernel
  have h4 := Int.mul_le_mul_of_nonneg_right (show numW (strW lab seed) a k ≤ 2 ^ (64 * 255) - 2 by omega) (show (0 : Int) ≤ 18446744073709551616 by omega)
  rw [Int.sub_mul, h2] at h4
  omega
theorem numW_in (lab : List Int) (seed : Int) (a k : Nat) (hk : k ≤ 255) : 0 ≤ numW (strW lab seed) a k ∧ ((numW (strW lab seed) a k).natAbs : Int) < lim := by
  have h := numW_bd (strW lab seed) (strW_bd lab seed) k a
  have h1 : (2 : Int) ^ (64 * k) ≤ 2 ^ (64 * 255) := pow_mono' (by omega) (by omega)
  have h2 : (2 : Int) ^ (64 * 255) < lim := by decide +kernel
  exact ⟨h.1, by omega⟩
theorem numW_wd (lab : List Int) (seed : Int) (a k j : Nat) (hj : j < k) (hk : k ≤ 255) : wdI (numW (strW lab seed) (a + (j + 1)) (k - (j + 1))) (strW lab seed (a + j)) = numW (strW lab seed) (a + j) (k - j) := by
  have h1 := numW_lim lab seed (a + (j + 1)) (k - (j + 1)) (by omega)
  have h2 := strW_bd lab seed (a + j)
  rw [wdI_eq _ _ (numW_in lab seed _ _ (by omega)).1 h2.1 h2.2 (by omega), numW_step _ (a + j) (k - j) (by omega), show a + j + 1 = a + (j + 1) from rfl, show k - j - 1 = k - (j + 1) by omega]
set_option maxRecDepth 100000 in
set_option maxHeartbeats 4000000 in
theorem number_strm (seed : Int) (a k : Nat) (s : ByteArray) (w : World) (hs : s.size ≤ 1000000) (ha : a ≤ 2000000000) (hk : k ≤ 255) :
    Calls Tryz.prog 60 #[.int .u64 seed, .string s, .int .i64 a, .int .i64 k] w (NewI (numW (strW (sB s) seed) a k) w) := by
  have HB := Lib.hid (Below.refl w.heap.size w)
  go_enter Tryz.func60, Tryz.ntmps60
  have h := Blk2.new w 36 (.bool false) (.slice none 0 0)
  have b := al_below w (.cells #[.bool false, .slice none 0 0] 36)
  replace HB := Lib.hid (bstep HB.out b)
  clear b
  have R0 := Lib.hid (show Blk2 _ (w.heap.size) 36 (.bool false) (.slice none 0 0) from h)
  clear h
  go_wp2_with fail
  have h := HoldI.new (RepI.zero (w.alloc (.cells #[.bool false, .slice none 0 0] 36)) _)
  simp only [World.size_alloc] at h
  have b := al_below (w.alloc (.cells #[.bool false, .slice none 0 0] 36)) (.cells #[.bool false, .slice none 0 0] 36)
  replace HB := Lib.hid (bstep HB.out b)
  replace R0 := Lib.hid (R0.out.below b)
  clear b
  have HX := Lib.hid h
  clear h
  have hk63 : (k : Int) ≤ 255 := by omega
  have HZ := Lib.hid (show (0 : Int) = numW (strW (sB s) seed) (a + k) (k - k) from by rw [Nat.sub_self]; rfl)
  go_loopw [10] (fun iv wr => ∃ (j : Nat) (z : Int) (d0 : Bool) (A0 : Option Addr) (n0 c0 : Nat), j ≤ k ∧ iv = .int .i64 ((j : Int) - 1) ∧ Hid (HoldI wr (w.heap.size + 1) z d0 A0 n0 c0) ∧ Hid (z = numW (strW (sB s) seed) (a + j) (k - j)) ∧ Hid (Blk2 wr w.heap.size 36 (.bool false) (.slice none 0 0)) ∧ Hid (Below w.heap.size w wr)) (fun iv _ => (intOf iv + 1).toNat)
  case atStart => exact ⟨k, 0, _, _, _, _, by omega, rfl, HX, HZ, R0, HB⟩
  case round =>
    clear HB HX R0 HZ
    obtain ⟨j, z, d0, A0, n0, c0, hj, rfl, HW, HZ, R0, HB⟩ := hrel
    by_cases hlt : 0 < j
    · obtain ⟨m, rfl⟩ : ∃ m, j = m + 1 := ⟨j - 1, by omega⟩
      rw [show ((m + 1 : Nat) : Int) - 1 = (m : Int) by omega]
      have hmi : (0 : Int) ≤ (m : Int) := by omega
      have hm2 : (m : Int) ≤ 255 := by omega
      have HWD := Lib.hid (show wdI z (wordI (sB s) seed ((a : Int) + (m : Int))) = numW (strW (sB s) seed) (a + m) (k - m) from by rw [HZ.out]; exact numW_wd (sB s) seed a k m (by omega) hk)
      have hzz := HZ.out
      have hzb := numW_in (sB s) seed (a + (m + 1)) (k - (m + 1)) (by omega)
      rw [← hzz] at hzb
      have HZB := Lib.hid hzb
      have HMK := Lib.hid (show m + 1 ≤ k from hj)
      have hww := wordI_u64 (sB s) seed ((a : Int) + (m : Int))
      have HWW := Lib.hid hww
      have hwl := HB.out.size
      have HNE := Lib.hid (show w.heap.size ≠ w.heap.size + 1 by omega)
      have hsum : IntKind.i64.wrap ((a : Int) + (m : Int)) = (a : Int) + (m : Int) := IntWalk.i64_in _ (by omega)
      clear hzz hzb HZ hww hj hlt
      go_wp2_with fail
      have qHW0 := HW.out.c0
      have qHW1 := HW.out.c1
      go_region_with (first
          | (go_at_call 84
             refine (sword_any seed ((a : Int) + (m : Int)) s _ hs).mono ?_
             rintro e w51 ⟨rfl, b51⟩
             have hb51 : Below wr.heap.size wr w51 := bstep (by repeat' (first | with_reducible exact Below.refl _ _ | with_reducible assumption | with_reducible refine below_drew ?_)) b51
             replace qHW0 := cell_below (HW.out.c0) hb51
             replace qHW1 := cell_below (HW.out.c1) hb51)
          | (go_at_call 52
             refine (withDigit_any z (wordI (sB s) seed ((a : Int) + (m : Int))) _ _ (HW.out.2.step (by repeat' (first | with_reducible exact Below.refl _ _ | with_reducible assumption | with_reducible refine below_drew ?_))) HZB.out.1 HZB.out.2 HWW.out.1 HWW.out.2).mono ?_
             rintro e w52 ⟨v52, rfl, h52, b52⟩
             obtain ⟨d52, A52, n52, c52, rfl⟩ := h52.shape
             have hb52 : Below wr.heap.size wr w52 := bstep (by repeat' (first | with_reducible exact Below.refl _ _ | with_reducible assumption | with_reducible refine below_drew ?_)) b52
             have V52 := Lib.hid h52
             clear h52
             replace qHW0 := cell_below (HW.out.c0) hb52
             replace qHW1 := cell_below (HW.out.c1) hb52
             replace HW := Lib.hid (HW.out.below hb52)
             replace R0 := Lib.hid (R0.out.below hb52)
             replace HB := Lib.hid (bstep HB.out hb52)
             clear b51 hb51 b52 hb52
             have hne1 := HNE.out
             have sHWa0 := HW.out.c0
             have tHWa0 := HW.out.1.f0
             have sHWa1 := HW.out.c1
             have tHWa1 := HW.out.1.f1
             have BK := Lib.hid HW.out.1
             have NB := Lib.hid (HoldI.made V52.out HW.out.1)
             replace R0 := Lib.hid (R0.out.off (u := .bool d52) (u' := .slice A52 n52 c52) (g := w.heap.size + 1) (by omega))
             replace HB := Lib.hid (below_off (u := .bool d52) (u' := .slice A52 n52 c52) (g := w.heap.size + 1) HB.out (by omega))
             replace V52 := Lib.hid (V52.out.st (u := .bool d52) (u' := .slice A52 n52 c52) BK.out)
             clear HW BK
             have HW := NB
             clear NB
             clear hne1))
      all_goals
        try clear HZB
        try clear HWW
        try clear HNE
        try clear hwl
        try clear qHW0
        try clear qHW1
        clear V52
        go_wp2_with fail
        go_roundw
        case measure => simp [intOf]
        case rel => exact ⟨m, _, _, _, _, _, by have := HMK.out; omega, rfl, HW, HWD, R0, HB⟩
    · obtain rfl : j = 0 := by omega
      have hzw := HZ.out
      rw [Nat.add_zero, Nat.sub_zero] at hzw
      rw [hzw] at HW
      clear HZ hzw
      have gR00 := R0.out.c0
      have yR00 := R0.out.f0
      have gR01 := R0.out.c1
      have yR01 := R0.out.f1
      have gHW0 := HW.out.c0
      have gHW1 := HW.out.c1
      have HF := Lib.hid (retI (HW.out.2) R0.out HB.out (by omega))
      clear HW R0 HB
      go_wp2_with fail
      exact bodyPost_ret (v := .agg #[.bool d0, .slice A0 n0 c0]) (by simp [results, Tryz.results60, go_sem, gR00, gR01]) rfl ⟨_, rfl, HF.out.1, HF.out.2.1⟩
end Go.Proofs.YtgfhniiidejmoaaGreatDoor
