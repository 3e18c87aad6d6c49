/- The reference of rand: Digit, digits. -/
import Derived.Test.YtgfhniiidejmoaaDoorA41
import Derived.Test.YtgfhniiidejmoaaDoorA33
import Derived.Test.YtgfhniiidejmoaaDoorA34
namespace Go.Proofs.YtgfhniiidejmoaaDoor
open Go.RowKit
set_option linter.unusedVariables false

theorem bits_u64 {x : Int} (h0 : 0 ≤ x) (h1 : x ≤ 18446744073709551615) : Bits 64 x := by
  have : (2 : Int) ^ 64 = 18446744073709551616 := by decide +kernel
  unfold Bits; omega
theorem bits_32 : Bits 64 (4294967296 : Int) := bits_u64 (by omega) (by omega)
theorem numW_bits (lab : List Int) (seed : Int) (a k : Nat) : Bits (64 * k) (numW (strW lab seed) a k) := by
  have h := numW_bd (strW lab seed) (strW_bd lab seed) k a
  unfold Bits; omega
theorem two_64 : (2 : Int) ^ 64 = 18446744073709551616 := by decide +kernel

set_option maxRecDepth 100000 in
set_option maxHeartbeats 4000000 in
theorem rdigit_any (x : Int) (w : World) (h0 : 0 ≤ x) (h1 : x ≤ 18446744073709551615) :
    Calls Tryd.prog 87 #[.int .u64 x] w (NewN x w) := by
  obtain ⟨hh, hhi⟩ : ∃ h, x / 4294967296 = h := ⟨_, rfl⟩
  obtain ⟨ll, hlo⟩ : ∃ h, x % 4294967296 = h := ⟨_, rfl⟩
  have hb0 : 0 ≤ hh ∧ hh ≤ 4294967295 := by omega
  have hb1 : 0 ≤ ll ∧ ll ≤ 4294967295 := by omega
  have HE := Lib.hid (show hh * 4294967296 + ll = x by omega)
  have hrem : x.tmod 4294967296 = ll := by rw [Int.tmod_eq_emod_of_nonneg h0, hlo]
  have hwl : IntKind.i64.wrap ll = ll := IntWalk.i64_in _ (by omega)
  have HB0 := Lib.hid hb0
  have HB1 := Lib.hid hb1
  have HHI := Lib.hid hhi
  clear hhi hlo hb0 hb1
  have HB := Lib.hid (Below.refl w.heap.size w)
  go_enter Tryd.func87, Tryd.ntmps87
  have h := Blk2.new w 69 (.bool false) (.slice none 0 0)
  have b := al_below w (.cells #[.bool false, .slice none 0 0] 69)
  replace HB := Lib.hid (bstep HB.out b)
  clear b
  have R0 := Lib.hid (show Blk2 _ (w.heap.size) 69 (.bool false) (.slice none 0 0) from h)
  clear h
  go_wp2_with fail
  rw [HHI.out]
  refine (of_any hh _ (by have := HB0.out; omega) (by have := HB0.out; omega)).mono ?_
  rintro e w51 ⟨v, rfl, h, b⟩
  obtain ⟨d51, A51, n51, c51, rfl⟩ := h.shape'
  have z51 := b.size
  simp only [World.size_alloc] at z51
  replace z51 := Lib.hid z51
  replace HB := Lib.hid (bstep HB.out b)
  replace R0 := Lib.hid (R0.out.below b)
  have V51 := Lib.hid h
  clear h b
  have h := HoldN.new V51.out
  have b := al_below w51 (.cells #[.bool d51, .slice A51 n51 c51] 69)
  replace HB := Lib.hid (bstep HB.out b)
  replace R0 := Lib.hid (R0.out.below b)
  clear b
  have H51 := Lib.hid h
  clear h V51
  obtain ⟨W52, hW⟩ : ∃ W, W = (w51.alloc (.cells #[.bool d51, .slice A51 n51 c51] 69)) := ⟨_, rfl⟩
  have HW := Lib.hid hW
  rw [← hW] at HB
  rw [← hW] at R0
  rw [← hW] at H51
  clear hW
  go_wp2_with fail
  rw [← HW.out]
  clear HW
  have qH510 := H51.out.c0
  have qH511 := H51.out.c1
  have z51_ := z51.out
  go_region_held3 (fun w' => w'.cell? ⟨w51.heap.size, 0, none⟩ = some (.bool d51) ∧ w'.cell? ⟨w51.heap.size, 1, none⟩ = some (.slice A51 n51 c51))
    (exact ⟨by first | with_reducible assumption | (simp only [World.cell?_drew]; with_reducible assumption) | (try simp only [World.cell?_drew]); repeat' (first | with_reducible assumption | with_reducible refine cell_set2 ?_ (by omega) | with_reducible refine cell_set4 ?_ (by omega)), by first | with_reducible assumption | (simp only [World.cell?_drew]; with_reducible assumption) | (try simp only [World.cell?_drew]); repeat' (first | with_reducible assumption | with_reducible refine cell_set2 ?_ (by omega) | with_reducible refine cell_set4 ?_ (by omega))⟩)
    (first
      | (go_at_call 40
         with_reducible show Calls Tryd.prog 40 #[.int .i64 4294967296] _ _
         refine (of_any 4294967296 _ (by omega) (by omega)).mono ?_
         rintro e w53 ⟨v53, rfl, h53, b53⟩
         obtain ⟨d53, A53, n53, c53, rfl⟩ := h53.shape'
         have hb53 : Below W52.heap.size W52 w53 := bstep (by repeat' (first | with_reducible exact Below.refl _ _ | with_reducible assumption | with_reducible refine below_drew ?_)) b53
         have V53 := Lib.hid h53
         clear h53
         replace qH510 := cell_below (H51.out.c0) hb53
         replace qH511 := cell_below (H51.out.c1) hb53)
      | (go_at_call 82
         refine (mul_any hh 4294967296 _ _ _ (H51.out.2.step (by repeat' (first | with_reducible exact Below.refl _ _ | with_reducible assumption | with_reducible refine below_drew ?_))) (V53.out.step (by repeat' (first | with_reducible exact Below.refl _ _ | with_reducible assumption | with_reducible refine below_drew ?_))) ((bits_u64 HB0.out.1 (by have := HB0.out; omega)).mono (by omega)) (bits_32.mono (by omega))).mono ?_
         rintro e w54 ⟨v54, rfl, h54, b54⟩
         obtain ⟨d54, A54, n54, c54, rfl⟩ := h54.shape'
         have hb54 : Below W52.heap.size W52 w54 := bstep (by repeat' (first | with_reducible exact Below.refl _ _ | with_reducible assumption | with_reducible refine below_drew ?_)) b54
         replace V53 := Lib.hid (V53.out.step (by first | exact b54 | exact undrew b54 | exact undrew (undrew b54)))
         have V54 := Lib.hid h54
         clear h54
         replace qH510 := cell_below (H51.out.c0) hb54
         replace qH511 := cell_below (H51.out.c1) hb54)
      | (go_at_call 40
         with_reducible show Calls Tryd.prog 40 #[.int .i64 ll] _ _
         refine (of_any ll _ (by have := HB1.out; omega) (by have := HB1.out; omega)).mono ?_
         rintro e w55 ⟨v55, rfl, h55, b55⟩
         obtain ⟨d55, A55, n55, c55, rfl⟩ := h55.shape'
         have hb55 : Below W52.heap.size W52 w55 := bstep (by repeat' (first | with_reducible exact Below.refl _ _ | with_reducible assumption | with_reducible refine below_drew ?_)) b55
         replace V53 := Lib.hid (V53.out.step (by first | exact b55 | exact undrew b55 | exact undrew (undrew b55)))
         replace V54 := Lib.hid (V54.out.step (by first | exact b55 | exact undrew b55 | exact undrew (undrew b55)))
         have V55 := Lib.hid h55
         clear h55
         replace qH510 := cell_below (H51.out.c0) hb55
         replace qH511 := cell_below (H51.out.c1) hb55)
      | (go_at_call 84
         refine (add_any (hh * 4294967296) ll _ _ _ (V54.out.step (by repeat' (first | with_reducible exact Below.refl _ _ | with_reducible assumption | with_reducible refine below_drew ?_))) (V55.out.step (by repeat' (first | with_reducible exact Below.refl _ _ | with_reducible assumption | with_reducible refine below_drew ?_))) ((bits_u64 (by have := HB0.out; omega) (by have := HB0.out; omega)).mono (by omega)) ((bits_u64 HB1.out.1 (by have := HB1.out; omega)).mono (by omega))).mono ?_
         rintro e w56 ⟨v56, rfl, h56, b56⟩
         obtain ⟨d56, A56, n56, c56, rfl⟩ := h56.shape'
         have hb56 : Below W52.heap.size W52 w56 := bstep (by repeat' (first | with_reducible exact Below.refl _ _ | with_reducible assumption | with_reducible refine below_drew ?_)) b56
         replace V53 := Lib.hid (V53.out.step (by first | exact b56 | exact undrew b56 | exact undrew (undrew b56)))
         replace V54 := Lib.hid (V54.out.step (by first | exact b56 | exact undrew b56 | exact undrew (undrew b56)))
         replace V55 := Lib.hid (V55.out.step (by first | exact b56 | exact undrew b56 | exact undrew (undrew b56)))
         have V56 := Lib.hid h56
         clear h56
         replace qH510 := cell_below (H51.out.c0) hb56
         replace qH511 := cell_below (H51.out.c1) hb56
         replace HB := Lib.hid (bstep HB.out hb56)
         replace R0 := Lib.hid (R0.out.below hb56)
         replace H51 := Lib.hid (H51.out.below hb56)
         clear b53 hb53 b54 hb54 b55 hb55 b56 hb56
         have gR00 := R0.out.c0
         have yR00 := R0.out.f0
         have gR01 := R0.out.c1
         have yR01 := R0.out.f1
         have HF := Lib.hid (retN (V56.out) R0.out HB.out (by omega))
         rw [HE.out] at HF))
  clear z51_
  clear qH510 qH511
  clear HB R0 H51 V53 V54 V55 V56
  go_wp2_with fail
  exact bodyPost_ret (v := .agg #[.bool d56, .slice A56 n56 c56]) (by simp [results, Tryd.results87, go_sem, gR00, gR01]) rfl ⟨_, rfl, HF.out.1, HF.out.2.1⟩

set_option maxRecDepth 100000 in
set_option maxHeartbeats 8000000 in
theorem rdigits_any (seed : Int) (a k : Nat) (s : ByteArray) (w : World) (hs : s.size ≤ 1000000) (ha : a ≤ 2000000000) (hk : k ≤ 255) :
    Calls Tryd.prog 67 #[.int .u64 seed, .string s, .int .i64 a, .int .i64 k] w (NewN (numW (strW (sB s) seed) a k) w) := by
  have HB := Lib.hid (Below.refl w.heap.size w)
  go_enter Tryd.func67, Tryd.ntmps67
  have h := Blk2.new w 69 (.bool false) (.slice none 0 0)
  have b := al_below w (.cells #[.bool false, .slice none 0 0] 69)
  replace HB := Lib.hid (bstep HB.out b)
  clear b
  have R0 := Lib.hid (show Blk2 _ (w.heap.size) 69 (.bool false) (.slice none 0 0) from h)
  clear h
  go_wp2_with fail
  have h := HoldN.new (RepN.nil (w.alloc (.cells #[.bool false, .slice none 0 0] 69)) _)
  simp only [World.size_alloc] at h
  have b := al_below (w.alloc (.cells #[.bool false, .slice none 0 0] 69)) (.cells #[.bool false, .slice none 0 0] 69)
  replace HB := Lib.hid (bstep HB.out b)
  replace R0 := Lib.hid (R0.out.below b)
  clear b
  have HX := Lib.hid h
  clear h
  have hk63 : (k : Int) ≤ 255 := by omega
  have HZ := Lib.hid (show (0 : Int) = numW (strW (sB s) seed) (a + k) (k - k) from by rw [Nat.sub_self]; rfl)
  go_loopw [10] (fun iv wr => ∃ (j : Nat) (z : Int) (d0 : Bool) (A0 : Option Addr) (n0 c0 : Nat), j ≤ k ∧ iv = .int .i64 ((j : Int) - 1) ∧ Hid (HoldN wr (w.heap.size + 1) z d0 A0 n0 c0) ∧ Hid (z = numW (strW (sB s) seed) (a + j) (k - j)) ∧ Hid (Blk2 wr w.heap.size 69 (.bool false) (.slice none 0 0)) ∧ Hid (Below w.heap.size w wr)) (fun iv _ => (intOf iv + 1).toNat)
  case atStart => exact ⟨k, 0, _, _, _, _, by omega, rfl, HX, HZ, R0, HB⟩
  case round =>
    clear HB HX R0 HZ
    obtain ⟨j, z, d0, A0, n0, c0, hj, rfl, HW, HZ, R0, HB⟩ := hrel
    by_cases hlt : 0 < j
    · obtain ⟨m, rfl⟩ : ∃ m, j = m + 1 := ⟨j - 1, by omega⟩
      rw [show ((m + 1 : Nat) : Int) - 1 = (m : Int) by omega]
      have hmi : (0 : Int) ≤ (m : Int) := by omega
      have hm2 : (m : Int) ≤ 255 := by omega
      have HWD := Lib.hid (show z * 2 ^ 64 + wordI (sB s) seed ((a : Int) + (m : Int)) = numW (strW (sB s) seed) (a + m) (k - m) from by
        rw [HZ.out, numW_step _ (a + m) (k - m) (by omega), two_64, show a + m + 1 = a + (m + 1) from rfl, show k - m - 1 = k - (m + 1) by omega]; rfl)
      have hzz := HZ.out
      have hzb := numW_bits (sB s) seed (a + (m + 1)) (k - (m + 1))
      rw [← hzz] at hzb
      have HZB := Lib.hid (hzb.mono (show 64 * (k - (m + 1)) ≤ 16320 by omega))
      have HMK := Lib.hid (show m + 1 ≤ k from hj)
      have hww := wordI_u64 (sB s) seed ((a : Int) + (m : Int))
      have HWW := Lib.hid hww
      have hwl := HB.out.size
      have HNE := Lib.hid (show w.heap.size ≠ w.heap.size + 1 by omega)
      have hsum : IntKind.i64.wrap ((a : Int) + (m : Int)) = (a : Int) + (m : Int) := IntWalk.i64_in _ (by omega)
      clear hzz hzb HZ hww hj hlt
      go_wp2_with fail
      have qHW0 := HW.out.c0
      have qHW1 := HW.out.c1
      go_region_with (first
          | (go_at_call 64
             refine (power_any 64 _ (by omega)).mono ?_
             rintro e w51 ⟨v51, rfl, h51, b51⟩
             obtain ⟨d51, A51, n51, c51, rfl⟩ := h51.shape'
             have hb51 : Below wr.heap.size wr w51 := bstep (by repeat' (first | with_reducible exact Below.refl _ _ | with_reducible assumption | with_reducible refine below_drew ?_)) b51
             have V51 := Lib.hid h51
             clear h51
             replace qHW0 := cell_below (HW.out.c0) hb51
             replace qHW1 := cell_below (HW.out.c1) hb51)
          | (go_at_call 82
             refine (mul_any z (2 ^ 64) _ _ _ (HW.out.2.step (by repeat' (first | with_reducible exact Below.refl _ _ | with_reducible assumption | with_reducible refine below_drew ?_))) (V51.out.step (by repeat' (first | with_reducible exact Below.refl _ _ | with_reducible assumption | with_reducible refine below_drew ?_))) (HZB.out.mono (by omega)) ((bits_pow 64).mono (by omega))).mono ?_
             rintro e w52 ⟨v52, rfl, h52, b52⟩
             obtain ⟨d52, A52, n52, c52, rfl⟩ := h52.shape'
             have hb52 : Below wr.heap.size wr w52 := bstep (by repeat' (first | with_reducible exact Below.refl _ _ | with_reducible assumption | with_reducible refine below_drew ?_)) b52
             replace V51 := Lib.hid (V51.out.step (by first | exact b52 | exact undrew b52 | exact undrew (undrew b52)))
             have V52 := Lib.hid h52
             clear h52
             replace qHW0 := cell_below (HW.out.c0) hb52
             replace qHW1 := cell_below (HW.out.c1) hb52)
          | (go_at_call 12
             refine (rword_any seed ((a : Int) + (m : Int)) s _ hs).mono ?_
             rintro e w53 ⟨rfl, b53⟩
             have hb53 : Below wr.heap.size wr w53 := bstep (by repeat' (first | with_reducible exact Below.refl _ _ | with_reducible assumption | with_reducible refine below_drew ?_)) b53
             replace V51 := Lib.hid (V51.out.step (by first | exact b53 | exact undrew b53 | exact undrew (undrew b53)))
             replace V52 := Lib.hid (V52.out.step (by first | exact b53 | exact undrew b53 | exact undrew (undrew b53)))
             replace qHW0 := cell_below (HW.out.c0) hb53
             replace qHW1 := cell_below (HW.out.c1) hb53)
          | (go_at_call 87
             refine (rdigit_any (wordI (sB s) seed ((a : Int) + (m : Int))) _ HWW.out.1 HWW.out.2).mono ?_
             rintro e w54 ⟨v54, rfl, h54, b54⟩
             obtain ⟨d54, A54, n54, c54, rfl⟩ := h54.shape'
             have hb54 : Below wr.heap.size wr w54 := bstep (by repeat' (first | with_reducible exact Below.refl _ _ | with_reducible assumption | with_reducible refine below_drew ?_)) b54
             replace V51 := Lib.hid (V51.out.step (by first | exact b54 | exact undrew b54 | exact undrew (undrew b54)))
             replace V52 := Lib.hid (V52.out.step (by first | exact b54 | exact undrew b54 | exact undrew (undrew b54)))
             have V54 := Lib.hid h54
             clear h54
             replace qHW0 := cell_below (HW.out.c0) hb54
             replace qHW1 := cell_below (HW.out.c1) hb54)
          | (go_at_call 84
             refine (add_any (z * 2 ^ 64) (wordI (sB s) seed ((a : Int) + (m : Int))) _ _ _ (V52.out.step (by repeat' (first | with_reducible exact Below.refl _ _ | with_reducible assumption | with_reducible refine below_drew ?_))) (V54.out.step (by repeat' (first | with_reducible exact Below.refl _ _ | with_reducible assumption | with_reducible refine below_drew ?_))) ((Bits.mul HZB.out (bits_pow 64)).mono (by omega)) ((bits_u64 HWW.out.1 HWW.out.2).mono (by omega))).mono ?_
             rintro e w55 ⟨v55, rfl, h55, b55⟩
             obtain ⟨d55, A55, n55, c55, rfl⟩ := h55.shape'
             have hb55 : Below wr.heap.size wr w55 := bstep (by repeat' (first | with_reducible exact Below.refl _ _ | with_reducible assumption | with_reducible refine below_drew ?_)) b55
             replace V51 := Lib.hid (V51.out.step (by first | exact b55 | exact undrew b55 | exact undrew (undrew b55)))
             replace V52 := Lib.hid (V52.out.step (by first | exact b55 | exact undrew b55 | exact undrew (undrew b55)))
             replace V54 := Lib.hid (V54.out.step (by first | exact b55 | exact undrew b55 | exact undrew (undrew b55)))
             have V55 := Lib.hid h55
             clear h55
             replace qHW0 := cell_below (HW.out.c0) hb55
             replace qHW1 := cell_below (HW.out.c1) hb55
             replace HW := Lib.hid (HW.out.below hb55)
             replace R0 := Lib.hid (R0.out.below hb55)
             replace HB := Lib.hid (bstep HB.out hb55)
             clear b51 hb51 b52 hb52 b53 hb53 b54 hb54 b55 hb55
             have hne1 := HNE.out
             have sHWa0 := HW.out.c0
             have tHWa0 := HW.out.1.f0
             have sHWa1 := HW.out.c1
             have tHWa1 := HW.out.1.f1
             have BK := Lib.hid HW.out.1
             have NB := Lib.hid (HoldN.made V55.out HW.out.1)
             replace R0 := Lib.hid (R0.out.off (u := .bool d55) (u' := .slice A55 n55 c55) (g := w.heap.size + 1) (by omega))
             replace HB := Lib.hid (below_off (u := .bool d55) (u' := .slice A55 n55 c55) (g := w.heap.size + 1) HB.out (by omega))
             replace V51 := Lib.hid (V51.out.st (u := .bool d55) (u' := .slice A55 n55 c55) BK.out)
             replace V52 := Lib.hid (V52.out.st (u := .bool d55) (u' := .slice A55 n55 c55) BK.out)
             replace V54 := Lib.hid (V54.out.st (u := .bool d55) (u' := .slice A55 n55 c55) BK.out)
             replace V55 := Lib.hid (V55.out.st (u := .bool d55) (u' := .slice A55 n55 c55) BK.out)
             clear HW BK
             have HW := NB
             clear NB
             clear hne1))
      all_goals
        try clear HZB
        try clear HWW
        try clear HNE
        try clear hwl
        try clear qHW0
        try clear qHW1
        clear V51
        clear V52
        clear V54
        clear V55
        go_wp2_with fail
        go_roundw
        case measure => simp [intOf]
        case rel => exact ⟨m, _, _, _, _, _, by have := HMK.out; omega, rfl, HW, HWD, R0, HB⟩
    · obtain rfl : j = 0 := by omega
      have hzw := HZ.out
      rw [Nat.add_zero, Nat.sub_zero] at hzw
      rw [hzw] at HW
      clear HZ hzw
      have gR00 := R0.out.c0
      have yR00 := R0.out.f0
      have gR01 := R0.out.c1
      have yR01 := R0.out.f1
      have gHW0 := HW.out.c0
      have gHW1 := HW.out.c1
      have HF := Lib.hid (retN (HW.out.2) R0.out HB.out (by omega))
      clear HW R0 HB
      go_wp2_with fail
      exact bodyPost_ret (v := .agg #[.bool d0, .slice A0 n0 c0]) (by simp [results, Tryd.results67, go_sem, gR00, gR01]) rfl ⟨_, rfl, HF.out.1, HF.out.2.1⟩
end Go.Proofs.YtgfhniiidejmoaaDoor
