/- The reference of rand: big. · The reference of rand: Below, Pick. · Layer 5's laws: RandBelow. -/
import Derived.Test.YtgfhniiidejmoaaDoorA43
import Derived.Test.YtgfhniiidejmoaaDoorA47
import Derived.Test.YtgfhniiidejmoaaDoorA11
import Derived.Test.YtgfhniiidejmoaaDoorA34
import Derived.Test.YtgfhniiidejmoaaDoorA48
namespace Go.Proofs.YtgfhniiidejmoaaDoor
open Go.RowKit
set_option linter.unusedVariables false

/-- an integer of the reference and an index -/
def NumN (z y : Int) (w : World) (e : Ending) (w' : World) : Prop := ∃ v, e = .returned (.tuple #[v, .int .i64 y]) ∧ RepN w' w'.heap.size z v ∧ Below w.heap.size w w'
theorem power_p64 (k : Nat) (w : World) (hk : k ≤ 255) : Calls Tryd.prog 64 #[.int .i64 (64 * (k : Int))] w (NewN (p64 k) w) := by
  have h := power_any (64 * k) w (by omega)
  rwa [show ((64 * k : Nat) : Int) = 64 * (k : Int) from by omega] at h
theorem p64_bits {k : Nat} (hk : k ≤ 255) : Bits 16321 (p64 k) := by
  have h := (bits_pow (64 * k))
  exact h.mono (by omega)
theorem strN_bits (lab : List Int) (seed : Int) (a k j : Nat) (hk : k ≤ 255) : Bits 16320 (strN lab seed a k j) := (numW_bits lab seed _ k).mono (by omega)
theorem mod_bits {x n : Int} {b : Nat} (hx : 0 ≤ x) (hn : 0 < n) (h : Bits b x) : Bits b (x % n) := by
  have h1 := emod_le' x n hx hn
  have h2 := Int.emod_nonneg x (show n ≠ 0 by omega)
  unfold Bits at *; omega
theorem sub_bits {x n : Int} {b : Nat} (hx : 0 ≤ x) (hn : 0 < n) (h : Bits b x) : Bits b (x - x % n) := by
  have h1 := emod_le' x n hx hn
  have h2 := Int.emod_nonneg x (show n ≠ 0 by omega)
  unfold Bits at *; omega
/-- does the j-th number count? -/
def fitN (lab : List Int) (seed : Int) (a : Nat) (n : Int) (k j : Nat) : Bool := decide (strN lab seed a k j < p64 k - p64 k % n)
theorem bigJ_def (lab : List Int) (seed : Int) (a : Nat) (n : Int) (k : Nat) : bigJ lab seed a n k = firstJ (fitN lab seed a n k) := rfl

set_option maxRecDepth 100000 in
set_option maxHeartbeats 8000000 in
theorem rbig_any (seed n : Int) (a k : Nat) (s : ByteArray) (u : Value) (w : World) (hs : s.size ≤ 1000000) (ha : a ≤ 1000000000) (hk : k ≤ 255) (hx : RepN w w.heap.size n u) (hn : 0 < n) (bn : Bits 20000 n) :
    Calls Tryd.prog 39 #[.int .u64 seed, .string s, .int .i64 a, u, .int .i64 k] w (NumN (bigV (sB s) seed a n k) ((a + (bigJ (sB s) seed a n k + 1) * k : Nat) : Int) w) := by
  have HBN := Lib.hid bn
  have hk2 : (k : Int) ≤ 255 := by omega
  have HKK := Lib.hid hk
  have hn0 : n ≠ 0 := by omega
  have HN1 := Lib.hid hn
  clear bn hn hk
  have HB := Lib.hid (Below.refl w.heap.size w)
  obtain ⟨dx, Ax, nx, cx, rfl⟩ := hx.shape'
  have Vx := Lib.hid hx
  clear hx
  go_enter Tryd.func39, Tryd.ntmps39
  have h := HoldN.new Vx.out
  have b := al_below w (.cells #[.bool dx, .slice Ax nx cx] 69)
  replace HB := Lib.hid (bstep HB.out b)
  clear b
  have Hx := Lib.hid h
  clear h Vx
  have h := Blk2.new (w.alloc (.cells #[.bool dx, .slice Ax nx cx] 69)) 69 (.bool false) (.slice none 0 0)
  simp only [World.size_alloc] at h
  have b := al_below (w.alloc (.cells #[.bool dx, .slice Ax nx cx] 69)) (.cells #[.bool false, .slice none 0 0] 69)
  replace HB := Lib.hid (bstep HB.out b)
  replace Hx := Lib.hid (Hx.out.below b)
  clear b
  have R0 := Lib.hid (show Blk2 _ (w.heap.size + 1) 69 (.bool false) (.slice none 0 0) from h)
  clear h
  go_wp2_with fail
  refine (power_p64 k _ HKK.out).mono ?_
  rintro e w51 ⟨v, rfl, h, b⟩
  obtain ⟨d51, A51, n51, c51, rfl⟩ := h.shape'
  have z51 := b.size
  simp only [World.size_alloc] at z51
  replace z51 := Lib.hid z51
  replace HB := Lib.hid (bstep HB.out b)
  replace Hx := Lib.hid (Hx.out.below b)
  replace R0 := Lib.hid (R0.out.below b)
  have V51 := Lib.hid h
  clear h b
  have h := HoldN.new V51.out
  have b := al_below w51 (.cells #[.bool d51, .slice A51 n51 c51] 69)
  replace HB := Lib.hid (bstep HB.out b)
  replace Hx := Lib.hid (Hx.out.below b)
  replace R0 := Lib.hid (R0.out.below b)
  clear b
  have H51 := Lib.hid h
  clear h V51
  have HPB := Lib.hid (p64_bits HKK.out)
  have HPP := Lib.hid (show 0 ≤ p64 k from by have := p64_pos k; omega)
  have gH510 := H51.out.c0
  have gH511 := H51.out.c1
  have gHx0 := Hx.out.c0
  have gHx1 := Hx.out.c1
  go_wp2_with fail
  refine (div_any (p64 k) n _ _ _ H51.out.2 Hx.out.2 (HPB.out.mono (by omega)) (HBN.out.mono (by omega)) hn0).mono ?_
  rintro e w52 ⟨u, v, rfl, h, h', b⟩
  obtain ⟨d52, A52, n52, c52, rfl⟩ := h.shape'
  obtain ⟨d53, A53, n53, c53, rfl⟩ := h'.shape'
  clear gH510 gH511 gHx0 gHx1
  have z52 := b.size
  simp only [World.size_alloc] at z52
  replace z52 := Lib.hid z52
  replace HB := Lib.hid (bstep HB.out b)
  replace Hx := Lib.hid (Hx.out.below b)
  replace R0 := Lib.hid (R0.out.below b)
  replace H51 := Lib.hid (H51.out.below b)
  have V52 := Lib.hid h
  have V53 := Lib.hid h'
  clear h h' b
  have h := HoldN.new V52.out
  have b := al_below w52 (.cells #[.bool d52, .slice A52 n52 c52] 69)
  replace HB := Lib.hid (bstep HB.out b)
  replace Hx := Lib.hid (Hx.out.below b)
  replace R0 := Lib.hid (R0.out.below b)
  replace H51 := Lib.hid (H51.out.below b)
  replace V53 := Lib.hid (V53.out.step b)
  clear b
  have H52 := Lib.hid h
  clear h V52
  have h := HoldN.new V53.out
  simp only [World.size_alloc] at h
  have b := al_below (w52.alloc (.cells #[.bool d52, .slice A52 n52 c52] 69)) (.cells #[.bool d53, .slice A53 n53 c53] 69)
  replace HB := Lib.hid (bstep HB.out b)
  replace Hx := Lib.hid (Hx.out.below b)
  replace R0 := Lib.hid (R0.out.below b)
  replace H51 := Lib.hid (H51.out.below b)
  replace H52 := Lib.hid (H52.out.below b)
  clear b
  have H53 := Lib.hid h
  clear h V53
  have gH510 := H51.out.c0
  have gH511 := H51.out.c1
  have gH530 := H53.out.c0
  have gH531 := H53.out.c1
  go_wp2_with fail
  refine (sub_any (p64 k) (p64 k % n) _ _ _ H51.out.2 H53.out.2 (HPB.out.mono (by omega)) ((mod_bits HPP.out HN1.out HPB.out).mono (by omega))).mono ?_
  rintro e w54 ⟨v, rfl, h, b⟩
  obtain ⟨d54, A54, n54, c54, rfl⟩ := h.shape'
  clear gH510 gH511 gH530 gH531
  have z54 := b.size
  simp only [World.size_alloc] at z54
  replace z54 := Lib.hid z54
  replace HB := Lib.hid (bstep HB.out b)
  replace Hx := Lib.hid (Hx.out.below b)
  replace R0 := Lib.hid (R0.out.below b)
  replace H51 := Lib.hid (H51.out.below b)
  replace H52 := Lib.hid (H52.out.below b)
  replace H53 := Lib.hid (H53.out.below b)
  have V54 := Lib.hid h
  clear h b
  have h := HoldN.new V54.out
  have b := al_below w54 (.cells #[.bool d54, .slice A54 n54 c54] 69)
  replace HB := Lib.hid (bstep HB.out b)
  replace Hx := Lib.hid (Hx.out.below b)
  replace R0 := Lib.hid (R0.out.below b)
  replace H51 := Lib.hid (H51.out.below b)
  replace H52 := Lib.hid (H52.out.below b)
  replace H53 := Lib.hid (H53.out.below b)
  clear b
  have H54 := Lib.hid h
  clear h V54
  clear H51
  clear H53
  clear H52
  have HBB := Lib.hid ((sub_bits HPP.out HN1.out HPB.out).mono (show 16321 ≤ 20000 by omega))
  go_wp2_with fail
  refine (rdigits_any seed a k s _ hs (by omega) HKK.out).mono ?_
  rintro e w55 ⟨v, rfl, h, b⟩
  obtain ⟨d55, A55, n55, c55, rfl⟩ := h.shape'
  have z55 := b.size
  simp only [World.size_alloc] at z55
  replace z55 := Lib.hid z55
  replace HB := Lib.hid (bstep HB.out b)
  replace Hx := Lib.hid (Hx.out.below b)
  replace R0 := Lib.hid (R0.out.below b)
  replace H54 := Lib.hid (H54.out.below b)
  have V55 := Lib.hid h
  clear h b
  have h := HoldN.new V55.out
  have b := al_below w55 (.cells #[.bool d55, .slice A55 n55 c55] 69)
  replace HB := Lib.hid (bstep HB.out b)
  replace Hx := Lib.hid (Hx.out.below b)
  replace R0 := Lib.hid (R0.out.below b)
  replace H54 := Lib.hid (H54.out.below b)
  clear b
  have H55 := Lib.hid h
  clear h V55
  have z51_ := z51.out
  have z52_ := z52.out
  have z54_ := z54.out
  have z55_ := z55.out
  have HNX := Lib.hid (show w.heap.size ≠ w55.heap.size by omega)
  have HNB := Lib.hid (show w54.heap.size ≠ w55.heap.size by omega)
  have HNR := Lib.hid (show w.heap.size + 1 ≠ w55.heap.size by omega)
  have HLX := Lib.hid (show w.heap.size ≤ w55.heap.size by omega)
  clear z51_ z52_ z54_ z55_
  obtain ⟨P, hP⟩ : ∃ P, P = fitN (sB s) seed a n k := ⟨_, rfl⟩
  have HPF := Lib.hid hP
  have HZ := Lib.hid (show numW (strW (sB s) seed) a k = strN (sB s) seed a k 0 ∧ ∀ j, j < 0 → P j = false from ⟨by unfold strN; rw [Nat.zero_mul, Nat.add_zero], fun j hj => by omega⟩)
  clear hP
  go_wp2_with fail
  go_loopw [16, 18] (fun av tv wr => ∃ (m p : Nat) (z : Int) (d0 : Bool) (A0 : Option Addr) (n0 c0 : Nat), m ≤ 63 ∧ p = a + m * k ∧ av = .int .i64 p ∧ tv = .int .i64 ((m : Int) + 1) ∧ Hid (HoldN wr (w55.heap.size) z d0 A0 n0 c0) ∧ Hid (z = strN (sB s) seed a k m ∧ ∀ j, j < m → P j = false) ∧ Hid (HoldN wr (w54.heap.size) (p64 k - p64 k % n) d54 A54 n54 c54) ∧ Hid (HoldN wr w.heap.size n dx Ax nx cx) ∧ Hid (Blk2 wr (w.heap.size + 1) 69 (.bool false) (.slice none 0 0)) ∧ Hid (Below w.heap.size w wr)) (fun _ tv _ => (65 - intOf tv).toNat)
  case atStart => exact ⟨0, a, _, _, _, _, _, by omega, by omega, rfl, rfl, H55, HZ, H54, Hx, R0, HB⟩
  case round =>
    clear HB Hx R0 HZ H54 H55
    obtain ⟨m, p, z, d0, A0, n0, c0, hm, hp, rfl, rfl, HW, HZ, HQ, Hx, R0, HB⟩ := hrel
    have hmk : m * k ≤ 63 * 255 := Nat.mul_le_mul hm HKK.out
    have HPM := Lib.hid hp
    have hpb : p ≤ 1500000000 := by omega
    have HZB := Lib.hid (show Bits 16320 z from HZ.out.1 ▸ strN_bits (sB s) seed a k m HKK.out)
    clear hp hmk
    by_cases h63 : m = 63
    · have hlt2 : ¬ (m : Int) + 1 < 64 := by omega
      have HFI := Lib.hid (show IsFirst P m from ⟨by omega, .inl h63, HZ.out.2⟩)
      clear h63
      have HJ := Lib.hid (firstJ_of HFI.out)
      have gHW0 := HW.out.c0
      have gHW1 := HW.out.c1
      have gHx0 := Hx.out.c0
      have gHx1 := Hx.out.c1
      go_wp2_with fail
      refine (div_any z n _ _ _ HW.out.2 Hx.out.2 (HZB.out.mono (by omega)) (HBN.out.mono (by omega)) hn0).mono ?_
      rintro e w56 ⟨u, v, rfl, h, h', b⟩
      obtain ⟨d56, A56, n56, c56, rfl⟩ := h.shape'
      obtain ⟨d57, A57, n57, c57, rfl⟩ := h'.shape'
      clear gHW0 gHW1 gHx0 gHx1
      have z56 := b.size
      replace z56 := Lib.hid z56
      replace HW := Lib.hid (HW.out.below b)
      replace R0 := Lib.hid (R0.out.below b)
      replace Hx := Lib.hid (Hx.out.below b)
      replace HQ := Lib.hid (HQ.out.below b)
      replace HB := Lib.hid (bstep HB.out b)
      have V56 := Lib.hid h
      have V57 := Lib.hid h'
      clear h h' b
      have h := HoldN.new V56.out
      have b := al_below w56 (.cells #[.bool d56, .slice A56 n56 c56] 69)
      replace HW := Lib.hid (HW.out.below b)
      replace R0 := Lib.hid (R0.out.below b)
      replace Hx := Lib.hid (Hx.out.below b)
      replace HQ := Lib.hid (HQ.out.below b)
      replace HB := Lib.hid (bstep HB.out b)
      replace V57 := Lib.hid (V57.out.step b)
      clear b
      have H56 := Lib.hid h
      clear h V56
      have h := HoldN.new V57.out
      simp only [World.size_alloc] at h
      have b := al_below (w56.alloc (.cells #[.bool d56, .slice A56 n56 c56] 69)) (.cells #[.bool d57, .slice A57 n57 c57] 69)
      replace HW := Lib.hid (HW.out.below b)
      replace R0 := Lib.hid (R0.out.below b)
      replace Hx := Lib.hid (Hx.out.below b)
      replace HQ := Lib.hid (HQ.out.below b)
      replace HB := Lib.hid (bstep HB.out b)
      replace H56 := Lib.hid (H56.out.below b)
      clear b
      have H57 := Lib.hid h
      clear h V57
      have hwl := HB.out.size
      have gR00 := R0.out.c0
      have yR00 := R0.out.f0
      have gR01 := R0.out.c1
      have yR01 := R0.out.f1
      have gH570 := H57.out.c0
      have gH571 := H57.out.c1
      have HF := Lib.hid (retN (H57.out.2) R0.out HB.out (by omega))
      have hz2 : z = strN (sB s) seed a k m := HZ.out.1
      have hJe : bigJ (sB s) seed a n k = m := by rw [bigJ_def, ← HPF.out]; exact HJ.out
      have hy : (p : Int) + (k : Int) = ((a + (m + 1) * k : Nat) : Int) := by rw [HPM.out, Nat.add_mul, Nat.one_mul]; omega
      have HFE := Lib.hid (show NumN (bigV (sB s) seed a n k) ((a + (bigJ (sB s) seed a n k + 1) * k : Nat) : Int) w (.returned (.tuple #[.agg #[.bool d57, .slice A57 n57 c57], .int .i64 ((p : Int) + (k : Int))])) _ from ⟨_, by rw [hJe, ← hy], by unfold bigV; rw [hJe, ← hz2]; exact HF.out.1, HF.out.2.1⟩)
      clear hz2 hJe hy HFI HJ HPM HPF HZB HZ HNX HNB HNR HLX HBB HPB HPP HN1 HKK HBN HF hwl
      clear HW R0 Hx HQ HB H56 H57
      clear z56 z51 z52 z54 z55
      go_wp2_with fail
      exact bodyPost_ret (v := .tuple #[.agg #[.bool d57, .slice A57 n57 c57], .int .i64 ((p : Int) + (k : Int))]) (by simp [results, Tryd.results39, go_sem, gR00, gR01]) rfl HFE.out
    · have hlt2 : (m : Int) + 1 < 64 := by omega
      obtain ⟨r, hr, hd⟩ : ∃ r, cmpI z (p64 k - p64 k % n) = r ∧ decide (0 ≤ r) = !P m := ⟨_, rfl, by rw [HPF.out, fitN, HZ.out.1]; unfold cmpI; split <;> (try split) <;> simp <;> omega⟩
      have HR := Lib.hid hr
      have HDD := Lib.hid hd
      clear hr hd
      have gHW0 := HW.out.c0
      have gHW1 := HW.out.c1
      have gHQ0 := HQ.out.c0
      have gHQ1 := HQ.out.c1
      go_wp2_with fail
      refine (HR.out ▸ compare_any z (p64 k - p64 k % n) _ _ _ HW.out.2 HQ.out.2 (HZB.out.mono (by omega)) (HBB.out.mono (by omega))).mono ?_
      rintro e w56 ⟨rfl, b⟩
      clear gHW0 gHW1 gHQ0 gHQ1
      have z56 := b.size
      replace z56 := Lib.hid z56
      replace HW := Lib.hid (HW.out.below b)
      replace R0 := Lib.hid (R0.out.below b)
      replace Hx := Lib.hid (Hx.out.below b)
      replace HQ := Lib.hid (HQ.out.below b)
      replace HB := Lib.hid (bstep HB.out b)
      clear b
      cases hfm : P m
      · have hdt : decide (0 ≤ r) = true := by rw [HDD.out, hfm]; rfl
        have HZ2 := Lib.hid (show numW (strW (sB s) seed) (p + k) k = strN (sB s) seed a k (m + 1) ∧ ∀ j, j < m + 1 → P j = false from ⟨by unfold strN; rw [HPM.out, Nat.add_mul, Nat.one_mul, Nat.add_assoc], fun j hj => by
          by_cases e : j = m
          · rw [e]; exact hfm
          · exact HZ.out.2 j (by omega)⟩)
        clear hfm
        go_wp2_with fail
        rw [show (p : Int) + (k : Int) = ((p + k : Nat) : Int) from by omega]
        refine (rdigits_any seed (p + k) k s _ hs (by omega) HKK.out).mono ?_
        rintro e w57 ⟨v, rfl, h, b⟩
        obtain ⟨d57, A57, n57, c57, rfl⟩ := h.shape'
        have z57 := b.size
        replace z57 := Lib.hid z57
        replace HW := Lib.hid (HW.out.below b)
        replace R0 := Lib.hid (R0.out.below b)
        replace Hx := Lib.hid (Hx.out.below b)
        replace HQ := Lib.hid (HQ.out.below b)
        replace HB := Lib.hid (bstep HB.out b)
        have V57 := Lib.hid h
        clear h b
        have hne1 := HNX.out
        have hne2 := HNB.out
        have hne3 := HNR.out
        have hne4 := HLX.out
        have hwl2 := HB.out.size
        have sHWa0 := HW.out.c0
        have tHWa0 := HW.out.1.f0
        have sHWa1 := HW.out.c1
        have tHWa1 := HW.out.1.f1
        have BK := Lib.hid HW.out.1
        have NB := Lib.hid (HoldN.made V57.out HW.out.1)
        replace R0 := Lib.hid (R0.out.off (u := .bool d57) (u' := .slice A57 n57 c57) (g := w55.heap.size) (by omega))
        replace Hx := Lib.hid (Hx.out.off (u := .bool d57) (u' := .slice A57 n57 c57) BK.out (by omega))
        replace HQ := Lib.hid (HQ.out.off (u := .bool d57) (u' := .slice A57 n57 c57) BK.out (by omega))
        replace HB := Lib.hid (below_off (u := .bool d57) (u' := .slice A57 n57 c57) (g := w55.heap.size) HB.out (by omega))
        replace V57 := Lib.hid (V57.out.st (u := .bool d57) (u' := .slice A57 n57 c57) BK.out)
        clear HW BK
        have HW := NB
        clear NB
        clear hne1 hne2 hne3 hne4 hwl2 V57 HR HDD HZ HZB HNX HNB HNR HLX HBB HPB HPP HN1 HBN z56 z57
        go_wp2_with fail
        go_roundw
        case measure => simp [intOf]; omega
        case rel => exact ⟨m + 1, p + k, _, _, _, _, _, by omega, by rw [HPM.out, Nat.add_mul, Nat.one_mul, Nat.add_assoc], rfl, by go_num, HW, HZ2, HQ, Hx, R0, HB⟩
      · have hdt : decide (0 ≤ r) = false := by rw [HDD.out, hfm]; rfl
        have HFM := Lib.hid hfm
        clear hfm
        have HFI := Lib.hid (show IsFirst P m from ⟨by omega, .inr HFM.out, HZ.out.2⟩)
        clear HFM HR HDD h63
        have HJ := Lib.hid (firstJ_of HFI.out)
        have gHW0 := HW.out.c0
        have gHW1 := HW.out.c1
        have gHx0 := Hx.out.c0
        have gHx1 := Hx.out.c1
        go_wp2_with fail
        refine (div_any z n _ _ _ HW.out.2 Hx.out.2 (HZB.out.mono (by omega)) (HBN.out.mono (by omega)) hn0).mono ?_
        rintro e w57 ⟨u, v, rfl, h, h', b⟩
        obtain ⟨d57, A57, n57, c57, rfl⟩ := h.shape'
        obtain ⟨d58, A58, n58, c58, rfl⟩ := h'.shape'
        clear gHW0 gHW1 gHx0 gHx1
        have z57 := b.size
        replace z57 := Lib.hid z57
        replace HW := Lib.hid (HW.out.below b)
        replace R0 := Lib.hid (R0.out.below b)
        replace Hx := Lib.hid (Hx.out.below b)
        replace HQ := Lib.hid (HQ.out.below b)
        replace HB := Lib.hid (bstep HB.out b)
        have V57 := Lib.hid h
        have V58 := Lib.hid h'
        clear h h' b
        have h := HoldN.new V57.out
        have b := al_below w57 (.cells #[.bool d57, .slice A57 n57 c57] 69)
        replace HW := Lib.hid (HW.out.below b)
        replace R0 := Lib.hid (R0.out.below b)
        replace Hx := Lib.hid (Hx.out.below b)
        replace HQ := Lib.hid (HQ.out.below b)
        replace HB := Lib.hid (bstep HB.out b)
        replace V58 := Lib.hid (V58.out.step b)
        clear b
        have H57 := Lib.hid h
        clear h V57
        have h := HoldN.new V58.out
        simp only [World.size_alloc] at h
        have b := al_below (w57.alloc (.cells #[.bool d57, .slice A57 n57 c57] 69)) (.cells #[.bool d58, .slice A58 n58 c58] 69)
        replace HW := Lib.hid (HW.out.below b)
        replace R0 := Lib.hid (R0.out.below b)
        replace Hx := Lib.hid (Hx.out.below b)
        replace HQ := Lib.hid (HQ.out.below b)
        replace HB := Lib.hid (bstep HB.out b)
        replace H57 := Lib.hid (H57.out.below b)
        clear b
        have H58 := Lib.hid h
        clear h V58
        have hwl := HB.out.size
        have gR00 := R0.out.c0
        have yR00 := R0.out.f0
        have gR01 := R0.out.c1
        have yR01 := R0.out.f1
        have gH580 := H58.out.c0
        have gH581 := H58.out.c1
        have HF := Lib.hid (retN (H58.out.2) R0.out HB.out (by omega))
        have hz2 : z = strN (sB s) seed a k m := HZ.out.1
        have hJe : bigJ (sB s) seed a n k = m := by rw [bigJ_def, ← HPF.out]; exact HJ.out
        have hy : (p : Int) + (k : Int) = ((a + (m + 1) * k : Nat) : Int) := by rw [HPM.out, Nat.add_mul, Nat.one_mul]; omega
        have HFE := Lib.hid (show NumN (bigV (sB s) seed a n k) ((a + (bigJ (sB s) seed a n k + 1) * k : Nat) : Int) w (.returned (.tuple #[.agg #[.bool d58, .slice A58 n58 c58], .int .i64 ((p : Int) + (k : Int))])) _ from ⟨_, by rw [hJe, ← hy], by unfold bigV; rw [hJe, ← hz2]; exact HF.out.1, HF.out.2.1⟩)
        clear hz2 hJe hy HFI HJ HPM HPF HZB HZ HNX HNB HNR HLX HBB HPB HPP HN1 HKK HBN HF hwl
        clear HW R0 Hx HQ HB H57 H58
        clear z56 z57 z51 z52 z54 z55
        go_wp2_with fail
        exact bodyPost_ret (v := .tuple #[.agg #[.bool d58, .slice A58 n58 c58], .int .i64 ((p : Int) + (k : Int))]) (by simp [results, Tryd.results39, go_sem, gR00, gR01]) rfl HFE.out
end Go.Proofs.YtgfhniiidejmoaaDoor
namespace Go.Proofs.YtgfhniiidejmoaaDoor
open Go.RowKit Go.Shelf
set_option linter.unusedVariables false

theorem p64_one : p64 1 = 18446744073709551616 := by decide +kernel
theorem strN_one (lab : List Int) (seed : Int) (a j : Nat) : strN lab seed a 1 j = wordI lab seed ((a : Int) + j) := by
  unfold strN strW
  rw [Nat.mul_one, numW_one]
  congr 1
theorem bigJ_one (lab : List Int) (seed : Int) (a : Nat) (n : Int) : bigJ lab seed a n 1 = belowJ lab seed a n := by
  unfold bigJ belowJ
  refine firstJ_congr fun j => ?_
  rw [strN_one, p64_one]
  unfold fitW
  exact decide_eq_decide.2 (by omega)
theorem bigV_one (lab : List Int) (seed : Int) (a : Nat) (n : Int) : bigV lab seed a n 1 = belowV lab seed a n := by
  unfold bigV belowV
  rw [bigJ_one, strN_one]
theorem rbelow_no (seed i n : Int) (s : ByteArray) (w : World) (hn : n < 1 ∨ 4611686018427387904 < n) :
    Calls Tryd.prog 19 #[.int .u64 seed, .string s, .int .i64 i, .int .i64 n] w fun e w' => e = .returned (.tuple #[.int .i64 0, .int .i64 i]) ∧ w = w' := by
  by_cases h1 : n < 1
  · go_enter Tryd.func19, Tryd.ntmps19
    go_wp2
    go_ret2
    exact ⟨rfl, rfl⟩
  · have h2 : 4611686018427387904 < n := by omega
    go_enter Tryd.func19, Tryd.ntmps19
    go_wp2
    go_ret2
    exact ⟨rfl, rfl⟩
theorem rbig1 (seed n : Int) (a : Nat) (s : ByteArray) (u : Value) (w : World) (hs : s.size ≤ 1000000) (ha : a ≤ 1000000000) (hx : RepN w w.heap.size n u) (hn : 0 < n) (bn : Bits 20000 n) :
    Calls Tryd.prog 39 #[.int .u64 seed, .string s, .int .i64 a, u, .int .i64 1] w (NumN (belowV (sB s) seed a n) ((a : Int) + belowJ (sB s) seed a n + 1) w) := by
  have h := rbig_any seed n a 1 s u w hs ha (by omega) hx hn bn
  rw [bigV_one, bigJ_one, show ((a + (belowJ (sB s) seed a n + 1) * 1 : Nat) : Int) = (a : Int) + belowJ (sB s) seed a n + 1 from by omega] at h
  exact h
set_option maxRecDepth 100000 in
set_option maxHeartbeats 4000000 in
theorem rbelow_any (seed n : Int) (a : Nat) (s : ByteArray) (w : World) (hs : s.size ≤ 1000000) (ha : a ≤ 1000000000) (hn : 1 ≤ n) (hn1 : n ≤ 4611686018427387904) :
    Calls Tryd.prog 19 #[.int .u64 seed, .string s, .int .i64 a, .int .i64 n] w fun e w' => e = .returned (.tuple #[.int .i64 (belowV (sB s) seed a n), .int .i64 ((a : Int) + belowJ (sB s) seed a n + 1)]) ∧ Below w.heap.size w w' := by
  have d1 : ¬ n < 1 := by omega
  have d2 : ¬ 4611686018427387904 < n := by omega
  have hVb := belowV_bd (sB s) seed a n hn
  have hJ63 := belowJ_le (sB s) seed a n
  have HNB := Lib.hid (show Bits 64 n from bits_u64 (by omega) (by omega))
  have HRB := Lib.hid (fun u w hx => rbig1 seed n a s u w hs ha hx (by omega) (HNB.out.mono (by omega)))
  obtain ⟨V, hV⟩ : ∃ V, V = belowV (sB s) seed a n := ⟨_, rfl⟩
  obtain ⟨J, hJ⟩ : ∃ J, J = belowJ (sB s) seed a n := ⟨_, rfl⟩
  rw [← hV] at hVb HRB ⊢
  rw [← hJ] at hJ63 HRB ⊢
  clear hV hJ
  have HB := Lib.hid (Below.refl w.heap.size w)
  go_enter Tryd.func19, Tryd.ntmps19
  go_wp2_with fail
  refine (of_any n _ (by omega) (by omega)).mono ?_
  rintro e w1 ⟨v, rfl, h, b⟩
  replace HB := Lib.hid (bstep HB.out b)
  have V1 := Lib.hid h
  clear h b
  go_wp2_with fail
  refine (HRB.out _ _ V1.out).mono ?_
  rintro e w2 ⟨v, rfl, h, b⟩
  obtain ⟨d2, A2, n2, c2, rfl⟩ := h.shape'
  replace HB := Lib.hid (bstep HB.out b)
  have H2 := Lib.hid (HoldN.new h)
  replace HB := Lib.hid (bstep HB.out (al_below w2 (.cells #[.bool d2, .slice A2 n2 c2] 69)))
  clear h b V1
  have g0 := H2.out.c0
  have g1 := H2.out.c1
  go_wp2_with fail
  have hI : inI V = true := by unfold inI; exact decide_eq_true (by omega)
  have hS := small_num V _ _ H2.out.2 ((bits_u64 (by omega) (by omega)).mono (by omega))
  rw [hI, if_pos rfl] at hS
  refine hS.mono ?_
  rintro e w3 ⟨rfl, b⟩
  replace HB := Lib.hid (bstep HB.out b)
  clear b hS g0 g1 H2
  go_wp2_with fail
  go_ret2
  exact ⟨rfl, HB.out⟩

end Go.Proofs.YtgfhniiidejmoaaDoor
namespace Go.Proofs.YtgfhniiidejmoaaDoor
open Go.RowKit Go.Shelf
set_option linter.unusedVariables false

/-- the label of the laws -/
def testB : ByteArray := ⟨#[116, 101, 115, 116]⟩
/-- what both Belows give, for any bound -/
theorem below_both (seed n : Int) (a : Nat) (ha : a ≤ 1000000000) : ∃ v y : Int,
    (∀ w, Calls Tryd.prog 18 #[.int .u64 seed, .string ⟨#[116, 101, 115, 116]⟩, .int .i64 a, .int .i64 n] w fun e w' => e = .returned (.tuple #[.int .i64 v, .int .i64 y]) ∧ Below w.heap.size w w') ∧
    (∀ w, Calls Tryd.prog 19 #[.int .u64 seed, .string ⟨#[116, 101, 115, 116]⟩, .int .i64 a, .int .i64 n] w fun e w' => e = .returned (.tuple #[.int .i64 v, .int .i64 y]) ∧ Below w.heap.size w w') ∧
    (0 < n → 0 ≤ v ∧ v < n) := by
  by_cases h : 1 ≤ n ∧ n ≤ 4611686018427387904
  · exact ⟨_, _, fun w => below_any seed a n testB w (by decide) (by omega) (by omega) h.1 h.2, fun w => rbelow_any seed n a testB w (by decide) ha h.1 h.2, fun _ => belowV_bd _ _ _ _ h.1⟩
  · refine ⟨0, a, fun w => ?_, fun w => ?_, fun _ => by omega⟩
    · refine (below_no seed a n testB w (by omega)).mono ?_
      rintro e w' ⟨rfl, rfl⟩; exact ⟨rfl, Below.refl _ _⟩
    · refine (rbelow_no seed a n testB w (by omega)).mono ?_
      rintro e w' ⟨rfl, rfl⟩; exact ⟨rfl, Below.refl _ _⟩

set_option maxRecDepth 100000 in
set_option maxHeartbeats 4000000 in
theorem randBelow_law (seed i k n : Int) (w : World) (hi0 : -9223372036854775808 ≤ i) (hi1 : i ≤ 9223372036854775807) (hk0 : -9223372036854775808 ≤ k) (hk1 : k ≤ 9223372036854775807) (hn0 : -9223372036854775808 ≤ n) (hn1 : n ≤ 9223372036854775807) (hR : RoundsAt w) :
    Calls Tryd.prog 4 #[.int .u64 seed, .int .i64 i, .int .i64 k, .int .i64 n] w fun e w' => e = .returned (.bool true) ∧ Below w.heap.size w w' := by
  have hbd := aroundI_bd i 1000000 (by omega)
  have hbd5 := aroundI_bd n 5 (by omega)
  have HA := Lib.hid (around63 i 1000000 w hi0 hi1 (by omega) (by omega))
  have HA5 := Lib.hid (around63 n 5 w hn0 hn1 (by omega) (by omega))
  have HBD := Lib.hid (rbound_any k w hk0 hk1)
  obtain ⟨a, hae⟩ := Int.eq_ofNat_of_zero_le hbd.1
  rw [hae] at HA hbd
  obtain ⟨z, hz⟩ : ∃ z, z = aroundI n 5 := ⟨_, rfl⟩
  rw [← hz] at HA5 hbd5
  have ha : a ≤ 1000000000 := by omega
  obtain ⟨z0, z1⟩ := hbd5
  clear hae hz hi0 hi1 hk0 hk1 hbd
  have HB := Lib.hid (Below.refl w.heap.size w)
  have HR := Lib.hid hR
  clear hR
  go_enter Tryd.func4, Tryd.ntmps4
  go_wp2_with fail
  refine HA.out.mono ?_
  rintro e w1 ⟨rfl, rfl⟩
  go_wp2_with fail
  refine HBD.out.mono ?_
  rintro e w1 ⟨r, rfl, hr0, hr1, rfl⟩
  go_wp2_with fail
  refine HA5.out.mono ?_
  rintro e w1 ⟨rfl, rfl⟩
  clear HA HBD HA5
  go_wp2_with fail
  have hs := three_at .i64 w 3 r n (z - 2) w.heap.size rfl
  have b := al_below w (.cells #[.int .i64 r, .int .i64 n, .int .i64 (z - 2)] 3)
  replace HB := Lib.hid (bstep HB.out b)
  replace HR := Lib.hid (HR.out.below b)
  obtain ⟨W, hW⟩ : ∃ W, W = w.alloc (.cells #[.int .i64 r, .int .i64 n, .int .i64 (z - 2)] 3) := ⟨_, rfl⟩
  obtain ⟨A, hA⟩ : ∃ A : Option Addr, A = some ⟨w.heap.size, 0, none⟩ := ⟨_, rfl⟩
  obtain ⟨L, hL⟩ : ∃ L, L = [r, n, z - 2] := ⟨_, rfl⟩
  rw [← hW] at hs HB HR ⊢
  rw [← hA] at hs ⊢
  rw [← hL] at hs
  have HS := Lib.hid hs
  clear hW hA hL hs b hr0 hr1
  go_loopw [11] (fun jv wr => ∃ j : Nat, j ≤ 3 ∧ jv = .int .i64 j ∧ Hid (Sl .i64 wr wr.heap.size A 3 L) ∧ Hid (RoundsAt wr) ∧ Hid (Below w.heap.size w wr)) (fun jv _ => 3 - (intOf jv).toNat)
  case atStart => exact ⟨0, by omega, rfl, HS, HR, HB⟩
  case round =>
    clear HS HR HB
    obtain ⟨j, hj, rfl, HS, HR, HB⟩ := hrel
    by_cases hlt : j < 3
    · obtain ⟨b, off, rfl, hb, hcl⟩ := HS.out.at_ (by omega)
      have hcell := hcl j hlt
      clear hcl
      obtain ⟨x, hx⟩ : ∃ x, L[j]?.getD 0 = x := ⟨_, rfl⟩
      rw [hx] at hcell
      obtain ⟨v, y, h1, h2, h3⟩ := below_both seed x a ha
      have H1 := Lib.hid h1
      have H2 := Lib.hid h2
      have H3 := Lib.hid h3
      clear h1 h2 h3 hx
      have hji : (j : Int) < 3 := by omega
      have hd1 : (v != v) = false := by simp
      have hd2 : (y != y) = false := by simp
      go_wp2_with fail
      refine (H1.out _).mono ?_
      rintro e w2 ⟨rfl, bb⟩
      have hcell2 := rb_cell hcell bb
      replace HB := Lib.hid (bstep HB.out bb)
      replace HR := Lib.hid (HR.out.below bb)
      replace HS := Lib.hid ((HS.out.below bb).more bb.size)
      clear bb hcell hb
      go_wp2_with fail
      refine (H2.out _).mono ?_
      rintro e w3 ⟨rfl, bb⟩
      have hcell3 := rb_cell hcell2 bb
      replace HB := Lib.hid (bstep HB.out bb)
      replace HR := Lib.hid (HR.out.below bb)
      replace HS := Lib.hid ((HS.out.below bb).more bb.size)
      clear bb hcell2
      by_cases hx0 : 0 < x
      · have hv := H3.out hx0
        obtain ⟨hv0, hv1⟩ := hv
        have hv2 : ¬ v < 0 := by omega
        have hv3 : ¬ x ≤ v := by omega
        go_wp2_with fail
        go_roundw
        case rel => exact ⟨j + 1, by omega, by go_num, HS, HR, HB⟩
        case measure => simp [intOf]; omega
      · go_wp2_with fail
        go_roundw
        case rel => exact ⟨j + 1, by omega, by go_num, HS, HR, HB⟩
        case measure => simp [intOf]; omega
    · obtain rfl : j = 3 := by omega
      go_wp2_with fail
      refine (rlives_any _ HR.out).mono ?_
      rintro e w8 ⟨rfl, b⟩
      replace HB := Lib.hid (bstep HB.out b)
      clear b HR HS
      go_wp2_with fail
      go_ret
      exact ⟨rfl, HB.out⟩
end Go.Proofs.YtgfhniiidejmoaaDoor
