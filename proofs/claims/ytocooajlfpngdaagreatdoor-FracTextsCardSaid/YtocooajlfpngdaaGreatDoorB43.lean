/- Contracts of the reference of frac: Number. -/
import Derived.Test.YtocooajlfpngdaaGreatDoorB40
namespace Go.Proofs.YtocooajlfpngdaaGreatDoor
open Go.RowKit
set_option linter.unusedVariables false

theorem bits_p : Bits 30 1000000007 := by unfold Bits; decide +kernel
theorem fin39 {i KB : Nat} (h : i ≤ 39) (hk : 1300 ≤ KB) : 70 + 30 * i ≤ KB := by omega
theorem step39 {i : Nat} {m : Int} (h : (i : Int) < m) (hm : m < 40) : i + 1 ≤ 39 := by omega
theorem wrap39 {i : Nat} (h : i ≤ 39) : IntKind.i64.wrap ((i : Int) + 1) = (i : Int) + 1 ∧ wrap64 ((i : Int) + 1) = (i : Int) + 1 := ⟨IntWalk.i64_in _ (by omega), IntWalk.wrap64_in _ (by omega)⟩
/-- a generated numerator or denominator -/
def NumG (k : Nat) (w : World) (e : Ending) (w' : World) : Prop := ∃ z, Bits k z ∧ NewN z w e w'
set_option maxRecDepth 100000 in
set_option maxHeartbeats 2000000 in
theorem gnum_00 (a b : Int) (w : World) (ha : -9223372036854775808 ≤ a ∧ a ≤ 9223372036854775807) (hb : -9223372036854775808 ≤ b ∧ b ≤ 9223372036854775807) (hk : (0 ≤ a.tmod 7 ∧ a.tmod 7 < 7) ∧ (a.tmod 7 < 4)) :
    Calls Tryz.prog 11 #[.int .i64 a, .int .i64 b] w (NumG 1300 w) := by
  obtain ⟨KB, hKB⟩ : ∃ KB, KB = 1300 := ⟨_, rfl⟩
  rw [← hKB]
  have hkb : 1300 ≤ KB := by omega
  clear hKB
  obtain ⟨t, ht⟩ : ∃ t, t = a.tmod 7 := ⟨_, rfl⟩
  have htm : a.tmod 7 = t := ht.symm
  have hb1 : -9223372036854775808 ≤ b := hb.1
  have hb2 : b ≤ 9223372036854775807 := hb.2
  rw [← ht] at hk
  have htn : ¬ t < 0 := by omega
  have h4 : t < 4 := by omega
  obtain ⟨s, hs⟩ : ∃ s, s = b.tmod 60 := ⟨_, rfl⟩
  have hsm : b.tmod 60 = s := hs.symm
  have hs1 : -60 < s ∧ s < 60 := hs ▸ ⟨Int.lt_tmod_of_pos b (by omega), Int.tmod_lt_of_pos b (by omega)⟩
  clear hs
  clear ht hk
  have HB := Lib.hid (Below.refl w.heap.size w)
  replace ha := Lib.hid ha
  replace hb := Lib.hid hb
  go_enter Tryz.func11, Tryz.ntmps11
  have h := Blk2.new w 24 (.bool false) (.slice none 0 0)
  have b := al_below w (.cells #[.bool false, .slice none 0 0] 24)
  replace HB := Lib.hid (bstep HB.out b)
  clear b
  have R0 := Lib.hid (show Blk2 _ (w.heap.size) 24 (.bool false) (.slice none 0 0) from h)
  clear h
  go_wp2_with fail
  refine (of_any s _ (by omega) (by omega)).mono ?_
  rintro e w51 ⟨v, rfl, h, b⟩
  obtain ⟨d51, A51, n51, c51, rfl⟩ := h.shape'
  have z51 := b.size
  simp only [World.size_alloc] at z51
  replace z51 := Lib.hid z51
  replace HB := Lib.hid (bstep HB.out b)
  replace R0 := Lib.hid (R0.out.below b)
  have V51 := Lib.hid h
  clear h b
  have gR00 := R0.out.c0
  have yR00 := R0.out.f0
  have gR01 := R0.out.c1
  have yR01 := R0.out.f1
  have HF := Lib.hid (retN (V51.out) R0.out HB.out (by omega))
  clear HB R0 V51
  clear ha hb
  go_wp2_with fail
  exact bodyPost_ret (v := .agg #[.bool d51, .slice A51 n51 c51]) (by simp [results, Tryz.results11, go_sem, gR00, gR01]) rfl ⟨_, (Bits.i64 (by omega) (by omega)).mono (by omega), _, rfl, HF.out.1, HF.out.2.1⟩
set_option maxRecDepth 100000 in
set_option maxHeartbeats 2000000 in
theorem gnum_01 (a b : Int) (w : World) (ha : -9223372036854775808 ≤ a ∧ a ≤ 9223372036854775807) (hb : -9223372036854775808 ≤ b ∧ b ≤ 9223372036854775807) (hk : (0 ≤ a.tmod 7 ∧ a.tmod 7 < 7) ∧ (4 ≤ a.tmod 7 ∧ a.tmod 7 < 6)) :
    Calls Tryz.prog 11 #[.int .i64 a, .int .i64 b] w (NumG 1300 w) := by
  obtain ⟨KB, hKB⟩ : ∃ KB, KB = 1300 := ⟨_, rfl⟩
  rw [← hKB]
  have hkb : 1300 ≤ KB := by omega
  clear hKB
  obtain ⟨t, ht⟩ : ∃ t, t = a.tmod 7 := ⟨_, rfl⟩
  have htm : a.tmod 7 = t := ht.symm
  have hb1 : -9223372036854775808 ≤ b := hb.1
  have hb2 : b ≤ 9223372036854775807 := hb.2
  rw [← ht] at hk
  have htn : ¬ t < 0 := by omega
  have h4 : ¬ t < 4 := by omega
  have h6 : t < 6 := by omega
  clear ht hk
  have HB := Lib.hid (Below.refl w.heap.size w)
  replace ha := Lib.hid ha
  replace hb := Lib.hid hb
  go_enter Tryz.func11, Tryz.ntmps11
  have h := Blk2.new w 24 (.bool false) (.slice none 0 0)
  have b := al_below w (.cells #[.bool false, .slice none 0 0] 24)
  replace HB := Lib.hid (bstep HB.out b)
  clear b
  have R0 := Lib.hid (show Blk2 _ (w.heap.size) 24 (.bool false) (.slice none 0 0) from h)
  clear h
  go_wp2_with fail
  refine (of_any b _ hb1 hb2).mono ?_
  rintro e w51 ⟨v, rfl, h, b⟩
  obtain ⟨d51, A51, n51, c51, rfl⟩ := h.shape'
  have z51 := b.size
  simp only [World.size_alloc] at z51
  replace z51 := Lib.hid z51
  replace HB := Lib.hid (bstep HB.out b)
  replace R0 := Lib.hid (R0.out.below b)
  have V51 := Lib.hid h
  clear h b
  have gR00 := R0.out.c0
  have yR00 := R0.out.f0
  have gR01 := R0.out.c1
  have yR01 := R0.out.f1
  have HF := Lib.hid (retN (V51.out) R0.out HB.out (by omega))
  clear HB R0 V51
  clear ha hb
  go_wp2_with fail
  exact bodyPost_ret (v := .agg #[.bool d51, .slice A51 n51 c51]) (by simp [results, Tryz.results11, go_sem, gR00, gR01]) rfl ⟨_, (Bits.i64 hb1 hb2).mono (by omega), _, rfl, HF.out.1, HF.out.2.1⟩
set_option maxRecDepth 100000 in
set_option maxHeartbeats 2000000 in
theorem gnum_02 (a b : Int) (w : World) (ha : -9223372036854775808 ≤ a ∧ a ≤ 9223372036854775807) (hb : -9223372036854775808 ≤ b ∧ b ≤ 9223372036854775807) (hk : (0 ≤ a.tmod 7 ∧ a.tmod 7 < 7) ∧ (6 ≤ a.tmod 7)) :
    Calls Tryz.prog 11 #[.int .i64 a, .int .i64 b] w (NumG 1300 w) := by
  obtain ⟨KB, hKB⟩ : ∃ KB, KB = 1300 := ⟨_, rfl⟩
  rw [← hKB]
  have hkb : 1300 ≤ KB := by omega
  clear hKB
  obtain ⟨t, ht⟩ : ∃ t, t = a.tmod 7 := ⟨_, rfl⟩
  have htm : a.tmod 7 = t := ht.symm
  have hb1 : -9223372036854775808 ≤ b := hb.1
  have hb2 : b ≤ 9223372036854775807 := hb.2
  rw [← ht] at hk
  have htn : ¬ t < 0 := by omega
  have h4 : ¬ t < 4 := by omega
  have h6 : ¬ t < 6 := by omega
  obtain ⟨m, hm⟩ : ∃ m, m = (a.tdiv 7).tmod 40 := ⟨_, rfl⟩
  have hmm : (a.tdiv 7).tmod 40 = m := hm.symm
  have ewq : wrap64 (a.tdiv 7) = a.tdiv 7 := IntWalk.wrap64_in _ (tdiv7 ha.1 ha.2)
  have ewr : IntKind.i64.wrap (a.tdiv 7) = a.tdiv 7 := IntWalk.i64_in _ (tdiv7 ha.1 ha.2)
  have hm1 : -40 < m ∧ m < 40 := hm ▸ ⟨Int.lt_tmod_of_pos _ (by omega), Int.tmod_lt_of_pos _ (by omega)⟩
  clear hm
  clear ht hk
  have HB := Lib.hid (Below.refl w.heap.size w)
  replace ha := Lib.hid ha
  replace hb := Lib.hid hb
  go_enter Tryz.func11, Tryz.ntmps11
  have h := Blk2.new w 24 (.bool false) (.slice none 0 0)
  have b := al_below w (.cells #[.bool false, .slice none 0 0] 24)
  replace HB := Lib.hid (bstep HB.out b)
  clear b
  have R0 := Lib.hid (show Blk2 _ (w.heap.size) 24 (.bool false) (.slice none 0 0) from h)
  clear h
  go_wp2_with fail
  refine (of_any b _ hb1 hb2).mono ?_
  rintro e w51 ⟨v, rfl, h, b⟩
  obtain ⟨d51, A51, n51, c51, rfl⟩ := h.shape'
  have z51 := b.size
  simp only [World.size_alloc] at z51
  replace z51 := Lib.hid z51
  replace HB := Lib.hid (bstep HB.out b)
  replace R0 := Lib.hid (R0.out.below b)
  have V51 := Lib.hid h
  clear h b
  go_wp2_with fail
  refine (of_any 3 _ (by omega) (by omega)).mono ?_
  rintro e w52 ⟨v, rfl, h, b⟩
  obtain ⟨d52, A52, n52, c52, rfl⟩ := h.shape'
  have z52 := b.size
  replace z52 := Lib.hid z52
  replace HB := Lib.hid (bstep HB.out b)
  replace R0 := Lib.hid (R0.out.below b)
  replace V51 := Lib.hid (V51.out.step b)
  have V52 := Lib.hid h
  clear h b
  go_wp2_with fail
  refine (add_any b 3 _ _ _ V51.out V52.out ((Bits.i64 hb1 hb2).mono (by omega)) ((Bits.i64 (by omega) (by omega)).mono (by omega))).mono ?_
  rintro e w53 ⟨v, rfl, h, b⟩
  obtain ⟨d53, A53, n53, c53, rfl⟩ := h.shape'
  have z53 := b.size
  replace z53 := Lib.hid z53
  replace HB := Lib.hid (bstep HB.out b)
  replace R0 := Lib.hid (R0.out.below b)
  replace V51 := Lib.hid (V51.out.step b)
  replace V52 := Lib.hid (V52.out.step b)
  have V53 := Lib.hid h
  clear h b
  have h := HoldN.new V53.out
  have b := al_below w53 (.cells #[.bool d53, .slice A53 n53 c53] 24)
  replace HB := Lib.hid (bstep HB.out b)
  replace R0 := Lib.hid (R0.out.below b)
  replace V51 := Lib.hid (V51.out.step b)
  replace V52 := Lib.hid (V52.out.step b)
  clear b
  have H53 := Lib.hid h
  clear h V53
  clear V51 V52
  have HZ := Lib.hid (show Bits (70 + 30 * 0) (b + 3) from (Bits.add (Bits.i64 hb1 hb2) (Bits.i64 (n := 3) (by omega) (by omega))).mono (by omega))
  have z51_ := z51.out
  have z52_ := z52.out
  have z53_ := z53.out
  go_wp2_with fail
  go_loopw [7] (fun iv wr => ∃ (i : Nat) (z : Int) (d0 : Bool) (A0 : Option Addr) (n0 c0 : Nat), i ≤ 39 ∧ iv = .int .i64 i ∧ Hid (HoldN wr w53.heap.size z d0 A0 n0 c0) ∧ Hid (Bits (70 + 30 * i) z) ∧ Hid (Blk2 wr w.heap.size 24 (.bool false) (.slice none 0 0)) ∧ Hid (Below w.heap.size w wr)) (fun iv _ => 39 - (intOf iv).toNat)
  case atStart => exact ⟨0, _, _, _, _, _, by omega, rfl, H53, HZ, R0, HB⟩
  case round =>
    clear H53 HZ R0 HB
    obtain ⟨i, z, d0, A0, n0, c0, hi39, rfl, HW, HZ, R0, HB⟩ := hrel
    have hip : (0 : Int) ≤ (i : Int) := Int.natCast_nonneg _
    have ewi : IntKind.i64.wrap ((i : Int) + 1) = (i : Int) + 1 := (wrap39 hi39).1
    have ewj : wrap64 ((i : Int) + 1) = (i : Int) + 1 := (wrap39 hi39).2
    by_cases hlt : (i : Int) < m
    · have hi38 : i + 1 ≤ 39 := step39 hlt hm1.2
      go_wp2_with fail
      clear htm hmm ewq ewr hm1 hlt h4 h6
      go_wp2_with fail
      have qHW0 := HW.out.c0
      have qHW1 := HW.out.c1
      go_region_with (first
          | (go_at_call 16
             refine (of_any 1000000007 _ (by omega) (by omega)).mono ?_
             rintro e w54 ⟨v54, rfl, h54, b54⟩
             obtain ⟨d54, A54, n54, c54, rfl⟩ := h54.shape'
             have hb54 : Below wr.heap.size wr w54 := bstep (by repeat' (first | with_reducible exact Below.refl _ _ | with_reducible assumption | with_reducible refine below_drew ?_)) b54
             have V54 := Lib.hid h54
             clear h54
             replace qHW0 := cell_below (HW.out.c0) hb54
             replace qHW1 := cell_below (HW.out.c1) hb54)
          | (go_at_call 13
             refine (mul_any z 1000000007 _ _ _ (HW.out.2.step (by repeat' (first | with_reducible exact Below.refl _ _ | with_reducible assumption | with_reducible refine below_drew ?_))) (V54.out.step (by repeat' (first | with_reducible exact Below.refl _ _ | with_reducible assumption | with_reducible refine below_drew ?_))) (HZ.out.mono (by omega)) ((Bits.i64 (by omega) (by omega)).mono (by omega))).mono ?_
             rintro e w55 ⟨v55, rfl, h55, b55⟩
             obtain ⟨d55, A55, n55, c55, rfl⟩ := h55.shape'
             have hb55 : Below wr.heap.size wr w55 := bstep (by repeat' (first | with_reducible exact Below.refl _ _ | with_reducible assumption | with_reducible refine below_drew ?_)) b55
             replace V54 := Lib.hid (V54.out.step (by first | exact b55 | exact undrew b55 | exact undrew (undrew b55)))
             have V55 := Lib.hid h55
             clear h55
             replace qHW0 := cell_below (HW.out.c0) hb55
             replace qHW1 := cell_below (HW.out.c1) hb55
             replace HW := Lib.hid (HW.out.below hb55)
             replace R0 := Lib.hid (R0.out.below hb55)
             replace HB := Lib.hid (bstep HB.out hb55)
             clear b54 hb54 b55 hb55
             have HZ2 := Lib.hid (show Bits (70 + 30 * (i + 1)) (z * 1000000007) from (Bits.mul HZ.out bits_p).mono (by omega))
             have hneR : w.heap.size ≠ w53.heap.size := by omega
             have sHWa0 := HW.out.c0
             have tHWa0 := HW.out.1.f0
             have sHWa1 := HW.out.c1
             have tHWa1 := HW.out.1.f1
             have BK := Lib.hid HW.out.1
             have NB := Lib.hid (HoldN.made V55.out HW.out.1)
             replace R0 := Lib.hid (R0.out.off (u := .bool d55) (u' := .slice A55 n55 c55) (g := w53.heap.size) (by omega))
             replace HB := Lib.hid (below_off (u := .bool d55) (u' := .slice A55 n55 c55) (g := w53.heap.size) HB.out (by omega))
             replace V54 := Lib.hid (V54.out.st (u := .bool d55) (u' := .slice A55 n55 c55) BK.out)
             replace V55 := Lib.hid (V55.out.st (u := .bool d55) (u' := .slice A55 n55 c55) BK.out)
             clear HW BK
             have HW := NB
             clear NB))
      all_goals
        clear V54 V55 HZ
        go_wp2_with fail
        go_roundw
        case rel => exact ⟨i + 1, _, _, _, _, _, hi38, by go_num, HW, HZ2, R0, HB⟩
        case measure => simp [intOf]; omega
    · skip
      have HZ3 := Lib.hid (show Bits KB z from HZ.out.mono (fin39 hi39 hkb))
      have gR00 := R0.out.c0
      have yR00 := R0.out.f0
      have gR01 := R0.out.c1
      have yR01 := R0.out.f1
      have gHW0 := HW.out.c0
      have gHW1 := HW.out.c1
      have HF := Lib.hid (retN HW.out.2 R0.out HB.out (Nat.le_refl _))
      clear HW R0 HB
      clear ha hb HZ
      go_wp2_with fail
      exact bodyPost_ret (v := .agg #[.bool d0, .slice A0 n0 c0]) (by simp [results, Tryz.results11, go_sem, gR00, gR01]) rfl ⟨_, HZ3.out, _, rfl, HF.out.1, HF.out.2.1⟩
set_option maxRecDepth 100000 in
set_option maxHeartbeats 2000000 in
theorem gnum_10 (a b : Int) (w : World) (ha : -9223372036854775808 ≤ a ∧ a ≤ 9223372036854775807) (hb : -9223372036854775808 ≤ b ∧ b ≤ 9223372036854775807) (hk : (-7 < a.tmod 7 ∧ a.tmod 7 < 0) ∧ (a.tmod 7 + 7 < 4)) :
    Calls Tryz.prog 11 #[.int .i64 a, .int .i64 b] w (NumG 1300 w) := by
  obtain ⟨KB, hKB⟩ : ∃ KB, KB = 1300 := ⟨_, rfl⟩
  rw [← hKB]
  have hkb : 1300 ≤ KB := by omega
  clear hKB
  obtain ⟨t, ht⟩ : ∃ t, t = a.tmod 7 := ⟨_, rfl⟩
  have htm : a.tmod 7 = t := ht.symm
  have hb1 : -9223372036854775808 ≤ b := hb.1
  have hb2 : b ≤ 9223372036854775807 := hb.2
  rw [← ht] at hk
  have ew1 : IntKind.i64.wrap (t + 7) = t + 7 := IntWalk.i64_in _ (by omega)
  have ew2 : wrap64 (t + 7) = t + 7 := IntWalk.wrap64_in _ (by omega)
  have htn : t < 0 := by omega
  have h4 : t + 7 < 4 := by omega
  obtain ⟨s, hs⟩ : ∃ s, s = b.tmod 60 := ⟨_, rfl⟩
  have hsm : b.tmod 60 = s := hs.symm
  have hs1 : -60 < s ∧ s < 60 := hs ▸ ⟨Int.lt_tmod_of_pos b (by omega), Int.tmod_lt_of_pos b (by omega)⟩
  clear hs
  clear ht hk
  have HB := Lib.hid (Below.refl w.heap.size w)
  replace ha := Lib.hid ha
  replace hb := Lib.hid hb
  go_enter Tryz.func11, Tryz.ntmps11
  have h := Blk2.new w 24 (.bool false) (.slice none 0 0)
  have b := al_below w (.cells #[.bool false, .slice none 0 0] 24)
  replace HB := Lib.hid (bstep HB.out b)
  clear b
  have R0 := Lib.hid (show Blk2 _ (w.heap.size) 24 (.bool false) (.slice none 0 0) from h)
  clear h
  go_wp2_with fail
  refine (of_any s _ (by omega) (by omega)).mono ?_
  rintro e w51 ⟨v, rfl, h, b⟩
  obtain ⟨d51, A51, n51, c51, rfl⟩ := h.shape'
  have z51 := b.size
  simp only [World.size_alloc] at z51
  replace z51 := Lib.hid z51
  replace HB := Lib.hid (bstep HB.out b)
  replace R0 := Lib.hid (R0.out.below b)
  have V51 := Lib.hid h
  clear h b
  have gR00 := R0.out.c0
  have yR00 := R0.out.f0
  have gR01 := R0.out.c1
  have yR01 := R0.out.f1
  have HF := Lib.hid (retN (V51.out) R0.out HB.out (by omega))
  clear HB R0 V51
  clear ha hb
  go_wp2_with fail
  exact bodyPost_ret (v := .agg #[.bool d51, .slice A51 n51 c51]) (by simp [results, Tryz.results11, go_sem, gR00, gR01]) rfl ⟨_, (Bits.i64 (by omega) (by omega)).mono (by omega), _, rfl, HF.out.1, HF.out.2.1⟩
set_option maxRecDepth 100000 in
set_option maxHeartbeats 2000000 in
theorem gnum_11 (a b : Int) (w : World) (ha : -9223372036854775808 ≤ a ∧ a ≤ 9223372036854775807) (hb : -9223372036854775808 ≤ b ∧ b ≤ 9223372036854775807) (hk : (-7 < a.tmod 7 ∧ a.tmod 7 < 0) ∧ (4 ≤ a.tmod 7 + 7 ∧ a.tmod 7 + 7 < 6)) :
    Calls Tryz.prog 11 #[.int .i64 a, .int .i64 b] w (NumG 1300 w) := by
  obtain ⟨KB, hKB⟩ : ∃ KB, KB = 1300 := ⟨_, rfl⟩
  rw [← hKB]
  have hkb : 1300 ≤ KB := by omega
  clear hKB
  obtain ⟨t, ht⟩ : ∃ t, t = a.tmod 7 := ⟨_, rfl⟩
  have htm : a.tmod 7 = t := ht.symm
  have hb1 : -9223372036854775808 ≤ b := hb.1
  have hb2 : b ≤ 9223372036854775807 := hb.2
  rw [← ht] at hk
  have ew1 : IntKind.i64.wrap (t + 7) = t + 7 := IntWalk.i64_in _ (by omega)
  have ew2 : wrap64 (t + 7) = t + 7 := IntWalk.wrap64_in _ (by omega)
  have htn : t < 0 := by omega
  have h4 : ¬ t + 7 < 4 := by omega
  have h6 : t + 7 < 6 := by omega
  clear ht hk
  have HB := Lib.hid (Below.refl w.heap.size w)
  replace ha := Lib.hid ha
  replace hb := Lib.hid hb
  go_enter Tryz.func11, Tryz.ntmps11
  have h := Blk2.new w 24 (.bool false) (.slice none 0 0)
  have b := al_below w (.cells #[.bool false, .slice none 0 0] 24)
  replace HB := Lib.hid (bstep HB.out b)
  clear b
  have R0 := Lib.hid (show Blk2 _ (w.heap.size) 24 (.bool false) (.slice none 0 0) from h)
  clear h
  go_wp2_with fail
  refine (of_any b _ hb1 hb2).mono ?_
  rintro e w51 ⟨v, rfl, h, b⟩
  obtain ⟨d51, A51, n51, c51, rfl⟩ := h.shape'
  have z51 := b.size
  simp only [World.size_alloc] at z51
  replace z51 := Lib.hid z51
  replace HB := Lib.hid (bstep HB.out b)
  replace R0 := Lib.hid (R0.out.below b)
  have V51 := Lib.hid h
  clear h b
  have gR00 := R0.out.c0
  have yR00 := R0.out.f0
  have gR01 := R0.out.c1
  have yR01 := R0.out.f1
  have HF := Lib.hid (retN (V51.out) R0.out HB.out (by omega))
  clear HB R0 V51
  clear ha hb
  go_wp2_with fail
  exact bodyPost_ret (v := .agg #[.bool d51, .slice A51 n51 c51]) (by simp [results, Tryz.results11, go_sem, gR00, gR01]) rfl ⟨_, (Bits.i64 hb1 hb2).mono (by omega), _, rfl, HF.out.1, HF.out.2.1⟩
set_option maxRecDepth 100000 in
set_option maxHeartbeats 2000000 in
theorem gnum_12 (a b : Int) (w : World) (ha : -9223372036854775808 ≤ a ∧ a ≤ 9223372036854775807) (hb : -9223372036854775808 ≤ b ∧ b ≤ 9223372036854775807) (hk : (-7 < a.tmod 7 ∧ a.tmod 7 < 0) ∧ (6 ≤ a.tmod 7 + 7)) :
    Calls Tryz.prog 11 #[.int .i64 a, .int .i64 b] w (NumG 1300 w) := by
  obtain ⟨KB, hKB⟩ : ∃ KB, KB = 1300 := ⟨_, rfl⟩
  rw [← hKB]
  have hkb : 1300 ≤ KB := by omega
  clear hKB
  obtain ⟨t, ht⟩ : ∃ t, t = a.tmod 7 := ⟨_, rfl⟩
  have htm : a.tmod 7 = t := ht.symm
  have hb1 : -9223372036854775808 ≤ b := hb.1
  have hb2 : b ≤ 9223372036854775807 := hb.2
  rw [← ht] at hk
  have ew1 : IntKind.i64.wrap (t + 7) = t + 7 := IntWalk.i64_in _ (by omega)
  have ew2 : wrap64 (t + 7) = t + 7 := IntWalk.wrap64_in _ (by omega)
  have htn : t < 0 := by omega
  have h4 : ¬ t + 7 < 4 := by omega
  have h6 : ¬ t + 7 < 6 := by omega
  obtain ⟨m, hm⟩ : ∃ m, m = (a.tdiv 7).tmod 40 := ⟨_, rfl⟩
  have hmm : (a.tdiv 7).tmod 40 = m := hm.symm
  have ewq : wrap64 (a.tdiv 7) = a.tdiv 7 := IntWalk.wrap64_in _ (tdiv7 ha.1 ha.2)
  have ewr : IntKind.i64.wrap (a.tdiv 7) = a.tdiv 7 := IntWalk.i64_in _ (tdiv7 ha.1 ha.2)
  have hm1 : -40 < m ∧ m < 40 := hm ▸ ⟨Int.lt_tmod_of_pos _ (by omega), Int.tmod_lt_of_pos _ (by omega)⟩
  clear hm
  clear ht hk
  have HB := Lib.hid (Below.refl w.heap.size w)
  replace ha := Lib.hid ha
  replace hb := Lib.hid hb
  go_enter Tryz.func11, Tryz.ntmps11
  have h := Blk2.new w 24 (.bool false) (.slice none 0 0)
  have b := al_below w (.cells #[.bool false, .slice none 0 0] 24)
  replace HB := Lib.hid (bstep HB.out b)
  clear b
  have R0 := Lib.hid (show Blk2 _ (w.heap.size) 24 (.bool false) (.slice none 0 0) from h)
  clear h
  go_wp2_with fail
  refine (of_any b _ hb1 hb2).mono ?_
  rintro e w51 ⟨v, rfl, h, b⟩
  obtain ⟨d51, A51, n51, c51, rfl⟩ := h.shape'
  have z51 := b.size
  simp only [World.size_alloc] at z51
  replace z51 := Lib.hid z51
  replace HB := Lib.hid (bstep HB.out b)
  replace R0 := Lib.hid (R0.out.below b)
  have V51 := Lib.hid h
  clear h b
  go_wp2_with fail
  refine (of_any 3 _ (by omega) (by omega)).mono ?_
  rintro e w52 ⟨v, rfl, h, b⟩
  obtain ⟨d52, A52, n52, c52, rfl⟩ := h.shape'
  have z52 := b.size
  replace z52 := Lib.hid z52
  replace HB := Lib.hid (bstep HB.out b)
  replace R0 := Lib.hid (R0.out.below b)
  replace V51 := Lib.hid (V51.out.step b)
  have V52 := Lib.hid h
  clear h b
  go_wp2_with fail
  refine (add_any b 3 _ _ _ V51.out V52.out ((Bits.i64 hb1 hb2).mono (by omega)) ((Bits.i64 (by omega) (by omega)).mono (by omega))).mono ?_
  rintro e w53 ⟨v, rfl, h, b⟩
  obtain ⟨d53, A53, n53, c53, rfl⟩ := h.shape'
  have z53 := b.size
  replace z53 := Lib.hid z53
  replace HB := Lib.hid (bstep HB.out b)
  replace R0 := Lib.hid (R0.out.below b)
  replace V51 := Lib.hid (V51.out.step b)
  replace V52 := Lib.hid (V52.out.step b)
  have V53 := Lib.hid h
  clear h b
  have h := HoldN.new V53.out
  have b := al_below w53 (.cells #[.bool d53, .slice A53 n53 c53] 24)
  replace HB := Lib.hid (bstep HB.out b)
  replace R0 := Lib.hid (R0.out.below b)
  replace V51 := Lib.hid (V51.out.step b)
  replace V52 := Lib.hid (V52.out.step b)
  clear b
  have H53 := Lib.hid h
  clear h V53
  clear V51 V52
  have HZ := Lib.hid (show Bits (70 + 30 * 0) (b + 3) from (Bits.add (Bits.i64 hb1 hb2) (Bits.i64 (n := 3) (by omega) (by omega))).mono (by omega))
  have z51_ := z51.out
  have z52_ := z52.out
  have z53_ := z53.out
  go_wp2_with fail
  go_loopw [7] (fun iv wr => ∃ (i : Nat) (z : Int) (d0 : Bool) (A0 : Option Addr) (n0 c0 : Nat), i ≤ 39 ∧ iv = .int .i64 i ∧ Hid (HoldN wr w53.heap.size z d0 A0 n0 c0) ∧ Hid (Bits (70 + 30 * i) z) ∧ Hid (Blk2 wr w.heap.size 24 (.bool false) (.slice none 0 0)) ∧ Hid (Below w.heap.size w wr)) (fun iv _ => 39 - (intOf iv).toNat)
  case atStart => exact ⟨0, _, _, _, _, _, by omega, rfl, H53, HZ, R0, HB⟩
  case round =>
    clear H53 HZ R0 HB
    obtain ⟨i, z, d0, A0, n0, c0, hi39, rfl, HW, HZ, R0, HB⟩ := hrel
    have hip : (0 : Int) ≤ (i : Int) := Int.natCast_nonneg _
    have ewi : IntKind.i64.wrap ((i : Int) + 1) = (i : Int) + 1 := (wrap39 hi39).1
    have ewj : wrap64 ((i : Int) + 1) = (i : Int) + 1 := (wrap39 hi39).2
    by_cases hlt : (i : Int) < m
    · have hi38 : i + 1 ≤ 39 := step39 hlt hm1.2
      go_wp2_with fail
      clear htm hmm ewq ewr hm1 hlt h4 h6 ew1 ew2
      go_wp2_with fail
      have qHW0 := HW.out.c0
      have qHW1 := HW.out.c1
      go_region_with (first
          | (go_at_call 16
             refine (of_any 1000000007 _ (by omega) (by omega)).mono ?_
             rintro e w54 ⟨v54, rfl, h54, b54⟩
             obtain ⟨d54, A54, n54, c54, rfl⟩ := h54.shape'
             have hb54 : Below wr.heap.size wr w54 := bstep (by repeat' (first | with_reducible exact Below.refl _ _ | with_reducible assumption | with_reducible refine below_drew ?_)) b54
             have V54 := Lib.hid h54
             clear h54
             replace qHW0 := cell_below (HW.out.c0) hb54
             replace qHW1 := cell_below (HW.out.c1) hb54)
          | (go_at_call 13
             refine (mul_any z 1000000007 _ _ _ (HW.out.2.step (by repeat' (first | with_reducible exact Below.refl _ _ | with_reducible assumption | with_reducible refine below_drew ?_))) (V54.out.step (by repeat' (first | with_reducible exact Below.refl _ _ | with_reducible assumption | with_reducible refine below_drew ?_))) (HZ.out.mono (by omega)) ((Bits.i64 (by omega) (by omega)).mono (by omega))).mono ?_
             rintro e w55 ⟨v55, rfl, h55, b55⟩
             obtain ⟨d55, A55, n55, c55, rfl⟩ := h55.shape'
             have hb55 : Below wr.heap.size wr w55 := bstep (by repeat' (first | with_reducible exact Below.refl _ _ | with_reducible assumption | with_reducible refine below_drew ?_)) b55
             replace V54 := Lib.hid (V54.out.step (by first | exact b55 | exact undrew b55 | exact undrew (undrew b55)))
             have V55 := Lib.hid h55
             clear h55
             replace qHW0 := cell_below (HW.out.c0) hb55
             replace qHW1 := cell_below (HW.out.c1) hb55
             replace HW := Lib.hid (HW.out.below hb55)
             replace R0 := Lib.hid (R0.out.below hb55)
             replace HB := Lib.hid (bstep HB.out hb55)
             clear b54 hb54 b55 hb55
             have HZ2 := Lib.hid (show Bits (70 + 30 * (i + 1)) (z * 1000000007) from (Bits.mul HZ.out bits_p).mono (by omega))
             have hneR : w.heap.size ≠ w53.heap.size := by omega
             have sHWa0 := HW.out.c0
             have tHWa0 := HW.out.1.f0
             have sHWa1 := HW.out.c1
             have tHWa1 := HW.out.1.f1
             have BK := Lib.hid HW.out.1
             have NB := Lib.hid (HoldN.made V55.out HW.out.1)
             replace R0 := Lib.hid (R0.out.off (u := .bool d55) (u' := .slice A55 n55 c55) (g := w53.heap.size) (by omega))
             replace HB := Lib.hid (below_off (u := .bool d55) (u' := .slice A55 n55 c55) (g := w53.heap.size) HB.out (by omega))
             replace V54 := Lib.hid (V54.out.st (u := .bool d55) (u' := .slice A55 n55 c55) BK.out)
             replace V55 := Lib.hid (V55.out.st (u := .bool d55) (u' := .slice A55 n55 c55) BK.out)
             clear HW BK
             have HW := NB
             clear NB))
      all_goals
        clear V54 V55 HZ
        go_wp2_with fail
        go_roundw
        case rel => exact ⟨i + 1, _, _, _, _, _, hi38, by go_num, HW, HZ2, R0, HB⟩
        case measure => simp [intOf]; omega
    · skip
      have HZ3 := Lib.hid (show Bits KB z from HZ.out.mono (fin39 hi39 hkb))
      have gR00 := R0.out.c0
      have yR00 := R0.out.f0
      have gR01 := R0.out.c1
      have yR01 := R0.out.f1
      have gHW0 := HW.out.c0
      have gHW1 := HW.out.c1
      have HF := Lib.hid (retN HW.out.2 R0.out HB.out (Nat.le_refl _))
      clear HW R0 HB
      clear ha hb HZ
      go_wp2_with fail
      exact bodyPost_ret (v := .agg #[.bool d0, .slice A0 n0 c0]) (by simp [results, Tryz.results11, go_sem, gR00, gR01]) rfl ⟨_, HZ3.out, _, rfl, HF.out.1, HF.out.2.1⟩
theorem gnumber_any (a b : Int) (w : World) (ha : -9223372036854775808 ≤ a ∧ a ≤ 9223372036854775807) (hb : -9223372036854775808 ≤ b ∧ b ≤ 9223372036854775807) : Calls Tryz.prog 11 #[.int .i64 a, .int .i64 b] w (NumG 1300 w) := by
  have h1 := Int.lt_tmod_of_pos a (show (0 : Int) < 7 by omega)
  have h2 := Int.tmod_lt_of_pos a (show (0 : Int) < 7 by omega)
  by_cases hn : a.tmod 7 < 0
  · by_cases h4 : a.tmod 7 + 7 < 4
    · exact gnum_10 a b w ha hb ⟨⟨h1, hn⟩, h4⟩
    · by_cases h6 : a.tmod 7 + 7 < 6
      · exact gnum_11 a b w ha hb ⟨⟨h1, hn⟩, by omega, h6⟩
      · exact gnum_12 a b w ha hb ⟨⟨h1, hn⟩, by omega⟩
  · by_cases h4 : a.tmod 7 < 4
    · exact gnum_00 a b w ha hb ⟨⟨by omega, h2⟩, h4⟩
    · by_cases h6 : a.tmod 7 < 6
      · exact gnum_01 a b w ha hb ⟨⟨by omega, h2⟩, by omega, h6⟩
      · exact gnum_02 a b w ha hb ⟨⟨by omega, h2⟩, by omega⟩
end Go.Proofs.YtocooajlfpngdaaGreatDoor
