/- rand.wordsFor. · rand.Big's test. -/
import Derived.Test.YtgfhniiidejmoaaGreatDoorB39
import Derived.Test.YtgfhniiidejmoaaGreatDoorB37
import Derived.Test.YtgfhniiidejmoaaGreatDoorB38
namespace Go.Proofs.YtgfhniiidejmoaaGreatDoor
open Go.RowKit
set_option linter.unusedVariables false

/-- 2^64 to the power of k -/
def p64 (k : Nat) : Int := 2 ^ (64 * k)
theorem p64_succ (k : Nat) : p64 (k + 1) = p64 k * 18446744073709551616 := by
  unfold p64
  rw [show 64 * (k + 1) = 64 * k + 64 from by omega, Int.pow_add]; rfl
theorem p64_zero : p64 0 = 1 := rfl
theorem p64_pos (k : Nat) : 0 < p64 k := Int.pow_pos (by omega)
theorem p64_mono {j k : Nat} (h : j ≤ k) : p64 j ≤ p64 k := pow_mono' (by omega) (by omega)
theorem p64_lim {k : Nat} (hk : k ≤ 255) : p64 k < lim := by
  have h1 := p64_mono hk
  have h2 : p64 255 < lim := by decide +kernel
  omega
theorem p64_in {k : Nat} (hk : k ≤ 255) : ((p64 k).natAbs : Int) < lim := by
  have h1 := p64_pos k; have h2 := p64_lim hk; omega
theorem p64_wd {k : Nat} (hk : k + 1 ≤ 255) : wdI (p64 k) 0 = p64 (k + 1) := by
  have h1 := p64_pos k
  have h2 := p64_lim hk
  rw [p64_succ] at h2 ⊢
  rw [wdI_eq _ _ (by omega) (by omega) (by omega) (by omega)]; omega
/-- the number of words for n, 2^64 to the power of it, and the error -/
def WfS (n k z er : Int) : Prop := (er = 0 ∧ ∃ m : Nat, m ≤ 255 ∧ k = m ∧ z = p64 m ∧ n ≤ p64 m ∧ ∀ j, j < m → p64 j < n) ∨ (er = 4 ∧ k = 0 ∧ z = 0 ∧ ∀ j, j ≤ 255 → p64 j < n)
def WfR (n : Int) (w : World) (e : Ending) (w' : World) : Prop := ∃ (k z er : Int) (v : Value), e = .returned (.tuple #[.int .i64 k, v, .int .i64 er]) ∧ WfS n k z er ∧ RepI w' w'.heap.size z v ∧ Below w.heap.size w w'
/-- what is known at the head of a round -/
def WfI (n : Int) (m : Nat) (z : Int) : Prop := (m ≤ 255 → z = p64 m) ∧ 0 ≤ z ∧ (z.natAbs : Int) < lim ∧ ∀ j, j < m → p64 j < n
theorem WfI.step {n : Int} {m : Nat} {z : Int} (h : WfI n m z) (hm : m ≤ 255) (hlt : z < n) : WfI n (m + 1) (wdI z 0) := by
  refine ⟨fun h1 => ?_, wdI_nn _ _ h.2.1 (by omega), wdI_bd _ _, fun j hj => ?_⟩
  · rw [h.1 hm, p64_wd h1]
  · by_cases e : j = m
    · rw [e, ← h.1 hm]; exact hlt
    · exact h.2.2.2 j (by omega)

theorem lim_1' : ((1 : Int).natAbs : Int) < lim := tiny (by omega)
set_option maxRecDepth 100000 in
set_option maxHeartbeats 4000000 in
theorem wordsFor_any (n : Int) (u : Value) (w : World) (hx : RepI w w.heap.size n u) (bx : (n.natAbs : Int) < lim) :
    Calls Tryz.prog 28 #[u] w (WfR n w) := by
  have HBX := Lib.hid bx
  clear bx
  have HB := Lib.hid (Below.refl w.heap.size w)
  obtain ⟨dx, Ax, nx, cx, rfl⟩ := hx.shape
  have Vx := Lib.hid hx
  clear hx
  go_enter Tryz.func28, Tryz.ntmps28
  have h := HoldI.new Vx.out
  have b := al_below w (.cells #[.bool dx, .slice Ax nx cx] 36)
  replace HB := Lib.hid (bstep HB.out b)
  clear b
  have Hx := Lib.hid h
  clear h Vx
  have h := Blk2.new (w.alloc (.cells #[.bool dx, .slice Ax nx cx] 36)) 36 (.bool false) (.slice none 0 0)
  simp only [World.size_alloc] at h
  have b := al_below (w.alloc (.cells #[.bool dx, .slice Ax nx cx] 36)) (.cells #[.bool false, .slice none 0 0] 36)
  replace HB := Lib.hid (bstep HB.out b)
  replace Hx := Lib.hid (Hx.out.below b)
  clear b
  have R0 := Lib.hid (show Blk2 _ (w.heap.size + 1) 36 (.bool false) (.slice none 0 0) from h)
  clear h
  go_wp2_with fail
  refine (from_any 1 _ (by omega) (by omega)).mono ?_
  rintro e w51 ⟨v, rfl, h, b⟩
  obtain ⟨d51, A51, n51, c51, rfl⟩ := h.shape
  have z51 := b.size
  simp only [World.size_alloc] at z51
  replace z51 := Lib.hid z51
  replace HB := Lib.hid (bstep HB.out b)
  replace Hx := Lib.hid (Hx.out.below b)
  replace R0 := Lib.hid (R0.out.below b)
  have V51 := Lib.hid h
  clear h b
  have h := HoldI.new V51.out
  have b := al_below w51 (.cells #[.bool d51, .slice A51 n51 c51] 36)
  replace HB := Lib.hid (bstep HB.out b)
  replace Hx := Lib.hid (Hx.out.below b)
  replace R0 := Lib.hid (R0.out.below b)
  clear b
  have H51 := Lib.hid h
  clear h V51
  have HZ := Lib.hid (show WfI n 0 1 from ⟨fun _ => rfl, by omega, lim_1', fun j hj => by omega⟩)
  have hz51 := z51.out
  have HNX := Lib.hid (show w.heap.size ≠ w51.heap.size by omega)
  have HNR := Lib.hid (show w.heap.size + 1 ≠ w51.heap.size by omega)
  go_wp2_with fail
  go_loopw [8] (fun iv wr => ∃ (m : Nat) (z : Int) (d0 : Bool) (A0 : Option Addr) (n0 c0 : Nat), m ≤ 256 ∧ iv = .int .i64 m ∧ Hid (HoldI wr w51.heap.size z d0 A0 n0 c0) ∧ Hid (WfI n m z) ∧ Hid (HoldI wr w.heap.size n dx Ax nx cx) ∧ Hid (Blk2 wr (w.heap.size + 1) 36 (.bool false) (.slice none 0 0)) ∧ Hid (Below w.heap.size w wr)) (fun iv _ => 256 - (intOf iv).toNat)
  case atStart => exact ⟨0, 1, _, _, _, _, by omega, rfl, H51, HZ, Hx, R0, HB⟩
  case round =>
    clear HB Hx R0 HZ H51
    obtain ⟨m, z, d0, A0, n0, c0, hm, rfl, HW, HZ, Hx, R0, HB⟩ := hrel
    have hwl := HB.out.size
    by_cases hlt : m < 256
    · have hmi : (m : Int) < 256 := by omega
      have hmx : IntKind.i64.wrap ((m : Int) + 1) = (m : Int) + 1 := IntWalk.i64_in _ (by omega)
      obtain ⟨r, hr, hd⟩ : ∃ r, cmpI' n z = r ∧ decide (r ≤ 0) = decide (n ≤ z) := ⟨_, rfl, by unfold cmpI'; split <;> (try split) <;> simp <;> omega⟩
      have HR := Lib.hid hr
      have HDD := Lib.hid hd
      have HZL := Lib.hid HZ.out.2.2.1
      clear hr hd
      have gHx0 := Hx.out.c0
      have gHx1 := Hx.out.c1
      have gHW0 := HW.out.c0
      have gHW1 := HW.out.c1
      go_wp2_with fail
      refine (icompare_lim n z _ _ _ Hx.out.2 HW.out.2 HBX.out HZL.out r HR.out).mono ?_
      rintro e w52 ⟨rfl, b⟩
      clear gHx0 gHx1 gHW0 gHW1
      have z52 := b.size
      replace z52 := Lib.hid z52
      replace HW := Lib.hid (HW.out.below b)
      replace R0 := Lib.hid (R0.out.below b)
      replace Hx := Lib.hid (Hx.out.below b)
      replace HB := Lib.hid (bstep HB.out b)
      clear b
      by_cases hle : n ≤ z
      · have hdt : decide (r ≤ 0) = true := by rw [HDD.out]; exact decide_eq_true hle
        have HLE := Lib.hid hle
        clear hle
        have gR00 := R0.out.c0
        have yR00 := R0.out.f0
        have gR01 := R0.out.c1
        have yR01 := R0.out.f1
        have gHW0 := HW.out.c0
        have gHW1 := HW.out.c1
        have HF := Lib.hid (retI (HW.out.2) R0.out HB.out (by omega))
        have HWS := Lib.hid (show WfS n m z 0 from .inl ⟨rfl, m, by omega, rfl, HZ.out.1 (by omega), by rw [← HZ.out.1 (by omega)]; exact HLE.out, HZ.out.2.2.2⟩)
        clear HW R0 Hx HB
        clear HBX HZ HR HDD HZL HLE HNX HNR
        clear z51 z52
        go_wp2_with fail
        go_region
        all_goals go_wp2_with fail
        all_goals exact bodyPost_ret (v := .tuple #[.int .i64 m, .agg #[.bool d0, .slice A0 n0 c0], .int .i64 0]) (by simp [results, Tryz.results28, go_sem, gR00, gR01]) rfl ⟨_, _, _, _, rfl, HWS.out, HF.out.1, rb_dr HF.out.2.1⟩
      · have hdt : decide (r ≤ 0) = false := by rw [HDD.out]; exact decide_eq_false hle
        have HST := Lib.hid (HZ.out.step (by omega) (by omega))
        have hzz := HZ.out.2
        have HZN := Lib.hid hzz.1
        clear hle hzz
        have gHW0 := HW.out.c0
        have gHW1 := HW.out.c1
        go_wp2_with fail
        refine (withDigit_any z 0 _ _ HW.out.2 HZN.out HZL.out (by omega) (by omega)).mono ?_
        rintro e w53 ⟨v, rfl, h, b⟩
        obtain ⟨d53, A53, n53, c53, rfl⟩ := h.shape
        clear gHW0 gHW1
        have z53 := b.size
        replace z53 := Lib.hid z53
        replace HW := Lib.hid (HW.out.below b)
        replace R0 := Lib.hid (R0.out.below b)
        replace Hx := Lib.hid (Hx.out.below b)
        replace HB := Lib.hid (bstep HB.out b)
        have V53 := Lib.hid h
        clear h b
        have hne1 := HNX.out
        have hne2 := HNR.out
        have hwl2 := HB.out.size
        have sHWa0 := HW.out.c0
        have tHWa0 := HW.out.1.f0
        have sHWa1 := HW.out.c1
        have tHWa1 := HW.out.1.f1
        have BK := Lib.hid HW.out.1
        have NB := Lib.hid (HoldI.made V53.out HW.out.1)
        replace R0 := Lib.hid (R0.out.off (u := .bool d53) (u' := .slice A53 n53 c53) (g := w51.heap.size) (by omega))
        replace Hx := Lib.hid (Hx.out.off (u := .bool d53) (u' := .slice A53 n53 c53) BK.out (by omega))
        replace HB := Lib.hid (below_off (u := .bool d53) (u' := .slice A53 n53 c53) (g := w51.heap.size) HB.out (by omega))
        replace V53 := Lib.hid (V53.out.st (u := .bool d53) (u' := .slice A53 n53 c53) BK.out)
        clear HW BK
        have HW := NB
        clear NB
        clear hne1 hne2 HBX HZ HR HDD HZL HZN HNX HNR hwl2
        clear z51 z52 z53
        clear V53
        go_wp2_with fail
        go_roundw
        case measure => simp [intOf]; omega
        case rel => exact ⟨m + 1, wdI z 0, _, _, _, _, by omega, by go_num, HW, HST, Hx, R0, HB⟩
    · obtain rfl : m = 256 := by omega
      have gR00 := R0.out.c0
      have yR00 := R0.out.f0
      have gR01 := R0.out.c1
      have yR01 := R0.out.f1
      have HF := Lib.hid (retI (RepI.zero wr _) R0.out HB.out (by omega))
      have HWS := Lib.hid (show WfS n 0 0 4 from .inr ⟨rfl, rfl, rfl, fun j hj => HZ.out.2.2.2 j (by omega)⟩)
      clear HW R0 Hx HB
      clear HZ HBX HNX HNR z51 hz51
      go_wp2_with fail
      exact bodyPost_ret (v := .tuple #[.int .i64 0, .agg #[.bool false, .slice none 0 0], .int .i64 4]) (by simp [results, Tryz.results28, go_sem, gR00, gR01]) rfl ⟨_, _, _, _, rfl, HWS.out, HF.out.1, HF.out.2.1⟩
end Go.Proofs.YtgfhniiidejmoaaGreatDoor
namespace Go.Proofs.YtgfhniiidejmoaaGreatDoor
open Go.RowKit
set_option linter.unusedVariables false

set_option maxRecDepth 100000 in
set_option maxHeartbeats 2000000 in
theorem big1_any (x M : Int) (u : Value) (b : Nat) (dM : Bool) (AM : Option Addr) (nM cM : Nat) (w : World) (hx : RepI w w.heap.size x u) (hm : HoldI w b M dM AM nM cM) (bx : (x.natAbs : Int) < lim) (bm : (M.natAbs : Int) < lim) :
    Calls Tryz.prog 31 #[u, .pointer (some ⟨b, 0, none⟩)] w (fun e w' => e = .returned (.bool (decide (x < M))) ∧ Below w.heap.size w w') := by
  have HBX := Lib.hid bx
  have HBM := Lib.hid bm
  have HM := Lib.hid hm
  have hr : ∃ r, cmpI' x M = r ∧ decide (r < 0) = decide (x < M) := ⟨_, rfl, by unfold cmpI'; split <;> (try split) <;> simp <;> omega⟩
  obtain ⟨r, hr, hd⟩ := hr
  have HR := Lib.hid hr
  have HDD := Lib.hid hd
  clear bx bm hm hr hd
  have HB := Lib.hid (Below.refl w.heap.size w)
  obtain ⟨dx, Ax, nx, cx, rfl⟩ := hx.shape
  have Vx := Lib.hid hx
  clear hx
  go_enter Tryz.func31, Tryz.ntmps31
  have h := HoldI.new Vx.out
  have b := al_below w (.cells #[.bool dx, .slice Ax nx cx] 36)
  replace HM := Lib.hid (HM.out.below b)
  replace HB := Lib.hid (bstep HB.out b)
  clear b
  have Hx := Lib.hid h
  clear h Vx
  have gHx0 := Hx.out.c0
  have gHx1 := Hx.out.c1
  have gHM0 := HM.out.c0
  have gHM1 := HM.out.c1
  go_wp2_with fail
  refine (icompare_lim x M _ _ _ Hx.out.2 HM.out.2 HBX.out HBM.out r HR.out).mono ?_
  rintro e w51 ⟨rfl, b⟩
  clear gHx0 gHx1 gHM0 gHM1
  have z51 := b.size
  simp only [World.size_alloc] at z51
  replace z51 := Lib.hid z51
  replace HM := Lib.hid (HM.out.below b)
  replace HB := Lib.hid (bstep HB.out b)
  replace Hx := Lib.hid (Hx.out.below b)
  clear b
  have HF := HB.out
  clear HM HB Hx
  go_wp2_with fail
  rw [HDD.out]
  go_ret
  exact ⟨rfl, HF⟩
end Go.Proofs.YtgfhniiidejmoaaGreatDoor
