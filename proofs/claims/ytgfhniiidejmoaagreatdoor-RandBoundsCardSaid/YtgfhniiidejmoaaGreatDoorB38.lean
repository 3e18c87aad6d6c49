/- rand.withDigit. -/
import Derived.Test.YtgfhniiidejmoaaGreatDoorB37
import Derived.Test.YtgfhniiidejmoaaGreatDoorB12
namespace Go.Proofs.YtgfhniiidejmoaaGreatDoor
open Go.RowKit
set_option linter.unusedVariables false

theorem and_low (d : Int) (h0 : 0 ≤ d) (h1 : d ≤ 18446744073709551615) : bits BinOp.and IntKind.u64 d 4294967295 = d % 4294967296 := by
  have e : (BitVec.ofInt 64 4294967295).toNat = 2 ^ 32 - 1 := by decide
  have key : (BitVec.ofInt 64 d &&& BitVec.ofInt 64 4294967295).toNat = (d % ((2 ^ 64 : Nat) : Int)).toNat % 2 ^ 32 := by
    rw [BitVec.toNat_and, BitVec.toNat_ofInt, e, Nat.and_two_pow_sub_one_eq_mod]
  show IntKind.u64.wrap ((BitVec.ofInt 64 d &&& BitVec.ofInt 64 4294967295).toNat : Nat) = d % 4294967296
  rw [key, IntKind.wrap_u64]
  omega
theorem lim_2 : ((4294967296 : Int).natAbs : Int) < lim := tiny (by omega)
/-- half a digit behind x -/
def wd1 (x h : Int) : Int := fitI (fitI (4294967296 * x) + h)
/-- x * 2^64 + d, as far as it is in range -/
def wdI (x d : Int) : Int := wd1 (wd1 x (d / 4294967296)) (d % 4294967296)
theorem fitI_bd (z : Int) : ((fitI z).natAbs : Int) < lim := by
  unfold fitI
  split
  · assumption
  · unfold lim; exact Int.pow_pos (by omega)
theorem fitI_nn (z : Int) (h : 0 ≤ z) : 0 ≤ fitI z := by
  unfold fitI
  split <;> omega
theorem wd1_bd (x h : Int) : ((wd1 x h).natAbs : Int) < lim := fitI_bd _
theorem wd1_nn (x h : Int) (hx : 0 ≤ x) (hh : 0 ≤ h) : 0 ≤ wd1 x h := fitI_nn _ (by have := fitI_nn (4294967296 * x) (by omega); omega)
theorem wd1_eq (x h : Int) (hx : 0 ≤ x) (hh : 0 ≤ h) (hb : x * 4294967296 + h < lim) : wd1 x h = x * 4294967296 + h := by
  have h1 : fitI (4294967296 * x) = 4294967296 * x := (fit_in (by omega)).1
  unfold wd1
  rw [h1, (fit_in (by omega)).1]; omega
theorem wdI_bd (x d : Int) : ((wdI x d).natAbs : Int) < lim := wd1_bd _ _
theorem wdI_nn (x d : Int) (hx : 0 ≤ x) (hd : 0 ≤ d) : 0 ≤ wdI x d := wd1_nn _ _ (wd1_nn _ _ hx (by omega)) (by omega)
theorem wdI_eq (x d : Int) (hx : 0 ≤ x) (hd : 0 ≤ d) (hd1 : d ≤ 18446744073709551615) (hb : x * 18446744073709551616 + d < lim) : wdI x d = x * 18446744073709551616 + d := by
  unfold wdI
  rw [wd1_eq x _ hx (by omega) (by omega), wd1_eq _ _ (by omega) (by omega) (by omega)]
  omega
/-- how far the integer is behind k halves of the digit -/
def StW (x d : Int) (k : Nat) (z : Int) : Prop := ((k = 0 ∧ z = x) ∨ (k = 1 ∧ z = wd1 x (d / 4294967296)) ∨ (k = 2 ∧ z = wdI x d)) ∧ 0 ≤ z ∧ (z.natAbs : Int) < lim
theorem StW.two {x d z : Int} (h : StW x d 2 z) : z = wdI x d := by
  rcases h.1 with ⟨e, _⟩ | ⟨e, _⟩ | ⟨_, e⟩
  · omega
  · omega
  · exact e
set_option maxRecDepth 100000 in
set_option maxHeartbeats 4000000 in
theorem withDigit_any (x d : Int) (u : Value) (w : World) (hx : RepI w w.heap.size x u) (hx0 : 0 ≤ x) (bx : (x.natAbs : Int) < lim) (hd : 0 ≤ d) (hd1 : d ≤ 18446744073709551615) :
    Calls Tryz.prog 52 #[u, .int .u64 d] w (NewI (wdI x d) w) := by
  have HST := Lib.hid (show StW x d 0 x from ⟨.inl ⟨rfl, rfl⟩, hx0, bx⟩)
  have HD := Lib.hid (show 0 ≤ d ∧ d ≤ 18446744073709551615 from ⟨hd, hd1⟩)
  have HX0 := Lib.hid hx0
  clear bx hx0
  have HB := Lib.hid (Below.refl w.heap.size w)
  obtain ⟨dx, Ax, nx, cx, rfl⟩ := hx.shape
  have Vx := Lib.hid hx
  clear hx
  go_enter Tryz.func52, Tryz.ntmps52
  have h := HoldI.new Vx.out
  have b := al_below w (.cells #[.bool dx, .slice Ax nx cx] 36)
  replace HB := Lib.hid (bstep HB.out b)
  clear b
  have Hx := Lib.hid h
  clear h Vx
  have h := Blk2.new (w.alloc (.cells #[.bool dx, .slice Ax nx cx] 36)) 36 (.bool false) (.slice none 0 0)
  simp only [World.size_alloc] at h
  have b := al_below (w.alloc (.cells #[.bool dx, .slice Ax nx cx] 36)) (.cells #[.bool false, .slice none 0 0] 36)
  replace HB := Lib.hid (bstep HB.out b)
  replace Hx := Lib.hid (Hx.out.below b)
  clear b
  have R0 := Lib.hid (show Blk2 _ (w.heap.size + 1) 36 (.bool false) (.slice none 0 0) from h)
  clear h
  go_wp2_with fail
  obtain ⟨lo, hlo⟩ : ∃ h, bits BinOp.and IntKind.u64 d 4294967295 = h := ⟨_, rfl⟩
  have hlo2 := and_low d hd hd1
  rw [hlo] at hlo2 ⊢
  obtain ⟨hi, hhi⟩ : ∃ h, d / 4294967296 = h := ⟨_, rfl⟩
  rw [hhi]
  have hb0 : 0 ≤ hi ∧ hi ≤ 4294967295 := by omega
  have hb1 : 0 ≤ lo ∧ lo ≤ 4294967295 := by omega
  have HLO := Lib.hid hlo2
  have HHI := Lib.hid hhi
  clear hlo hlo2 hhi
  have HIX := Lib.hid (show ∀ (k : Nat) (z : Int), k < 2 → StW x d k z → ∃ H : Int, 0 ≤ H ∧ H ≤ 4294967295 ∧ StW x d (k + 1) (wd1 z H) ∧ ∀ W : World, (Instr.index 124 (.agg #[.int .u64 hi, .int .u64 lo]) (.int .i64 k)).run Tryz.prog W = .ok (.int .u64 H) W from fun k z hk hs => by
    have hz := hs.2.1
    by_cases e0 : k = 0
    · subst e0
      refine ⟨hi, hb0.1, hb0.2, ⟨.inr (.inl ⟨rfl, ?_⟩), wd1_nn _ _ hz hb0.1, wd1_bd _ _⟩, fun _ => by kernel_rfl⟩
      rcases hs.1 with ⟨_, e⟩ | ⟨e, _⟩ | ⟨e, _⟩
      · rw [e, ← HHI.out]
      · omega
      · omega
    · obtain rfl : k = 1 := by omega
      refine ⟨lo, hb1.1, hb1.2, ⟨.inr (.inr ⟨rfl, ?_⟩), wd1_nn _ _ hz hb1.1, wd1_bd _ _⟩, fun _ => by kernel_rfl⟩
      rcases hs.1 with ⟨e, _⟩ | ⟨_, e⟩ | ⟨e, _⟩
      · omega
      · rw [e, HLO.out, wdI]
      · omega)
  clear hb0 hb1
  go_loopw [12] (fun iv wr => ∃ (k : Nat) (z : Int) (d0 : Bool) (A0 : Option Addr) (n0 c0 : Nat), k ≤ 2 ∧ iv = .int .i64 k ∧ Hid (HoldI wr w.heap.size z d0 A0 n0 c0) ∧ Hid (StW x d k z) ∧ Hid (Blk2 wr (w.heap.size + 1) 36 (.bool false) (.slice none 0 0)) ∧ Hid (Below w.heap.size w wr)) (fun iv _ => 2 - (intOf iv).toNat)
  case atStart => exact ⟨0, x, _, _, _, _, by omega, rfl, Hx, HST, R0, HB⟩
  case round =>
    clear HB Hx R0 HST
    obtain ⟨k, z, d0, A0, n0, c0, hk, rfl, HW, HST, R0, HB⟩ := hrel
    by_cases hlt : k < 2
    · obtain ⟨H, hH0, hH1, hst, hix⟩ := HIX.out k z hlt HST.out
      have hz0 := HST.out.2.1
      have HZL := Lib.hid HST.out.2.2
      have HS2 := Lib.hid hst
      have hki : (k : Int) < 2 := by omega
      have hwH : IntKind.i64.wrap H = H := IntWalk.i64_in _ (by omega)
      have hwl := HB.out.size
      have hne1 : w.heap.size + 1 ≠ w.heap.size := by omega
      have HNE := Lib.hid hne1
      clear hst HST hz0 hne1
      go_wp2_with fail
      have qHW0 := HW.out.c0
      have qHW1 := HW.out.c1
      go_region_with (first
          | (go_at_call 40
             refine (from_any 4294967296 _ (by omega) (by omega)).mono ?_
             rintro e w51 ⟨v51, rfl, h51, b51⟩
             obtain ⟨d51, A51, n51, c51, rfl⟩ := h51.shape
             have hb51 : Below wr.heap.size wr w51 := bstep (by repeat' (first | with_reducible exact Below.refl _ _ | with_reducible assumption | with_reducible refine below_drew ?_)) b51
             have V51 := Lib.hid h51
             clear h51
             replace qHW0 := cell_below (HW.out.c0) hb51
             replace qHW1 := cell_below (HW.out.c1) hb51)
          | (go_at_call 79
             refine (imul_any 4294967296 z _ _ _ (V51.out.step (by repeat' (first | with_reducible exact Below.refl _ _ | with_reducible assumption | with_reducible refine below_drew ?_))) (HW.out.2.step (by repeat' (first | with_reducible exact Below.refl _ _ | with_reducible assumption | with_reducible refine below_drew ?_))) lim_2 HZL.out).mono ?_
             rintro e w52 ⟨v52, rfl, h52, b52⟩
             obtain ⟨d52, A52, n52, c52, rfl⟩ := h52.shape
             have hb52 : Below wr.heap.size wr w52 := bstep (by repeat' (first | with_reducible exact Below.refl _ _ | with_reducible assumption | with_reducible refine below_drew ?_)) b52
             replace V51 := Lib.hid (V51.out.step (by first | exact b52 | exact undrew b52 | exact undrew (undrew b52)))
             have V52 := Lib.hid h52
             clear h52
             replace qHW0 := cell_below (HW.out.c0) hb52
             replace qHW1 := cell_below (HW.out.c1) hb52
             replace HW := Lib.hid (HW.out.below hb52)
             replace R0 := Lib.hid (R0.out.below hb52)
             replace HB := Lib.hid (bstep HB.out hb52)
             clear b51 hb51 b52 hb52
             have hne1 := HNE.out
             have sHWa0 := HW.out.c0
             have tHWa0 := HW.out.1.f0
             have sHWa1 := HW.out.c1
             have tHWa1 := HW.out.1.f1
             have BK := Lib.hid HW.out.1
             have NB := Lib.hid (HoldI.made V52.out HW.out.1)
             replace R0 := Lib.hid (R0.out.off (u := .bool d52) (u' := .slice A52 n52 c52) (g := w.heap.size) (by omega))
             replace HB := Lib.hid (below_off (u := .bool d52) (u' := .slice A52 n52 c52) (g := w.heap.size) HB.out (by omega))
             replace V51 := Lib.hid (V51.out.st (u := .bool d52) (u' := .slice A52 n52 c52) BK.out)
             replace V52 := Lib.hid (V52.out.st (u := .bool d52) (u' := .slice A52 n52 c52) BK.out)
             clear HW BK
             have HW := NB
             clear NB
             clear hne1))
      all_goals
        have HFB := Lib.hid (fitI_bd (4294967296 * z))
        go_wp2_with fail
        have qHW0 := HW.out.c0
        have qHW1 := HW.out.c1
        go_region_with (first
            | (go_at_call 40
               refine (from_any H _ (by omega) (by omega)).mono ?_
               rintro e w53 ⟨v53, rfl, h53, b53⟩
               obtain ⟨d53, A53, n53, c53, rfl⟩ := h53.shape
               have hb53 : Below ((w52.setCell ⟨w.heap.size, 0, none⟩ (.bool d52)).setCell ⟨w.heap.size, 1, none⟩ (.slice A52 n52 c52)).heap.size ((w52.setCell ⟨w.heap.size, 0, none⟩ (.bool d52)).setCell ⟨w.heap.size, 1, none⟩ (.slice A52 n52 c52)) w53 := bstep (by repeat' (first | with_reducible exact Below.refl _ _ | with_reducible assumption | with_reducible refine below_drew ?_)) b53
               have V53 := Lib.hid h53
               clear h53
               replace qHW0 := cell_below (HW.out.c0) hb53
               replace qHW1 := cell_below (HW.out.c1) hb53)
            | (go_at_call 57
               refine (iadd_any (fitI (4294967296 * z)) H _ _ _ (HW.out.2.step (by repeat' (first | with_reducible exact Below.refl _ _ | with_reducible assumption | with_reducible refine below_drew ?_))) (V53.out.step (by repeat' (first | with_reducible exact Below.refl _ _ | with_reducible assumption | with_reducible refine below_drew ?_))) HFB.out (tiny (by omega))).mono ?_
               rintro e w54 ⟨v54, rfl, h54, b54⟩
               obtain ⟨d54, A54, n54, c54, rfl⟩ := h54.shape
               have hb54 : Below ((w52.setCell ⟨w.heap.size, 0, none⟩ (.bool d52)).setCell ⟨w.heap.size, 1, none⟩ (.slice A52 n52 c52)).heap.size ((w52.setCell ⟨w.heap.size, 0, none⟩ (.bool d52)).setCell ⟨w.heap.size, 1, none⟩ (.slice A52 n52 c52)) w54 := bstep (by repeat' (first | with_reducible exact Below.refl _ _ | with_reducible assumption | with_reducible refine below_drew ?_)) b54
               replace V53 := Lib.hid (V53.out.step (by first | exact b54 | exact undrew b54 | exact undrew (undrew b54)))
               have V54 := Lib.hid h54
               clear h54
               replace qHW0 := cell_below (HW.out.c0) hb54
               replace qHW1 := cell_below (HW.out.c1) hb54
               replace HW := Lib.hid (HW.out.below hb54)
               replace R0 := Lib.hid (R0.out.below hb54)
               replace HB := Lib.hid (bstep HB.out hb54)
               replace V51 := Lib.hid (V51.out.step hb54)
               replace V52 := Lib.hid (V52.out.step hb54)
               clear b53 hb53 b54 hb54
               have hne1 := HNE.out
               have sHWb0 := HW.out.c0
               have tHWb0 := HW.out.1.f0
               have sHWb1 := HW.out.c1
               have tHWb1 := HW.out.1.f1
               have BK := Lib.hid HW.out.1
               have NB := Lib.hid (HoldI.made V54.out HW.out.1)
               replace R0 := Lib.hid (R0.out.off (u := .bool d54) (u' := .slice A54 n54 c54) (g := w.heap.size) (by omega))
               replace HB := Lib.hid (below_off (u := .bool d54) (u' := .slice A54 n54 c54) (g := w.heap.size) HB.out (by omega))
               replace V51 := Lib.hid (V51.out.st (u := .bool d54) (u' := .slice A54 n54 c54) BK.out)
               replace V52 := Lib.hid (V52.out.st (u := .bool d54) (u' := .slice A54 n54 c54) BK.out)
               replace V53 := Lib.hid (V53.out.st (u := .bool d54) (u' := .slice A54 n54 c54) BK.out)
               replace V54 := Lib.hid (V54.out.st (u := .bool d54) (u' := .slice A54 n54 c54) BK.out)
               clear HW BK
               have HW := NB
               clear NB
               clear hne1))
        all_goals
          try clear HFB
          try clear HNE
          try clear hwl
          try clear HZL
          try clear HD
          try clear HX0
          try clear HHI
          try clear HLO
          try clear HIX
          try clear hix
          try clear hwH
          try clear qHW0
          try clear qHW1
          clear V51
          clear V52
          clear V53
          clear V54
          go_wp2_with fail
          go_roundw
          case measure => simp [intOf]; omega
          case rel => exact ⟨k + 1, wd1 z H, _, _, _, _, by omega, by go_num, HW, HS2, R0, HB⟩
    · obtain rfl : k = 2 := by omega
      rw [StW.two HST.out] at HW
      clear HST HIX HHI HLO HX0 HD
      have gR00 := R0.out.c0
      have yR00 := R0.out.f0
      have gR01 := R0.out.c1
      have yR01 := R0.out.f1
      have gHW0 := HW.out.c0
      have gHW1 := HW.out.c1
      have HF := Lib.hid (retI (HW.out.2) R0.out HB.out (by omega))
      clear HW R0 HB
      go_wp2_with fail
      exact bodyPost_ret (v := .agg #[.bool d0, .slice A0 n0 c0]) (by simp [results, Tryz.results52, go_sem, gR00, gR01]) rfl ⟨_, rfl, HF.out.1, HF.out.2.1⟩
end Go.Proofs.YtgfhniiidejmoaaGreatDoor
