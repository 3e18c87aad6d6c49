/- Layer 4's laws: FracField. -/
import Derived.Test.YtocooajlfpngdaaGreatDoorA40
namespace Go.Proofs.YtocooajlfpngdaaGreatDoor
open Go.RowKit
set_option linter.unusedVariables false

set_option maxRecDepth 100000 in
set_option maxHeartbeats 8000000 in
theorem fracField_law (A0 : Option Addr) (n0 c0 : Nat) (zs : List Int) (w : World) (hI : InI w A0 n0 zs) (hn : n0 ≤ 9223372036854775807) :
    Calls Tryz.prog 8 #[.slice A0 n0 c0] w (fun e w' => e = .returned (.bool true) ∧ Below w.heap.size w w') := by
  have HI := Lib.hid hI
  clear hI
  have HB := Lib.hid (Below.refl w.heap.size w)
  go_enter Tryz.func8, Tryz.ntmps8
  go_wp2_with fail
  refine (gfrac_any A0 n0 c0 0 zs _ HI.out hn (by omega) (by omega)).mono ?_
  rintro e w51 ⟨x51, hx, v, rfl, h, b⟩
  obtain ⟨d51, A51, n51, c51, e51, E51, m51, f51, rfl⟩ := h.shape
  have z51 := b.size
  replace z51 := Lib.hid z51
  replace HI := Lib.hid (HI.out.below b)
  replace HB := Lib.hid (bstep HB.out b)
  have V51 := Lib.hid h
  have S51 := Lib.hid (fr_sz hx)
  clear h b hx
  go_wp2_with fail
  refine (of_law x51 _ _ V51.out (S51.out.inF (by omega))).mono ?_
  rintro e w52 ⟨v, rfl, h, b⟩
  obtain ⟨d52, A52, n52, c52, e52, E52, m52, f52, rfl⟩ := h.shape
  have z52 := b.size
  replace z52 := Lib.hid z52
  replace HI := Lib.hid (HI.out.below b)
  replace HB := Lib.hid (bstep HB.out b)
  replace V51 := Lib.hid (V51.out.step b)
  have V52 := Lib.hid h
  clear h b
  clear V51
  have h := HoldQ.new V52.out
  have b := al_below w52 (.cells #[.bool d52, .slice A52 n52 c52, .bool e52, .slice E52 m52 f52] 36)
  replace HI := Lib.hid (HI.out.below b)
  replace HB := Lib.hid (bstep HB.out b)
  clear b
  have H52 := Lib.hid h
  clear h V52
  have SB52 := Lib.hid (show Sz 1300 x51 from S51.out)
  go_wp2_with fail
  refine (gfrac_any A0 n0 c0 4 zs _ HI.out hn (by omega) (by omega)).mono ?_
  rintro e w53 ⟨x53, hx, v, rfl, h, b⟩
  obtain ⟨d53, A53, n53, c53, e53, E53, m53, f53, rfl⟩ := h.shape
  have z53 := b.size
  simp only [World.size_alloc] at z53
  replace z53 := Lib.hid z53
  replace HI := Lib.hid (HI.out.below b)
  replace HB := Lib.hid (bstep HB.out b)
  replace H52 := Lib.hid (H52.out.below b)
  have V53 := Lib.hid h
  have S53 := Lib.hid (fr_sz hx)
  clear h b hx
  go_wp2_with fail
  refine (of_law x53 _ _ V53.out (S53.out.inF (by omega))).mono ?_
  rintro e w54 ⟨v, rfl, h, b⟩
  obtain ⟨d54, A54, n54, c54, e54, E54, m54, f54, rfl⟩ := h.shape
  have z54 := b.size
  replace z54 := Lib.hid z54
  replace HI := Lib.hid (HI.out.below b)
  replace HB := Lib.hid (bstep HB.out b)
  replace H52 := Lib.hid (H52.out.below b)
  replace V53 := Lib.hid (V53.out.step b)
  have V54 := Lib.hid h
  clear h b
  clear V53
  have h := HoldQ.new V54.out
  have b := al_below w54 (.cells #[.bool d54, .slice A54 n54 c54, .bool e54, .slice E54 m54 f54] 36)
  replace HI := Lib.hid (HI.out.below b)
  replace HB := Lib.hid (bstep HB.out b)
  replace H52 := Lib.hid (H52.out.below b)
  clear b
  have H54 := Lib.hid h
  clear h V54
  have SB54 := Lib.hid (show Sz 1300 x53 from S53.out)
  go_wp2_with fail
  refine (gfrac_any A0 n0 c0 8 zs _ HI.out hn (by omega) (by omega)).mono ?_
  rintro e w55 ⟨x55, hx, v, rfl, h, b⟩
  obtain ⟨d55, A55, n55, c55, e55, E55, m55, f55, rfl⟩ := h.shape
  have z55 := b.size
  simp only [World.size_alloc] at z55
  replace z55 := Lib.hid z55
  replace HI := Lib.hid (HI.out.below b)
  replace HB := Lib.hid (bstep HB.out b)
  replace H52 := Lib.hid (H52.out.below b)
  replace H54 := Lib.hid (H54.out.below b)
  have V55 := Lib.hid h
  have S55 := Lib.hid (fr_sz hx)
  clear h b hx
  go_wp2_with fail
  refine (of_law x55 _ _ V55.out (S55.out.inF (by omega))).mono ?_
  rintro e w56 ⟨v, rfl, h, b⟩
  obtain ⟨d56, A56, n56, c56, e56, E56, m56, f56, rfl⟩ := h.shape
  have z56 := b.size
  replace z56 := Lib.hid z56
  replace HI := Lib.hid (HI.out.below b)
  replace HB := Lib.hid (bstep HB.out b)
  replace H52 := Lib.hid (H52.out.below b)
  replace H54 := Lib.hid (H54.out.below b)
  replace V55 := Lib.hid (V55.out.step b)
  have V56 := Lib.hid h
  clear h b
  clear V55
  have h := HoldQ.new V56.out
  have b := al_below w56 (.cells #[.bool d56, .slice A56 n56 c56, .bool e56, .slice E56 m56 f56] 36)
  replace HI := Lib.hid (HI.out.below b)
  replace HB := Lib.hid (bstep HB.out b)
  replace H52 := Lib.hid (H52.out.below b)
  replace H54 := Lib.hid (H54.out.below b)
  clear b
  have H56 := Lib.hid h
  clear h V56
  have SB56 := Lib.hid (show Sz 1300 x55 from S55.out)
  clear HI
  clear hn
  have gH520 := H52.out.c0
  have gH521 := H52.out.c1
  have gH522 := H52.out.c2
  have gH523 := H52.out.c3
  have gH540 := H54.out.c0
  have gH541 := H54.out.c1
  have gH542 := H54.out.c2
  have gH543 := H54.out.c3
  go_wp2_with fail
  refine (fadd_sz H52.out.2 H54.out.2 SB52.out SB54.out (by omega)).mono ?_
  rintro e w57 ⟨v, rfl, h, b⟩
  obtain ⟨d57, A57, n57, c57, e57, E57, m57, f57, rfl⟩ := h.shape
  clear gH520 gH521 gH522 gH523 gH540 gH541 gH542 gH543
  have z57 := b.size
  simp only [World.size_alloc] at z57
  replace z57 := Lib.hid z57
  replace HB := Lib.hid (bstep HB.out b)
  replace H52 := Lib.hid (H52.out.below b)
  replace H54 := Lib.hid (H54.out.below b)
  replace H56 := Lib.hid (H56.out.below b)
  have V57 := Lib.hid h
  clear h b
  have h := HoldQ.new V57.out
  have b := al_below w57 (.cells #[.bool d57, .slice A57 n57 c57, .bool e57, .slice E57 m57 f57] 36)
  replace HB := Lib.hid (bstep HB.out b)
  replace H52 := Lib.hid (H52.out.below b)
  replace H54 := Lib.hid (H54.out.below b)
  replace H56 := Lib.hid (H56.out.below b)
  clear b
  have H57 := Lib.hid h
  clear h V57
  have SB57 := Lib.hid (Sz.add SB52.out SB54.out)
  have gH540 := H54.out.c0
  have gH541 := H54.out.c1
  have gH542 := H54.out.c2
  have gH543 := H54.out.c3
  have gH520 := H52.out.c0
  have gH521 := H52.out.c1
  have gH522 := H52.out.c2
  have gH523 := H52.out.c3
  go_wp2_with fail
  refine (fadd_sz H54.out.2 H52.out.2 SB54.out SB52.out (by omega)).mono ?_
  rintro e w58 ⟨v, rfl, h, b⟩
  obtain ⟨d58, A58, n58, c58, e58, E58, m58, f58, rfl⟩ := h.shape
  clear gH540 gH541 gH542 gH543 gH520 gH521 gH522 gH523
  have z58 := b.size
  simp only [World.size_alloc] at z58
  replace z58 := Lib.hid z58
  replace HB := Lib.hid (bstep HB.out b)
  replace H52 := Lib.hid (H52.out.below b)
  replace H54 := Lib.hid (H54.out.below b)
  replace H56 := Lib.hid (H56.out.below b)
  replace H57 := Lib.hid (H57.out.below b)
  have V58 := Lib.hid h
  clear h b
  have h := HoldQ.new V58.out
  have b := al_below w58 (.cells #[.bool d58, .slice A58 n58 c58, .bool e58, .slice E58 m58 f58] 36)
  replace HB := Lib.hid (bstep HB.out b)
  replace H52 := Lib.hid (H52.out.below b)
  replace H54 := Lib.hid (H54.out.below b)
  replace H56 := Lib.hid (H56.out.below b)
  replace H57 := Lib.hid (H57.out.below b)
  clear b
  have H58 := Lib.hid h
  clear h V58
  have SB58 := Lib.hid (Sz.add SB54.out SB52.out)
  have gH520 := H52.out.c0
  have gH521 := H52.out.c1
  have gH522 := H52.out.c2
  have gH523 := H52.out.c3
  have gH540 := H54.out.c0
  have gH541 := H54.out.c1
  have gH542 := H54.out.c2
  have gH543 := H54.out.c3
  go_wp2_with fail
  refine (fmul_sz H52.out.2 H54.out.2 SB52.out SB54.out (by omega)).mono ?_
  rintro e w59 ⟨v, rfl, h, b⟩
  obtain ⟨d59, A59, n59, c59, e59, E59, m59, f59, rfl⟩ := h.shape
  clear gH520 gH521 gH522 gH523 gH540 gH541 gH542 gH543
  have z59 := b.size
  simp only [World.size_alloc] at z59
  replace z59 := Lib.hid z59
  replace HB := Lib.hid (bstep HB.out b)
  replace H52 := Lib.hid (H52.out.below b)
  replace H54 := Lib.hid (H54.out.below b)
  replace H56 := Lib.hid (H56.out.below b)
  replace H57 := Lib.hid (H57.out.below b)
  replace H58 := Lib.hid (H58.out.below b)
  have V59 := Lib.hid h
  clear h b
  have h := HoldQ.new V59.out
  have b := al_below w59 (.cells #[.bool d59, .slice A59 n59 c59, .bool e59, .slice E59 m59 f59] 36)
  replace HB := Lib.hid (bstep HB.out b)
  replace H52 := Lib.hid (H52.out.below b)
  replace H54 := Lib.hid (H54.out.below b)
  replace H56 := Lib.hid (H56.out.below b)
  replace H57 := Lib.hid (H57.out.below b)
  replace H58 := Lib.hid (H58.out.below b)
  clear b
  have H59 := Lib.hid h
  clear h V59
  have SB59 := Lib.hid (Sz.mul SB52.out SB54.out)
  have gH540 := H54.out.c0
  have gH541 := H54.out.c1
  have gH542 := H54.out.c2
  have gH543 := H54.out.c3
  have gH520 := H52.out.c0
  have gH521 := H52.out.c1
  have gH522 := H52.out.c2
  have gH523 := H52.out.c3
  go_wp2_with fail
  refine (fmul_sz H54.out.2 H52.out.2 SB54.out SB52.out (by omega)).mono ?_
  rintro e w60 ⟨v, rfl, h, b⟩
  obtain ⟨d60, A60, n60, c60, e60, E60, m60, f60, rfl⟩ := h.shape
  clear gH540 gH541 gH542 gH543 gH520 gH521 gH522 gH523
  have z60 := b.size
  simp only [World.size_alloc] at z60
  replace z60 := Lib.hid z60
  replace HB := Lib.hid (bstep HB.out b)
  replace H52 := Lib.hid (H52.out.below b)
  replace H54 := Lib.hid (H54.out.below b)
  replace H56 := Lib.hid (H56.out.below b)
  replace H57 := Lib.hid (H57.out.below b)
  replace H58 := Lib.hid (H58.out.below b)
  replace H59 := Lib.hid (H59.out.below b)
  have V60 := Lib.hid h
  clear h b
  have h := HoldQ.new V60.out
  have b := al_below w60 (.cells #[.bool d60, .slice A60 n60 c60, .bool e60, .slice E60 m60 f60] 36)
  replace HB := Lib.hid (bstep HB.out b)
  replace H52 := Lib.hid (H52.out.below b)
  replace H54 := Lib.hid (H54.out.below b)
  replace H56 := Lib.hid (H56.out.below b)
  replace H57 := Lib.hid (H57.out.below b)
  replace H58 := Lib.hid (H58.out.below b)
  replace H59 := Lib.hid (H59.out.below b)
  clear b
  have H60 := Lib.hid h
  clear h V60
  have SB60 := Lib.hid (Sz.mul SB54.out SB52.out)
  have gH570 := H57.out.c0
  have gH571 := H57.out.c1
  have gH572 := H57.out.c2
  have gH573 := H57.out.c3
  have gH580 := H58.out.c0
  have gH581 := H58.out.c1
  have gH582 := H58.out.c2
  have gH583 := H58.out.c3
  go_wp2_with fail
  refine (equal_sz H57.out.2 H58.out.2 (SB57.out.inF (by omega)) (by grind)).mono ?_
  rintro e w61 ⟨rfl, b⟩
  clear gH570 gH571 gH572 gH573 gH580 gH581 gH582 gH583
  have z61 := b.size
  simp only [World.size_alloc] at z61
  replace z61 := Lib.hid z61
  replace HB := Lib.hid (bstep HB.out b)
  replace H52 := Lib.hid (H52.out.below b)
  replace H54 := Lib.hid (H54.out.below b)
  replace H56 := Lib.hid (H56.out.below b)
  replace H57 := Lib.hid (H57.out.below b)
  replace H58 := Lib.hid (H58.out.below b)
  replace H59 := Lib.hid (H59.out.below b)
  replace H60 := Lib.hid (H60.out.below b)
  clear b
  have gH590 := H59.out.c0
  have gH591 := H59.out.c1
  have gH592 := H59.out.c2
  have gH593 := H59.out.c3
  have gH600 := H60.out.c0
  have gH601 := H60.out.c1
  have gH602 := H60.out.c2
  have gH603 := H60.out.c3
  go_wp2_with fail
  refine (equal_sz H59.out.2 H60.out.2 (SB59.out.inF (by omega)) (by grind)).mono ?_
  rintro e w62 ⟨rfl, b⟩
  clear gH590 gH591 gH592 gH593 gH600 gH601 gH602 gH603
  have z62 := b.size
  replace z62 := Lib.hid z62
  replace HB := Lib.hid (bstep HB.out b)
  replace H52 := Lib.hid (H52.out.below b)
  replace H54 := Lib.hid (H54.out.below b)
  replace H56 := Lib.hid (H56.out.below b)
  replace H57 := Lib.hid (H57.out.below b)
  replace H58 := Lib.hid (H58.out.below b)
  replace H59 := Lib.hid (H59.out.below b)
  replace H60 := Lib.hid (H60.out.below b)
  clear b
  clear H58
  clear H60
  have gH570 := H57.out.c0
  have gH571 := H57.out.c1
  have gH572 := H57.out.c2
  have gH573 := H57.out.c3
  have gH540 := H54.out.c0
  have gH541 := H54.out.c1
  have gH542 := H54.out.c2
  have gH543 := H54.out.c3
  go_wp2_with fail
  refine (fsub_sz H57.out.2 H54.out.2 SB57.out SB54.out (by omega)).mono ?_
  rintro e w63 ⟨v, rfl, h, b⟩
  obtain ⟨d63, A63, n63, c63, e63, E63, m63, f63, rfl⟩ := h.shape
  clear gH570 gH571 gH572 gH573 gH540 gH541 gH542 gH543
  have z63 := b.size
  replace z63 := Lib.hid z63
  replace HB := Lib.hid (bstep HB.out b)
  replace H52 := Lib.hid (H52.out.below b)
  replace H54 := Lib.hid (H54.out.below b)
  replace H56 := Lib.hid (H56.out.below b)
  replace H57 := Lib.hid (H57.out.below b)
  replace H59 := Lib.hid (H59.out.below b)
  have V63 := Lib.hid h
  clear h b
  have h := HoldQ.new V63.out
  have b := al_below w63 (.cells #[.bool d63, .slice A63 n63 c63, .bool e63, .slice E63 m63 f63] 36)
  replace HB := Lib.hid (bstep HB.out b)
  replace H52 := Lib.hid (H52.out.below b)
  replace H54 := Lib.hid (H54.out.below b)
  replace H56 := Lib.hid (H56.out.below b)
  replace H57 := Lib.hid (H57.out.below b)
  replace H59 := Lib.hid (H59.out.below b)
  clear b
  have H63 := Lib.hid h
  clear h V63
  have SB63 := Lib.hid (Sz.add SB57.out (Sz.neg SB54.out))
  have gH630 := H63.out.c0
  have gH631 := H63.out.c1
  have gH632 := H63.out.c2
  have gH633 := H63.out.c3
  have gH520 := H52.out.c0
  have gH521 := H52.out.c1
  have gH522 := H52.out.c2
  have gH523 := H52.out.c3
  go_wp2_with fail
  refine (equal_sz H63.out.2 H52.out.2 (SB63.out.inF (by omega)) (by grind)).mono ?_
  rintro e w64 ⟨rfl, b⟩
  clear gH630 gH631 gH632 gH633 gH520 gH521 gH522 gH523
  have z64 := b.size
  simp only [World.size_alloc] at z64
  replace z64 := Lib.hid z64
  replace HB := Lib.hid (bstep HB.out b)
  replace H52 := Lib.hid (H52.out.below b)
  replace H54 := Lib.hid (H54.out.below b)
  replace H56 := Lib.hid (H56.out.below b)
  replace H57 := Lib.hid (H57.out.below b)
  replace H59 := Lib.hid (H59.out.below b)
  replace H63 := Lib.hid (H63.out.below b)
  clear b
  clear H63
  by_cases hz : x53.num = 0
  · have hr : cmpI' x53.num 0 = 0 := by rw [hz]; rfl
    have gH540 := H54.out.c0
    have gH541 := H54.out.c1
    have gH542 := H54.out.c2
    have gH543 := H54.out.c3
    go_wp2_with fail
    refine (fsign_any x53 _ _ H54.out.2 (SB54.out.inF (by omega)) 0 hr).mono ?_
    rintro e w65 ⟨rfl, b⟩
    clear gH540 gH541 gH542 gH543
    have z65 := b.size
    replace z65 := Lib.hid z65
    replace HB := Lib.hid (bstep HB.out b)
    replace H52 := Lib.hid (H52.out.below b)
    replace H54 := Lib.hid (H54.out.below b)
    replace H56 := Lib.hid (H56.out.below b)
    replace H57 := Lib.hid (H57.out.below b)
    replace H59 := Lib.hid (H59.out.below b)
    clear b
    clear hr hz
    have gH570 := H57.out.c0
    have gH571 := H57.out.c1
    have gH572 := H57.out.c2
    have gH573 := H57.out.c3
    have gH560 := H56.out.c0
    have gH561 := H56.out.c1
    have gH562 := H56.out.c2
    have gH563 := H56.out.c3
    go_wp2_with fail
    refine (fadd_sz H57.out.2 H56.out.2 SB57.out SB56.out (by omega)).mono ?_
    rintro e w66 ⟨v, rfl, h, b⟩
    obtain ⟨d66, A66, n66, c66, e66, E66, m66, f66, rfl⟩ := h.shape
    clear gH570 gH571 gH572 gH573 gH560 gH561 gH562 gH563
    have z66 := b.size
    replace z66 := Lib.hid z66
    replace HB := Lib.hid (bstep HB.out b)
    replace H52 := Lib.hid (H52.out.below b)
    replace H54 := Lib.hid (H54.out.below b)
    replace H56 := Lib.hid (H56.out.below b)
    replace H57 := Lib.hid (H57.out.below b)
    replace H59 := Lib.hid (H59.out.below b)
    have V66 := Lib.hid h
    clear h b
    have h := HoldQ.new V66.out
    have b := al_below w66 (.cells #[.bool d66, .slice A66 n66 c66, .bool e66, .slice E66 m66 f66] 36)
    replace HB := Lib.hid (bstep HB.out b)
    replace H52 := Lib.hid (H52.out.below b)
    replace H54 := Lib.hid (H54.out.below b)
    replace H56 := Lib.hid (H56.out.below b)
    replace H57 := Lib.hid (H57.out.below b)
    replace H59 := Lib.hid (H59.out.below b)
    clear b
    have H66 := Lib.hid h
    clear h V66
    have SB66 := Lib.hid (Sz.add SB57.out SB56.out)
    have gH540 := H54.out.c0
    have gH541 := H54.out.c1
    have gH542 := H54.out.c2
    have gH543 := H54.out.c3
    have gH560 := H56.out.c0
    have gH561 := H56.out.c1
    have gH562 := H56.out.c2
    have gH563 := H56.out.c3
    go_wp2_with fail
    refine (fadd_sz H54.out.2 H56.out.2 SB54.out SB56.out (by omega)).mono ?_
    rintro e w67 ⟨v, rfl, h, b⟩
    obtain ⟨d67, A67, n67, c67, e67, E67, m67, f67, rfl⟩ := h.shape
    clear gH540 gH541 gH542 gH543 gH560 gH561 gH562 gH563
    have z67 := b.size
    simp only [World.size_alloc] at z67
    replace z67 := Lib.hid z67
    replace HB := Lib.hid (bstep HB.out b)
    replace H52 := Lib.hid (H52.out.below b)
    replace H54 := Lib.hid (H54.out.below b)
    replace H56 := Lib.hid (H56.out.below b)
    replace H57 := Lib.hid (H57.out.below b)
    replace H59 := Lib.hid (H59.out.below b)
    replace H66 := Lib.hid (H66.out.below b)
    have V67 := Lib.hid h
    clear h b
    have h := HoldQ.new V67.out
    have b := al_below w67 (.cells #[.bool d67, .slice A67 n67 c67, .bool e67, .slice E67 m67 f67] 36)
    replace HB := Lib.hid (bstep HB.out b)
    replace H52 := Lib.hid (H52.out.below b)
    replace H54 := Lib.hid (H54.out.below b)
    replace H56 := Lib.hid (H56.out.below b)
    replace H57 := Lib.hid (H57.out.below b)
    replace H59 := Lib.hid (H59.out.below b)
    replace H66 := Lib.hid (H66.out.below b)
    clear b
    have H67 := Lib.hid h
    clear h V67
    have SB67 := Lib.hid (Sz.add SB54.out SB56.out)
    have gH520 := H52.out.c0
    have gH521 := H52.out.c1
    have gH522 := H52.out.c2
    have gH523 := H52.out.c3
    have gH670 := H67.out.c0
    have gH671 := H67.out.c1
    have gH672 := H67.out.c2
    have gH673 := H67.out.c3
    go_wp2_with fail
    refine (fadd_sz H52.out.2 H67.out.2 SB52.out SB67.out (by omega)).mono ?_
    rintro e w68 ⟨v, rfl, h, b⟩
    obtain ⟨d68, A68, n68, c68, e68, E68, m68, f68, rfl⟩ := h.shape
    clear gH520 gH521 gH522 gH523 gH670 gH671 gH672 gH673
    have z68 := b.size
    simp only [World.size_alloc] at z68
    replace z68 := Lib.hid z68
    replace HB := Lib.hid (bstep HB.out b)
    replace H52 := Lib.hid (H52.out.below b)
    replace H54 := Lib.hid (H54.out.below b)
    replace H56 := Lib.hid (H56.out.below b)
    replace H57 := Lib.hid (H57.out.below b)
    replace H59 := Lib.hid (H59.out.below b)
    replace H66 := Lib.hid (H66.out.below b)
    replace H67 := Lib.hid (H67.out.below b)
    have V68 := Lib.hid h
    clear h b
    have h := HoldQ.new V68.out
    have b := al_below w68 (.cells #[.bool d68, .slice A68 n68 c68, .bool e68, .slice E68 m68 f68] 36)
    replace HB := Lib.hid (bstep HB.out b)
    replace H52 := Lib.hid (H52.out.below b)
    replace H54 := Lib.hid (H54.out.below b)
    replace H56 := Lib.hid (H56.out.below b)
    replace H57 := Lib.hid (H57.out.below b)
    replace H59 := Lib.hid (H59.out.below b)
    replace H66 := Lib.hid (H66.out.below b)
    replace H67 := Lib.hid (H67.out.below b)
    clear b
    have H68 := Lib.hid h
    clear h V68
    have SB68 := Lib.hid (Sz.add SB52.out SB67.out)
    have gH660 := H66.out.c0
    have gH661 := H66.out.c1
    have gH662 := H66.out.c2
    have gH663 := H66.out.c3
    have gH680 := H68.out.c0
    have gH681 := H68.out.c1
    have gH682 := H68.out.c2
    have gH683 := H68.out.c3
    go_wp2_with fail
    refine (equal_sz H66.out.2 H68.out.2 (SB66.out.inF (by omega)) (by grind)).mono ?_
    rintro e w69 ⟨rfl, b⟩
    clear gH660 gH661 gH662 gH663 gH680 gH681 gH682 gH683
    have z69 := b.size
    simp only [World.size_alloc] at z69
    replace z69 := Lib.hid z69
    replace HB := Lib.hid (bstep HB.out b)
    replace H52 := Lib.hid (H52.out.below b)
    replace H54 := Lib.hid (H54.out.below b)
    replace H56 := Lib.hid (H56.out.below b)
    replace H57 := Lib.hid (H57.out.below b)
    replace H59 := Lib.hid (H59.out.below b)
    replace H66 := Lib.hid (H66.out.below b)
    replace H67 := Lib.hid (H67.out.below b)
    replace H68 := Lib.hid (H68.out.below b)
    clear b
    clear H68
    have gH570 := H57.out.c0
    have gH571 := H57.out.c1
    have gH572 := H57.out.c2
    have gH573 := H57.out.c3
    have gH560 := H56.out.c0
    have gH561 := H56.out.c1
    have gH562 := H56.out.c2
    have gH563 := H56.out.c3
    go_wp2_with fail
    refine (fmul_sz H57.out.2 H56.out.2 SB57.out SB56.out (by omega)).mono ?_
    rintro e w70 ⟨v, rfl, h, b⟩
    obtain ⟨d70, A70, n70, c70, e70, E70, m70, f70, rfl⟩ := h.shape
    clear gH570 gH571 gH572 gH573 gH560 gH561 gH562 gH563
    have z70 := b.size
    replace z70 := Lib.hid z70
    replace HB := Lib.hid (bstep HB.out b)
    replace H52 := Lib.hid (H52.out.below b)
    replace H54 := Lib.hid (H54.out.below b)
    replace H56 := Lib.hid (H56.out.below b)
    replace H57 := Lib.hid (H57.out.below b)
    replace H59 := Lib.hid (H59.out.below b)
    replace H66 := Lib.hid (H66.out.below b)
    replace H67 := Lib.hid (H67.out.below b)
    have V70 := Lib.hid h
    clear h b
    have h := HoldQ.new V70.out
    have b := al_below w70 (.cells #[.bool d70, .slice A70 n70 c70, .bool e70, .slice E70 m70 f70] 36)
    replace HB := Lib.hid (bstep HB.out b)
    replace H52 := Lib.hid (H52.out.below b)
    replace H54 := Lib.hid (H54.out.below b)
    replace H56 := Lib.hid (H56.out.below b)
    replace H57 := Lib.hid (H57.out.below b)
    replace H59 := Lib.hid (H59.out.below b)
    replace H66 := Lib.hid (H66.out.below b)
    replace H67 := Lib.hid (H67.out.below b)
    clear b
    have H70 := Lib.hid h
    clear h V70
    have SB70 := Lib.hid (Sz.mul SB57.out SB56.out)
    clear H57
    have gH520 := H52.out.c0
    have gH521 := H52.out.c1
    have gH522 := H52.out.c2
    have gH523 := H52.out.c3
    have gH560 := H56.out.c0
    have gH561 := H56.out.c1
    have gH562 := H56.out.c2
    have gH563 := H56.out.c3
    go_wp2_with fail
    refine (fmul_sz H52.out.2 H56.out.2 SB52.out SB56.out (by omega)).mono ?_
    rintro e w71 ⟨v, rfl, h, b⟩
    obtain ⟨d71, A71, n71, c71, e71, E71, m71, f71, rfl⟩ := h.shape
    clear gH520 gH521 gH522 gH523 gH560 gH561 gH562 gH563
    have z71 := b.size
    simp only [World.size_alloc] at z71
    replace z71 := Lib.hid z71
    replace HB := Lib.hid (bstep HB.out b)
    replace H52 := Lib.hid (H52.out.below b)
    replace H54 := Lib.hid (H54.out.below b)
    replace H56 := Lib.hid (H56.out.below b)
    replace H59 := Lib.hid (H59.out.below b)
    replace H66 := Lib.hid (H66.out.below b)
    replace H67 := Lib.hid (H67.out.below b)
    replace H70 := Lib.hid (H70.out.below b)
    have V71 := Lib.hid h
    clear h b
    have h := HoldQ.new V71.out
    have b := al_below w71 (.cells #[.bool d71, .slice A71 n71 c71, .bool e71, .slice E71 m71 f71] 36)
    replace HB := Lib.hid (bstep HB.out b)
    replace H52 := Lib.hid (H52.out.below b)
    replace H54 := Lib.hid (H54.out.below b)
    replace H56 := Lib.hid (H56.out.below b)
    replace H59 := Lib.hid (H59.out.below b)
    replace H66 := Lib.hid (H66.out.below b)
    replace H67 := Lib.hid (H67.out.below b)
    replace H70 := Lib.hid (H70.out.below b)
    clear b
    have H71 := Lib.hid h
    clear h V71
    have SB71 := Lib.hid (Sz.mul SB52.out SB56.out)
    have gH540 := H54.out.c0
    have gH541 := H54.out.c1
    have gH542 := H54.out.c2
    have gH543 := H54.out.c3
    have gH560 := H56.out.c0
    have gH561 := H56.out.c1
    have gH562 := H56.out.c2
    have gH563 := H56.out.c3
    go_wp2_with fail
    refine (fmul_sz H54.out.2 H56.out.2 SB54.out SB56.out (by omega)).mono ?_
    rintro e w72 ⟨v, rfl, h, b⟩
    obtain ⟨d72, A72, n72, c72, e72, E72, m72, f72, rfl⟩ := h.shape
    clear gH540 gH541 gH542 gH543 gH560 gH561 gH562 gH563
    have z72 := b.size
    simp only [World.size_alloc] at z72
    replace z72 := Lib.hid z72
    replace HB := Lib.hid (bstep HB.out b)
    replace H52 := Lib.hid (H52.out.below b)
    replace H54 := Lib.hid (H54.out.below b)
    replace H56 := Lib.hid (H56.out.below b)
    replace H59 := Lib.hid (H59.out.below b)
    replace H66 := Lib.hid (H66.out.below b)
    replace H67 := Lib.hid (H67.out.below b)
    replace H70 := Lib.hid (H70.out.below b)
    replace H71 := Lib.hid (H71.out.below b)
    have V72 := Lib.hid h
    clear h b
    have z51_ := z51.out
    have z52_ := z52.out
    have z53_ := z53.out
    have z54_ := z54.out
    have z55_ := z55.out
    have z56_ := z56.out
    have z57_ := z57.out
    have z58_ := z58.out
    have z59_ := z59.out
    have z60_ := z60.out
    have z61_ := z61.out
    have z62_ := z62.out
    have z63_ := z63.out
    have z64_ := z64.out
    have z65_ := z65.out
    have z66_ := z66.out
    have z67_ := z67.out
    have z68_ := z68.out
    have z69_ := z69.out
    have z70_ := z70.out
    have z71_ := z71.out
    have z72_ := z72.out
    have sH67a0 := H67.out.c0
    have tH67a0 := H67.out.1.f0
    have sH67a1 := H67.out.c1
    have tH67a1 := H67.out.1.f1
    have sH67a2 := H67.out.c2
    have tH67a2 := H67.out.1.f2
    have sH67a3 := H67.out.c3
    have tH67a3 := H67.out.1.f3
    have BK := Lib.hid H67.out.1
    have NB := Lib.hid (HoldQ.made4 V72.out H67.out.1)
    replace HB := Lib.hid (below_off4 (a1 := .bool d72) (a2 := .slice A72 n72 c72) (a3 := .bool e72) (a4 := .slice E72 m72 f72) (g := w67.heap.size) HB.out (by omega))
    replace H52 := Lib.hid (H52.out.off4 (a1 := .bool d72) (a2 := .slice A72 n72 c72) (a3 := .bool e72) (a4 := .slice E72 m72 f72) BK.out (by omega))
    replace H54 := Lib.hid (H54.out.off4 (a1 := .bool d72) (a2 := .slice A72 n72 c72) (a3 := .bool e72) (a4 := .slice E72 m72 f72) BK.out (by omega))
    replace H56 := Lib.hid (H56.out.off4 (a1 := .bool d72) (a2 := .slice A72 n72 c72) (a3 := .bool e72) (a4 := .slice E72 m72 f72) BK.out (by omega))
    replace H59 := Lib.hid (H59.out.off4 (a1 := .bool d72) (a2 := .slice A72 n72 c72) (a3 := .bool e72) (a4 := .slice E72 m72 f72) BK.out (by omega))
    replace H66 := Lib.hid (H66.out.off4 (a1 := .bool d72) (a2 := .slice A72 n72 c72) (a3 := .bool e72) (a4 := .slice E72 m72 f72) BK.out (by omega))
    replace H70 := Lib.hid (H70.out.off4 (a1 := .bool d72) (a2 := .slice A72 n72 c72) (a3 := .bool e72) (a4 := .slice E72 m72 f72) BK.out (by omega))
    replace H71 := Lib.hid (H71.out.off4 (a1 := .bool d72) (a2 := .slice A72 n72 c72) (a3 := .bool e72) (a4 := .slice E72 m72 f72) BK.out (by omega))
    replace V72 := Lib.hid (V72.out.st4 (a1 := .bool d72) (a2 := .slice A72 n72 c72) (a3 := .bool e72) (a4 := .slice E72 m72 f72) BK.out)
    clear H67 BK
    have H67 := NB
    clear NB
    clear z51_ z52_ z53_ z54_ z55_ z56_ z57_ z58_ z59_ z60_ z61_ z62_ z63_ z64_ z65_ z66_ z67_ z68_ z69_ z70_ z71_ z72_
    clear V72
    have SB72 := Lib.hid (Sz.mul SB54.out SB56.out)
    clear H54
    have gH710 := H71.out.c0
    have gH711 := H71.out.c1
    have gH712 := H71.out.c2
    have gH713 := H71.out.c3
    have gH670 := H67.out.c0
    have gH671 := H67.out.c1
    have gH672 := H67.out.c2
    have gH673 := H67.out.c3
    go_wp2_with fail
    refine (fadd_sz H71.out.2 H67.out.2 SB71.out SB72.out (by omega)).mono ?_
    rintro e w73 ⟨v, rfl, h, b⟩
    obtain ⟨d73, A73, n73, c73, e73, E73, m73, f73, rfl⟩ := h.shape
    clear gH710 gH711 gH712 gH713 gH670 gH671 gH672 gH673
    have z73 := b.size
    simp only [size_setc] at z73
    replace z73 := Lib.hid z73
    replace HB := Lib.hid (bstep HB.out b)
    replace H52 := Lib.hid (H52.out.below b)
    replace H56 := Lib.hid (H56.out.below b)
    replace H59 := Lib.hid (H59.out.below b)
    replace H66 := Lib.hid (H66.out.below b)
    replace H67 := Lib.hid (H67.out.below b)
    replace H70 := Lib.hid (H70.out.below b)
    replace H71 := Lib.hid (H71.out.below b)
    have V73 := Lib.hid h
    clear h b
    have h := HoldQ.new V73.out
    have b := al_below w73 (.cells #[.bool d73, .slice A73 n73 c73, .bool e73, .slice E73 m73 f73] 36)
    replace HB := Lib.hid (bstep HB.out b)
    replace H52 := Lib.hid (H52.out.below b)
    replace H56 := Lib.hid (H56.out.below b)
    replace H59 := Lib.hid (H59.out.below b)
    replace H66 := Lib.hid (H66.out.below b)
    replace H67 := Lib.hid (H67.out.below b)
    replace H70 := Lib.hid (H70.out.below b)
    replace H71 := Lib.hid (H71.out.below b)
    clear b
    have H73 := Lib.hid h
    clear h V73
    have SB73 := Lib.hid (Sz.add SB71.out SB72.out)
    have gH700 := H70.out.c0
    have gH701 := H70.out.c1
    have gH702 := H70.out.c2
    have gH703 := H70.out.c3
    have gH730 := H73.out.c0
    have gH731 := H73.out.c1
    have gH732 := H73.out.c2
    have gH733 := H73.out.c3
    go_wp2_with fail
    refine (equal_sz H70.out.2 H73.out.2 (SB70.out.inF (by omega)) (by grind)).mono ?_
    rintro e w74 ⟨rfl, b⟩
    clear gH700 gH701 gH702 gH703 gH730 gH731 gH732 gH733
    have z74 := b.size
    simp only [World.size_alloc] at z74
    replace z74 := Lib.hid z74
    replace HB := Lib.hid (bstep HB.out b)
    replace H52 := Lib.hid (H52.out.below b)
    replace H56 := Lib.hid (H56.out.below b)
    replace H59 := Lib.hid (H59.out.below b)
    replace H66 := Lib.hid (H66.out.below b)
    replace H67 := Lib.hid (H67.out.below b)
    replace H70 := Lib.hid (H70.out.below b)
    replace H71 := Lib.hid (H71.out.below b)
    replace H73 := Lib.hid (H73.out.below b)
    clear b
    clear H70
    clear H73
    clear H71
    have gH590 := H59.out.c0
    have gH591 := H59.out.c1
    have gH592 := H59.out.c2
    have gH593 := H59.out.c3
    have gH560 := H56.out.c0
    have gH561 := H56.out.c1
    have gH562 := H56.out.c2
    have gH563 := H56.out.c3
    go_wp2_with fail
    refine (fmul_sz H59.out.2 H56.out.2 SB59.out SB56.out (by omega)).mono ?_
    rintro e w75 ⟨v, rfl, h, b⟩
    obtain ⟨d75, A75, n75, c75, e75, E75, m75, f75, rfl⟩ := h.shape
    clear gH590 gH591 gH592 gH593 gH560 gH561 gH562 gH563
    have z75 := b.size
    replace z75 := Lib.hid z75
    replace HB := Lib.hid (bstep HB.out b)
    replace H52 := Lib.hid (H52.out.below b)
    replace H56 := Lib.hid (H56.out.below b)
    replace H59 := Lib.hid (H59.out.below b)
    replace H66 := Lib.hid (H66.out.below b)
    replace H67 := Lib.hid (H67.out.below b)
    have V75 := Lib.hid h
    clear h b
    have h := HoldQ.new V75.out
    have b := al_below w75 (.cells #[.bool d75, .slice A75 n75 c75, .bool e75, .slice E75 m75 f75] 36)
    replace HB := Lib.hid (bstep HB.out b)
    replace H52 := Lib.hid (H52.out.below b)
    replace H56 := Lib.hid (H56.out.below b)
    replace H59 := Lib.hid (H59.out.below b)
    replace H66 := Lib.hid (H66.out.below b)
    replace H67 := Lib.hid (H67.out.below b)
    clear b
    have H75 := Lib.hid h
    clear h V75
    have SB75 := Lib.hid (Sz.mul SB59.out SB56.out)
    clear H59
    clear H56
    have gH520 := H52.out.c0
    have gH521 := H52.out.c1
    have gH522 := H52.out.c2
    have gH523 := H52.out.c3
    have gH670 := H67.out.c0
    have gH671 := H67.out.c1
    have gH672 := H67.out.c2
    have gH673 := H67.out.c3
    go_wp2_with fail
    refine (fmul_sz H52.out.2 H67.out.2 SB52.out SB72.out (by omega)).mono ?_
    rintro e w76 ⟨v, rfl, h, b⟩
    obtain ⟨d76, A76, n76, c76, e76, E76, m76, f76, rfl⟩ := h.shape
    clear gH520 gH521 gH522 gH523 gH670 gH671 gH672 gH673
    have z76 := b.size
    simp only [World.size_alloc] at z76
    replace z76 := Lib.hid z76
    replace HB := Lib.hid (bstep HB.out b)
    replace H52 := Lib.hid (H52.out.below b)
    replace H66 := Lib.hid (H66.out.below b)
    replace H67 := Lib.hid (H67.out.below b)
    replace H75 := Lib.hid (H75.out.below b)
    have V76 := Lib.hid h
    clear h b
    have z51_ := z51.out
    have z52_ := z52.out
    have z53_ := z53.out
    have z54_ := z54.out
    have z55_ := z55.out
    have z56_ := z56.out
    have z57_ := z57.out
    have z58_ := z58.out
    have z59_ := z59.out
    have z60_ := z60.out
    have z61_ := z61.out
    have z62_ := z62.out
    have z63_ := z63.out
    have z64_ := z64.out
    have z65_ := z65.out
    have z66_ := z66.out
    have z67_ := z67.out
    have z68_ := z68.out
    have z69_ := z69.out
    have z70_ := z70.out
    have z71_ := z71.out
    have z72_ := z72.out
    have z73_ := z73.out
    have z74_ := z74.out
    have z75_ := z75.out
    have z76_ := z76.out
    have sH66b0 := H66.out.c0
    have tH66b0 := H66.out.1.f0
    have sH66b1 := H66.out.c1
    have tH66b1 := H66.out.1.f1
    have sH66b2 := H66.out.c2
    have tH66b2 := H66.out.1.f2
    have sH66b3 := H66.out.c3
    have tH66b3 := H66.out.1.f3
    have BK := Lib.hid H66.out.1
    have NB := Lib.hid (HoldQ.made4 V76.out H66.out.1)
    replace HB := Lib.hid (below_off4 (a1 := .bool d76) (a2 := .slice A76 n76 c76) (a3 := .bool e76) (a4 := .slice E76 m76 f76) (g := w66.heap.size) HB.out (by omega))
    replace H52 := Lib.hid (H52.out.off4 (a1 := .bool d76) (a2 := .slice A76 n76 c76) (a3 := .bool e76) (a4 := .slice E76 m76 f76) BK.out (by omega))
    replace H67 := Lib.hid (H67.out.off4 (a1 := .bool d76) (a2 := .slice A76 n76 c76) (a3 := .bool e76) (a4 := .slice E76 m76 f76) BK.out (by omega))
    replace H75 := Lib.hid (H75.out.off4 (a1 := .bool d76) (a2 := .slice A76 n76 c76) (a3 := .bool e76) (a4 := .slice E76 m76 f76) BK.out (by omega))
    replace V76 := Lib.hid (V76.out.st4 (a1 := .bool d76) (a2 := .slice A76 n76 c76) (a3 := .bool e76) (a4 := .slice E76 m76 f76) BK.out)
    clear H66 BK
    have H66 := NB
    clear NB
    clear z51_ z52_ z53_ z54_ z55_ z56_ z57_ z58_ z59_ z60_ z61_ z62_ z63_ z64_ z65_ z66_ z67_ z68_ z69_ z70_ z71_ z72_ z73_ z74_ z75_ z76_
    clear V76
    have SB76 := Lib.hid (Sz.mul SB52.out SB72.out)
    clear H52
    clear H67
    have gH750 := H75.out.c0
    have gH751 := H75.out.c1
    have gH752 := H75.out.c2
    have gH753 := H75.out.c3
    have gH660 := H66.out.c0
    have gH661 := H66.out.c1
    have gH662 := H66.out.c2
    have gH663 := H66.out.c3
    go_wp2_with fail
    refine (equal_sz H75.out.2 H66.out.2 (SB75.out.inF (by omega)) (by grind)).mono ?_
    rintro e w77 ⟨rfl, b⟩
    clear gH750 gH751 gH752 gH753 gH660 gH661 gH662 gH663
    have z77 := b.size
    simp only [size_setc] at z77
    replace z77 := Lib.hid z77
    replace HB := Lib.hid (bstep HB.out b)
    replace H66 := Lib.hid (H66.out.below b)
    replace H75 := Lib.hid (H75.out.below b)
    clear b
    clear H75
    clear H66
    go_wp2_with fail
    refine (lives_law _).mono ?_
    rintro e w78 ⟨rfl, b⟩
    have z78 := b.size
    replace z78 := Lib.hid z78
    replace HB := Lib.hid (bstep HB.out b)
    clear b
    have HF := HB.out
    clear HB
    go_wp2_with fail
    go_ret
    exact ⟨rfl, HF⟩
  · obtain ⟨r, hr⟩ : ∃ r, cmpI' x53.num 0 = r := ⟨_, rfl⟩
    have hr0 : r ≠ 0 := fun e => hz (by rw [e] at hr; unfold cmpI' at hr; repeat' split at hr <;> omega)
    have hr1 : (r == 0) = false := by simp [hr0]
    have HZ := Lib.hid hz
    have gH540 := H54.out.c0
    have gH541 := H54.out.c1
    have gH542 := H54.out.c2
    have gH543 := H54.out.c3
    go_wp2_with fail
    refine (fsign_any x53 _ _ H54.out.2 (SB54.out.inF (by omega)) r hr).mono ?_
    rintro e w65 ⟨rfl, b⟩
    clear gH540 gH541 gH542 gH543
    have z65 := b.size
    replace z65 := Lib.hid z65
    replace HB := Lib.hid (bstep HB.out b)
    replace H52 := Lib.hid (H52.out.below b)
    replace H54 := Lib.hid (H54.out.below b)
    replace H56 := Lib.hid (H56.out.below b)
    replace H57 := Lib.hid (H57.out.below b)
    replace H59 := Lib.hid (H59.out.below b)
    clear b
    clear hr hz
    have gH590 := H59.out.c0
    have gH591 := H59.out.c1
    have gH592 := H59.out.c2
    have gH593 := H59.out.c3
    have gH540 := H54.out.c0
    have gH541 := H54.out.c1
    have gH542 := H54.out.c2
    have gH543 := H54.out.c3
    go_wp2_with fail
    refine (fdiv_sz H59.out.2 H54.out.2 SB59.out SB54.out HZ.out x51 (by have := num_ne HZ.out; grind) (SB52.out.inF (by omega)) (by omega) (by omega)).mono ?_
    rintro e w66 ⟨v, rfl, h, b⟩
    obtain ⟨d66, A66, n66, c66, e66, E66, m66, f66, rfl⟩ := h.shape
    clear gH590 gH591 gH592 gH593 gH540 gH541 gH542 gH543
    have z66 := b.size
    replace z66 := Lib.hid z66
    replace HB := Lib.hid (bstep HB.out b)
    replace H52 := Lib.hid (H52.out.below b)
    replace H54 := Lib.hid (H54.out.below b)
    replace H56 := Lib.hid (H56.out.below b)
    replace H57 := Lib.hid (H57.out.below b)
    replace H59 := Lib.hid (H59.out.below b)
    have V66 := Lib.hid h
    clear h b
    have h := HoldQ.new V66.out
    have b := al_below w66 (.cells #[.bool d66, .slice A66 n66 c66, .bool e66, .slice E66 m66 f66] 36)
    replace HB := Lib.hid (bstep HB.out b)
    replace H52 := Lib.hid (H52.out.below b)
    replace H54 := Lib.hid (H54.out.below b)
    replace H56 := Lib.hid (H56.out.below b)
    replace H57 := Lib.hid (H57.out.below b)
    replace H59 := Lib.hid (H59.out.below b)
    clear b
    have H66 := Lib.hid h
    clear h V66
    have gH660 := H66.out.c0
    have gH661 := H66.out.c1
    have gH662 := H66.out.c2
    have gH663 := H66.out.c3
    have gH520 := H52.out.c0
    have gH521 := H52.out.c1
    have gH522 := H52.out.c2
    have gH523 := H52.out.c3
    go_wp2_with fail
    refine (equal_sz H66.out.2 H52.out.2 (SB52.out.inF (by omega)) (rfl)).mono ?_
    rintro e w67 ⟨rfl, b⟩
    clear gH660 gH661 gH662 gH663 gH520 gH521 gH522 gH523
    have z67 := b.size
    simp only [World.size_alloc] at z67
    replace z67 := Lib.hid z67
    replace HB := Lib.hid (bstep HB.out b)
    replace H52 := Lib.hid (H52.out.below b)
    replace H54 := Lib.hid (H54.out.below b)
    replace H56 := Lib.hid (H56.out.below b)
    replace H57 := Lib.hid (H57.out.below b)
    replace H59 := Lib.hid (H59.out.below b)
    replace H66 := Lib.hid (H66.out.below b)
    clear b
    clear H66
    clear HZ hr0 hr1
    have gH570 := H57.out.c0
    have gH571 := H57.out.c1
    have gH572 := H57.out.c2
    have gH573 := H57.out.c3
    have gH560 := H56.out.c0
    have gH561 := H56.out.c1
    have gH562 := H56.out.c2
    have gH563 := H56.out.c3
    go_wp2_with fail
    refine (fadd_sz H57.out.2 H56.out.2 SB57.out SB56.out (by omega)).mono ?_
    rintro e w68 ⟨v, rfl, h, b⟩
    obtain ⟨d68, A68, n68, c68, e68, E68, m68, f68, rfl⟩ := h.shape
    clear gH570 gH571 gH572 gH573 gH560 gH561 gH562 gH563
    have z68 := b.size
    replace z68 := Lib.hid z68
    replace HB := Lib.hid (bstep HB.out b)
    replace H52 := Lib.hid (H52.out.below b)
    replace H54 := Lib.hid (H54.out.below b)
    replace H56 := Lib.hid (H56.out.below b)
    replace H57 := Lib.hid (H57.out.below b)
    replace H59 := Lib.hid (H59.out.below b)
    have V68 := Lib.hid h
    clear h b
    have h := HoldQ.new V68.out
    have b := al_below w68 (.cells #[.bool d68, .slice A68 n68 c68, .bool e68, .slice E68 m68 f68] 36)
    replace HB := Lib.hid (bstep HB.out b)
    replace H52 := Lib.hid (H52.out.below b)
    replace H54 := Lib.hid (H54.out.below b)
    replace H56 := Lib.hid (H56.out.below b)
    replace H57 := Lib.hid (H57.out.below b)
    replace H59 := Lib.hid (H59.out.below b)
    clear b
    have H68 := Lib.hid h
    clear h V68
    have SB68 := Lib.hid (Sz.add SB57.out SB56.out)
    have gH540 := H54.out.c0
    have gH541 := H54.out.c1
    have gH542 := H54.out.c2
    have gH543 := H54.out.c3
    have gH560 := H56.out.c0
    have gH561 := H56.out.c1
    have gH562 := H56.out.c2
    have gH563 := H56.out.c3
    go_wp2_with fail
    refine (fadd_sz H54.out.2 H56.out.2 SB54.out SB56.out (by omega)).mono ?_
    rintro e w69 ⟨v, rfl, h, b⟩
    obtain ⟨d69, A69, n69, c69, e69, E69, m69, f69, rfl⟩ := h.shape
    clear gH540 gH541 gH542 gH543 gH560 gH561 gH562 gH563
    have z69 := b.size
    simp only [World.size_alloc] at z69
    replace z69 := Lib.hid z69
    replace HB := Lib.hid (bstep HB.out b)
    replace H52 := Lib.hid (H52.out.below b)
    replace H54 := Lib.hid (H54.out.below b)
    replace H56 := Lib.hid (H56.out.below b)
    replace H57 := Lib.hid (H57.out.below b)
    replace H59 := Lib.hid (H59.out.below b)
    replace H68 := Lib.hid (H68.out.below b)
    have V69 := Lib.hid h
    clear h b
    have h := HoldQ.new V69.out
    have b := al_below w69 (.cells #[.bool d69, .slice A69 n69 c69, .bool e69, .slice E69 m69 f69] 36)
    replace HB := Lib.hid (bstep HB.out b)
    replace H52 := Lib.hid (H52.out.below b)
    replace H54 := Lib.hid (H54.out.below b)
    replace H56 := Lib.hid (H56.out.below b)
    replace H57 := Lib.hid (H57.out.below b)
    replace H59 := Lib.hid (H59.out.below b)
    replace H68 := Lib.hid (H68.out.below b)
    clear b
    have H69 := Lib.hid h
    clear h V69
    have SB69 := Lib.hid (Sz.add SB54.out SB56.out)
    have gH520 := H52.out.c0
    have gH521 := H52.out.c1
    have gH522 := H52.out.c2
    have gH523 := H52.out.c3
    have gH690 := H69.out.c0
    have gH691 := H69.out.c1
    have gH692 := H69.out.c2
    have gH693 := H69.out.c3
    go_wp2_with fail
    refine (fadd_sz H52.out.2 H69.out.2 SB52.out SB69.out (by omega)).mono ?_
    rintro e w70 ⟨v, rfl, h, b⟩
    obtain ⟨d70, A70, n70, c70, e70, E70, m70, f70, rfl⟩ := h.shape
    clear gH520 gH521 gH522 gH523 gH690 gH691 gH692 gH693
    have z70 := b.size
    simp only [World.size_alloc] at z70
    replace z70 := Lib.hid z70
    replace HB := Lib.hid (bstep HB.out b)
    replace H52 := Lib.hid (H52.out.below b)
    replace H54 := Lib.hid (H54.out.below b)
    replace H56 := Lib.hid (H56.out.below b)
    replace H57 := Lib.hid (H57.out.below b)
    replace H59 := Lib.hid (H59.out.below b)
    replace H68 := Lib.hid (H68.out.below b)
    replace H69 := Lib.hid (H69.out.below b)
    have V70 := Lib.hid h
    clear h b
    have h := HoldQ.new V70.out
    have b := al_below w70 (.cells #[.bool d70, .slice A70 n70 c70, .bool e70, .slice E70 m70 f70] 36)
    replace HB := Lib.hid (bstep HB.out b)
    replace H52 := Lib.hid (H52.out.below b)
    replace H54 := Lib.hid (H54.out.below b)
    replace H56 := Lib.hid (H56.out.below b)
    replace H57 := Lib.hid (H57.out.below b)
    replace H59 := Lib.hid (H59.out.below b)
    replace H68 := Lib.hid (H68.out.below b)
    replace H69 := Lib.hid (H69.out.below b)
    clear b
    have H70 := Lib.hid h
    clear h V70
    have SB70 := Lib.hid (Sz.add SB52.out SB69.out)
    have gH680 := H68.out.c0
    have gH681 := H68.out.c1
    have gH682 := H68.out.c2
    have gH683 := H68.out.c3
    have gH700 := H70.out.c0
    have gH701 := H70.out.c1
    have gH702 := H70.out.c2
    have gH703 := H70.out.c3
    go_wp2_with fail
    refine (equal_sz H68.out.2 H70.out.2 (SB68.out.inF (by omega)) (by grind)).mono ?_
    rintro e w71 ⟨rfl, b⟩
    clear gH680 gH681 gH682 gH683 gH700 gH701 gH702 gH703
    have z71 := b.size
    simp only [World.size_alloc] at z71
    replace z71 := Lib.hid z71
    replace HB := Lib.hid (bstep HB.out b)
    replace H52 := Lib.hid (H52.out.below b)
    replace H54 := Lib.hid (H54.out.below b)
    replace H56 := Lib.hid (H56.out.below b)
    replace H57 := Lib.hid (H57.out.below b)
    replace H59 := Lib.hid (H59.out.below b)
    replace H68 := Lib.hid (H68.out.below b)
    replace H69 := Lib.hid (H69.out.below b)
    replace H70 := Lib.hid (H70.out.below b)
    clear b
    clear H70
    have gH570 := H57.out.c0
    have gH571 := H57.out.c1
    have gH572 := H57.out.c2
    have gH573 := H57.out.c3
    have gH560 := H56.out.c0
    have gH561 := H56.out.c1
    have gH562 := H56.out.c2
    have gH563 := H56.out.c3
    go_wp2_with fail
    refine (fmul_sz H57.out.2 H56.out.2 SB57.out SB56.out (by omega)).mono ?_
    rintro e w72 ⟨v, rfl, h, b⟩
    obtain ⟨d72, A72, n72, c72, e72, E72, m72, f72, rfl⟩ := h.shape
    clear gH570 gH571 gH572 gH573 gH560 gH561 gH562 gH563
    have z72 := b.size
    replace z72 := Lib.hid z72
    replace HB := Lib.hid (bstep HB.out b)
    replace H52 := Lib.hid (H52.out.below b)
    replace H54 := Lib.hid (H54.out.below b)
    replace H56 := Lib.hid (H56.out.below b)
    replace H57 := Lib.hid (H57.out.below b)
    replace H59 := Lib.hid (H59.out.below b)
    replace H68 := Lib.hid (H68.out.below b)
    replace H69 := Lib.hid (H69.out.below b)
    have V72 := Lib.hid h
    clear h b
    have h := HoldQ.new V72.out
    have b := al_below w72 (.cells #[.bool d72, .slice A72 n72 c72, .bool e72, .slice E72 m72 f72] 36)
    replace HB := Lib.hid (bstep HB.out b)
    replace H52 := Lib.hid (H52.out.below b)
    replace H54 := Lib.hid (H54.out.below b)
    replace H56 := Lib.hid (H56.out.below b)
    replace H57 := Lib.hid (H57.out.below b)
    replace H59 := Lib.hid (H59.out.below b)
    replace H68 := Lib.hid (H68.out.below b)
    replace H69 := Lib.hid (H69.out.below b)
    clear b
    have H72 := Lib.hid h
    clear h V72
    have SB72 := Lib.hid (Sz.mul SB57.out SB56.out)
    clear H57
    have gH520 := H52.out.c0
    have gH521 := H52.out.c1
    have gH522 := H52.out.c2
    have gH523 := H52.out.c3
    have gH560 := H56.out.c0
    have gH561 := H56.out.c1
    have gH562 := H56.out.c2
    have gH563 := H56.out.c3
    go_wp2_with fail
    refine (fmul_sz H52.out.2 H56.out.2 SB52.out SB56.out (by omega)).mono ?_
    rintro e w73 ⟨v, rfl, h, b⟩
    obtain ⟨d73, A73, n73, c73, e73, E73, m73, f73, rfl⟩ := h.shape
    clear gH520 gH521 gH522 gH523 gH560 gH561 gH562 gH563
    have z73 := b.size
    simp only [World.size_alloc] at z73
    replace z73 := Lib.hid z73
    replace HB := Lib.hid (bstep HB.out b)
    replace H52 := Lib.hid (H52.out.below b)
    replace H54 := Lib.hid (H54.out.below b)
    replace H56 := Lib.hid (H56.out.below b)
    replace H59 := Lib.hid (H59.out.below b)
    replace H68 := Lib.hid (H68.out.below b)
    replace H69 := Lib.hid (H69.out.below b)
    replace H72 := Lib.hid (H72.out.below b)
    have V73 := Lib.hid h
    clear h b
    have h := HoldQ.new V73.out
    have b := al_below w73 (.cells #[.bool d73, .slice A73 n73 c73, .bool e73, .slice E73 m73 f73] 36)
    replace HB := Lib.hid (bstep HB.out b)
    replace H52 := Lib.hid (H52.out.below b)
    replace H54 := Lib.hid (H54.out.below b)
    replace H56 := Lib.hid (H56.out.below b)
    replace H59 := Lib.hid (H59.out.below b)
    replace H68 := Lib.hid (H68.out.below b)
    replace H69 := Lib.hid (H69.out.below b)
    replace H72 := Lib.hid (H72.out.below b)
    clear b
    have H73 := Lib.hid h
    clear h V73
    have SB73 := Lib.hid (Sz.mul SB52.out SB56.out)
    have gH540 := H54.out.c0
    have gH541 := H54.out.c1
    have gH542 := H54.out.c2
    have gH543 := H54.out.c3
    have gH560 := H56.out.c0
    have gH561 := H56.out.c1
    have gH562 := H56.out.c2
    have gH563 := H56.out.c3
    go_wp2_with fail
    refine (fmul_sz H54.out.2 H56.out.2 SB54.out SB56.out (by omega)).mono ?_
    rintro e w74 ⟨v, rfl, h, b⟩
    obtain ⟨d74, A74, n74, c74, e74, E74, m74, f74, rfl⟩ := h.shape
    clear gH540 gH541 gH542 gH543 gH560 gH561 gH562 gH563
    have z74 := b.size
    simp only [World.size_alloc] at z74
    replace z74 := Lib.hid z74
    replace HB := Lib.hid (bstep HB.out b)
    replace H52 := Lib.hid (H52.out.below b)
    replace H54 := Lib.hid (H54.out.below b)
    replace H56 := Lib.hid (H56.out.below b)
    replace H59 := Lib.hid (H59.out.below b)
    replace H68 := Lib.hid (H68.out.below b)
    replace H69 := Lib.hid (H69.out.below b)
    replace H72 := Lib.hid (H72.out.below b)
    replace H73 := Lib.hid (H73.out.below b)
    have V74 := Lib.hid h
    clear h b
    have z51_ := z51.out
    have z52_ := z52.out
    have z53_ := z53.out
    have z54_ := z54.out
    have z55_ := z55.out
    have z56_ := z56.out
    have z57_ := z57.out
    have z58_ := z58.out
    have z59_ := z59.out
    have z60_ := z60.out
    have z61_ := z61.out
    have z62_ := z62.out
    have z63_ := z63.out
    have z64_ := z64.out
    have z65_ := z65.out
    have z66_ := z66.out
    have z67_ := z67.out
    have z68_ := z68.out
    have z69_ := z69.out
    have z70_ := z70.out
    have z71_ := z71.out
    have z72_ := z72.out
    have z73_ := z73.out
    have z74_ := z74.out
    have sH69a0 := H69.out.c0
    have tH69a0 := H69.out.1.f0
    have sH69a1 := H69.out.c1
    have tH69a1 := H69.out.1.f1
    have sH69a2 := H69.out.c2
    have tH69a2 := H69.out.1.f2
    have sH69a3 := H69.out.c3
    have tH69a3 := H69.out.1.f3
    have BK := Lib.hid H69.out.1
    have NB := Lib.hid (HoldQ.made4 V74.out H69.out.1)
    replace HB := Lib.hid (below_off4 (a1 := .bool d74) (a2 := .slice A74 n74 c74) (a3 := .bool e74) (a4 := .slice E74 m74 f74) (g := w69.heap.size) HB.out (by omega))
    replace H52 := Lib.hid (H52.out.off4 (a1 := .bool d74) (a2 := .slice A74 n74 c74) (a3 := .bool e74) (a4 := .slice E74 m74 f74) BK.out (by omega))
    replace H54 := Lib.hid (H54.out.off4 (a1 := .bool d74) (a2 := .slice A74 n74 c74) (a3 := .bool e74) (a4 := .slice E74 m74 f74) BK.out (by omega))
    replace H56 := Lib.hid (H56.out.off4 (a1 := .bool d74) (a2 := .slice A74 n74 c74) (a3 := .bool e74) (a4 := .slice E74 m74 f74) BK.out (by omega))
    replace H59 := Lib.hid (H59.out.off4 (a1 := .bool d74) (a2 := .slice A74 n74 c74) (a3 := .bool e74) (a4 := .slice E74 m74 f74) BK.out (by omega))
    replace H68 := Lib.hid (H68.out.off4 (a1 := .bool d74) (a2 := .slice A74 n74 c74) (a3 := .bool e74) (a4 := .slice E74 m74 f74) BK.out (by omega))
    replace H72 := Lib.hid (H72.out.off4 (a1 := .bool d74) (a2 := .slice A74 n74 c74) (a3 := .bool e74) (a4 := .slice E74 m74 f74) BK.out (by omega))
    replace H73 := Lib.hid (H73.out.off4 (a1 := .bool d74) (a2 := .slice A74 n74 c74) (a3 := .bool e74) (a4 := .slice E74 m74 f74) BK.out (by omega))
    replace V74 := Lib.hid (V74.out.st4 (a1 := .bool d74) (a2 := .slice A74 n74 c74) (a3 := .bool e74) (a4 := .slice E74 m74 f74) BK.out)
    clear H69 BK
    have H69 := NB
    clear NB
    clear z51_ z52_ z53_ z54_ z55_ z56_ z57_ z58_ z59_ z60_ z61_ z62_ z63_ z64_ z65_ z66_ z67_ z68_ z69_ z70_ z71_ z72_ z73_ z74_
    clear V74
    have SB74 := Lib.hid (Sz.mul SB54.out SB56.out)
    clear H54
    have gH730 := H73.out.c0
    have gH731 := H73.out.c1
    have gH732 := H73.out.c2
    have gH733 := H73.out.c3
    have gH690 := H69.out.c0
    have gH691 := H69.out.c1
    have gH692 := H69.out.c2
    have gH693 := H69.out.c3
    go_wp2_with fail
    refine (fadd_sz H73.out.2 H69.out.2 SB73.out SB74.out (by omega)).mono ?_
    rintro e w75 ⟨v, rfl, h, b⟩
    obtain ⟨d75, A75, n75, c75, e75, E75, m75, f75, rfl⟩ := h.shape
    clear gH730 gH731 gH732 gH733 gH690 gH691 gH692 gH693
    have z75 := b.size
    simp only [size_setc] at z75
    replace z75 := Lib.hid z75
    replace HB := Lib.hid (bstep HB.out b)
    replace H52 := Lib.hid (H52.out.below b)
    replace H56 := Lib.hid (H56.out.below b)
    replace H59 := Lib.hid (H59.out.below b)
    replace H68 := Lib.hid (H68.out.below b)
    replace H69 := Lib.hid (H69.out.below b)
    replace H72 := Lib.hid (H72.out.below b)
    replace H73 := Lib.hid (H73.out.below b)
    have V75 := Lib.hid h
    clear h b
    have h := HoldQ.new V75.out
    have b := al_below w75 (.cells #[.bool d75, .slice A75 n75 c75, .bool e75, .slice E75 m75 f75] 36)
    replace HB := Lib.hid (bstep HB.out b)
    replace H52 := Lib.hid (H52.out.below b)
    replace H56 := Lib.hid (H56.out.below b)
    replace H59 := Lib.hid (H59.out.below b)
    replace H68 := Lib.hid (H68.out.below b)
    replace H69 := Lib.hid (H69.out.below b)
    replace H72 := Lib.hid (H72.out.below b)
    replace H73 := Lib.hid (H73.out.below b)
    clear b
    have H75 := Lib.hid h
    clear h V75
    have SB75 := Lib.hid (Sz.add SB73.out SB74.out)
    have gH720 := H72.out.c0
    have gH721 := H72.out.c1
    have gH722 := H72.out.c2
    have gH723 := H72.out.c3
    have gH750 := H75.out.c0
    have gH751 := H75.out.c1
    have gH752 := H75.out.c2
    have gH753 := H75.out.c3
    go_wp2_with fail
    refine (equal_sz H72.out.2 H75.out.2 (SB72.out.inF (by omega)) (by grind)).mono ?_
    rintro e w76 ⟨rfl, b⟩
    clear gH720 gH721 gH722 gH723 gH750 gH751 gH752 gH753
    have z76 := b.size
    simp only [World.size_alloc] at z76
    replace z76 := Lib.hid z76
    replace HB := Lib.hid (bstep HB.out b)
    replace H52 := Lib.hid (H52.out.below b)
    replace H56 := Lib.hid (H56.out.below b)
    replace H59 := Lib.hid (H59.out.below b)
    replace H68 := Lib.hid (H68.out.below b)
    replace H69 := Lib.hid (H69.out.below b)
    replace H72 := Lib.hid (H72.out.below b)
    replace H73 := Lib.hid (H73.out.below b)
    replace H75 := Lib.hid (H75.out.below b)
    clear b
    clear H72
    clear H75
    clear H73
    have gH590 := H59.out.c0
    have gH591 := H59.out.c1
    have gH592 := H59.out.c2
    have gH593 := H59.out.c3
    have gH560 := H56.out.c0
    have gH561 := H56.out.c1
    have gH562 := H56.out.c2
    have gH563 := H56.out.c3
    go_wp2_with fail
    refine (fmul_sz H59.out.2 H56.out.2 SB59.out SB56.out (by omega)).mono ?_
    rintro e w77 ⟨v, rfl, h, b⟩
    obtain ⟨d77, A77, n77, c77, e77, E77, m77, f77, rfl⟩ := h.shape
    clear gH590 gH591 gH592 gH593 gH560 gH561 gH562 gH563
    have z77 := b.size
    replace z77 := Lib.hid z77
    replace HB := Lib.hid (bstep HB.out b)
    replace H52 := Lib.hid (H52.out.below b)
    replace H56 := Lib.hid (H56.out.below b)
    replace H59 := Lib.hid (H59.out.below b)
    replace H68 := Lib.hid (H68.out.below b)
    replace H69 := Lib.hid (H69.out.below b)
    have V77 := Lib.hid h
    clear h b
    have h := HoldQ.new V77.out
    have b := al_below w77 (.cells #[.bool d77, .slice A77 n77 c77, .bool e77, .slice E77 m77 f77] 36)
    replace HB := Lib.hid (bstep HB.out b)
    replace H52 := Lib.hid (H52.out.below b)
    replace H56 := Lib.hid (H56.out.below b)
    replace H59 := Lib.hid (H59.out.below b)
    replace H68 := Lib.hid (H68.out.below b)
    replace H69 := Lib.hid (H69.out.below b)
    clear b
    have H77 := Lib.hid h
    clear h V77
    have SB77 := Lib.hid (Sz.mul SB59.out SB56.out)
    clear H59
    clear H56
    have gH520 := H52.out.c0
    have gH521 := H52.out.c1
    have gH522 := H52.out.c2
    have gH523 := H52.out.c3
    have gH690 := H69.out.c0
    have gH691 := H69.out.c1
    have gH692 := H69.out.c2
    have gH693 := H69.out.c3
    go_wp2_with fail
    refine (fmul_sz H52.out.2 H69.out.2 SB52.out SB74.out (by omega)).mono ?_
    rintro e w78 ⟨v, rfl, h, b⟩
    obtain ⟨d78, A78, n78, c78, e78, E78, m78, f78, rfl⟩ := h.shape
    clear gH520 gH521 gH522 gH523 gH690 gH691 gH692 gH693
    have z78 := b.size
    simp only [World.size_alloc] at z78
    replace z78 := Lib.hid z78
    replace HB := Lib.hid (bstep HB.out b)
    replace H52 := Lib.hid (H52.out.below b)
    replace H68 := Lib.hid (H68.out.below b)
    replace H69 := Lib.hid (H69.out.below b)
    replace H77 := Lib.hid (H77.out.below b)
    have V78 := Lib.hid h
    clear h b
    have z51_ := z51.out
    have z52_ := z52.out
    have z53_ := z53.out
    have z54_ := z54.out
    have z55_ := z55.out
    have z56_ := z56.out
    have z57_ := z57.out
    have z58_ := z58.out
    have z59_ := z59.out
    have z60_ := z60.out
    have z61_ := z61.out
    have z62_ := z62.out
    have z63_ := z63.out
    have z64_ := z64.out
    have z65_ := z65.out
    have z66_ := z66.out
    have z67_ := z67.out
    have z68_ := z68.out
    have z69_ := z69.out
    have z70_ := z70.out
    have z71_ := z71.out
    have z72_ := z72.out
    have z73_ := z73.out
    have z74_ := z74.out
    have z75_ := z75.out
    have z76_ := z76.out
    have z77_ := z77.out
    have z78_ := z78.out
    have sH68b0 := H68.out.c0
    have tH68b0 := H68.out.1.f0
    have sH68b1 := H68.out.c1
    have tH68b1 := H68.out.1.f1
    have sH68b2 := H68.out.c2
    have tH68b2 := H68.out.1.f2
    have sH68b3 := H68.out.c3
    have tH68b3 := H68.out.1.f3
    have BK := Lib.hid H68.out.1
    have NB := Lib.hid (HoldQ.made4 V78.out H68.out.1)
    replace HB := Lib.hid (below_off4 (a1 := .bool d78) (a2 := .slice A78 n78 c78) (a3 := .bool e78) (a4 := .slice E78 m78 f78) (g := w68.heap.size) HB.out (by omega))
    replace H52 := Lib.hid (H52.out.off4 (a1 := .bool d78) (a2 := .slice A78 n78 c78) (a3 := .bool e78) (a4 := .slice E78 m78 f78) BK.out (by omega))
    replace H69 := Lib.hid (H69.out.off4 (a1 := .bool d78) (a2 := .slice A78 n78 c78) (a3 := .bool e78) (a4 := .slice E78 m78 f78) BK.out (by omega))
    replace H77 := Lib.hid (H77.out.off4 (a1 := .bool d78) (a2 := .slice A78 n78 c78) (a3 := .bool e78) (a4 := .slice E78 m78 f78) BK.out (by omega))
    replace V78 := Lib.hid (V78.out.st4 (a1 := .bool d78) (a2 := .slice A78 n78 c78) (a3 := .bool e78) (a4 := .slice E78 m78 f78) BK.out)
    clear H68 BK
    have H68 := NB
    clear NB
    clear z51_ z52_ z53_ z54_ z55_ z56_ z57_ z58_ z59_ z60_ z61_ z62_ z63_ z64_ z65_ z66_ z67_ z68_ z69_ z70_ z71_ z72_ z73_ z74_ z75_ z76_ z77_ z78_
    clear V78
    have SB78 := Lib.hid (Sz.mul SB52.out SB74.out)
    clear H52
    clear H69
    have gH770 := H77.out.c0
    have gH771 := H77.out.c1
    have gH772 := H77.out.c2
    have gH773 := H77.out.c3
    have gH680 := H68.out.c0
    have gH681 := H68.out.c1
    have gH682 := H68.out.c2
    have gH683 := H68.out.c3
    go_wp2_with fail
    refine (equal_sz H77.out.2 H68.out.2 (SB77.out.inF (by omega)) (by grind)).mono ?_
    rintro e w79 ⟨rfl, b⟩
    clear gH770 gH771 gH772 gH773 gH680 gH681 gH682 gH683
    have z79 := b.size
    simp only [size_setc] at z79
    replace z79 := Lib.hid z79
    replace HB := Lib.hid (bstep HB.out b)
    replace H68 := Lib.hid (H68.out.below b)
    replace H77 := Lib.hid (H77.out.below b)
    clear b
    clear H77
    clear H68
    go_wp2_with fail
    refine (lives_law _).mono ?_
    rintro e w80 ⟨rfl, b⟩
    have z80 := b.size
    replace z80 := Lib.hid z80
    replace HB := Lib.hid (bstep HB.out b)
    clear b
    have HF := HB.out
    clear HB
    go_wp2_with fail
    go_ret
    exact ⟨rfl, HF⟩
end Go.Proofs.YtocooajlfpngdaaGreatDoor
