/- Contracts of the reference of frac: Of, Make. · Contracts of the reference of frac: ranged, Neg. -/
import Derived.Test.YtocooajlfpngdaaGreatDoorB38
namespace Go.Proofs.YtocooajlfpngdaaGreatDoor
open Go.RowKit
set_option linter.unusedVariables false

theorem RepN.sgn' {w : World} {B n c : Nat} {z : Int} {d : Bool} {A : Option Addr} (h : RepN w B z (.agg #[.bool d, .slice A n c])) : d = decide (z < 0) := by
  obtain ⟨A', n', c', l, e, _⟩ := h
  cases e
  rfl
set_option maxRecDepth 100000 in
set_option maxHeartbeats 4000000 in
theorem gof_any (n : Int) (w : World) (hp : -9223372036854775808 ≤ n ∧ n ≤ 9223372036854775807) :
    Calls Tryz.prog 23 #[.int .i64 n] w (NewG (n : Rat) w) := by
  have HB := Lib.hid (Below.refl w.heap.size w)
  replace hp := Lib.hid hp
  go_enter Tryz.func23, Tryz.ntmps23
  have h := Blk4.new w 42 (.bool false) (.slice none 0 0) (.bool false) (.slice none 0 0)
  have b := al_below w (.cells #[.bool false, .slice none 0 0, .bool false, .slice none 0 0] 42)
  replace HB := Lib.hid (bstep HB.out b)
  clear b
  have R0 := Lib.hid (show Blk4 _ (w.heap.size) 42 (.bool false) (.slice none 0 0) (.bool false) (.slice none 0 0) from h)
  clear h
  go_wp2_with fail
  refine (of_any n _ hp.out.1 hp.out.2).mono ?_
  rintro e w51 ⟨v, rfl, h, b⟩
  obtain ⟨d51, A51, n51, c51, rfl⟩ := h.shape'
  have z51 := b.size
  simp only [World.size_alloc] at z51
  replace z51 := Lib.hid z51
  replace HB := Lib.hid (bstep HB.out b)
  replace R0 := Lib.hid (R0.out.below b)
  have V51 := Lib.hid h
  clear h b
  go_wp2_with fail
  refine (of_any 1 _ (by omega) (by omega)).mono ?_
  rintro e w52 ⟨v, rfl, h, b⟩
  obtain ⟨d52, A52, n52, c52, rfl⟩ := h.shape'
  have z52 := b.size
  replace z52 := Lib.hid z52
  replace HB := Lib.hid (bstep HB.out b)
  replace R0 := Lib.hid (R0.out.below b)
  replace V51 := Lib.hid (V51.out.step b)
  have V52 := Lib.hid h
  clear h b
  have gR00 := R0.out.c0
  have yR00 := R0.out.f0
  have gR01 := R0.out.c1
  have yR01 := R0.out.f1
  have gR02 := R0.out.c2
  have yR02 := R0.out.f2
  have gR03 := R0.out.c3
  have yR03 := R0.out.f3
  have HF := Lib.hid (retG (RepG.mk' (x := (n : Rat)) V51.out V52.out rfl rfl) R0.out HB.out (by omega))
  clear HB R0 V51 V52
  clear hp
  go_wp2_with fail
  exact bodyPost_ret (v := .agg #[.bool d51, .slice A51 n51 c51, .bool d52, .slice A52 n52 c52]) (by simp [results, Tryz.results23, go_sem, gR00, gR01, gR02, gR03]) rfl ⟨_, rfl, HF.out.1, HF.out.2.1⟩
theorem gof_zero (w : World) : Calls Tryz.prog 23 #[.int .i64 0] w (NewG 0 w) := gof_any 0 w (by omega)
set_option maxRecDepth 100000 in
set_option maxHeartbeats 4000000 in
theorem gmake_z (x y : Int) (u v : Value) (w : World) (hx : RepN w w.heap.size x u) (hy : RepN w w.heap.size y v) (bx : Bits 60000 x) (by_ : Bits 60000 y) (hy0 : Hid (y = 0)) :
    Calls Tryz.prog 19 #[u, v] w (NewGE 0 1 w) := by
  have HB := Lib.hid (Below.refl w.heap.size w)
  obtain ⟨dx, Ax, nx, cx, rfl⟩ := hx.shape'
  have Vx := Lib.hid hx
  clear hx
  obtain ⟨dy, Ay, ny, cy, rfl⟩ := hy.shape'
  have Vy := Lib.hid hy
  clear hy
  replace bx := Lib.hid bx
  replace by_ := Lib.hid by_
  go_enter Tryz.func19, Tryz.ntmps19
  have h := HoldN.new Vx.out
  have b := al_below w (.cells #[.bool dx, .slice Ax nx cx] 24)
  replace HB := Lib.hid (bstep HB.out b)
  replace Vy := Lib.hid (Vy.out.step b)
  clear b
  have Hx := Lib.hid h
  clear h Vx
  have h := HoldN.new Vy.out
  simp only [World.size_alloc] at h
  have b := al_below (w.alloc (.cells #[.bool dx, .slice Ax nx cx] 24)) (.cells #[.bool dy, .slice Ay ny cy] 24)
  replace HB := Lib.hid (bstep HB.out b)
  replace Hx := Lib.hid (Hx.out.below b)
  clear b
  have Hy := Lib.hid h
  clear h Vy
  have h := Blk4.new ((w.alloc (.cells #[.bool dx, .slice Ax nx cx] 24)).alloc (.cells #[.bool dy, .slice Ay ny cy] 24)) 42 (.bool false) (.slice none 0 0) (.bool false) (.slice none 0 0)
  simp only [World.size_alloc] at h
  have b := al_below ((w.alloc (.cells #[.bool dx, .slice Ax nx cx] 24)).alloc (.cells #[.bool dy, .slice Ay ny cy] 24)) (.cells #[.bool false, .slice none 0 0, .bool false, .slice none 0 0] 42)
  replace HB := Lib.hid (bstep HB.out b)
  replace Hx := Lib.hid (Hx.out.below b)
  replace Hy := Lib.hid (Hy.out.below b)
  clear b
  have R0 := Lib.hid (show Blk4 _ (w.heap.size + 1 + 1) 42 (.bool false) (.slice none 0 0) (.bool false) (.slice none 0 0) from h)
  clear h
  obtain rfl : ny = 0 := Hy.out.2.zero.2 hy0.out
  go_wp2_with fail
  refine (gof_zero _).mono ?_
  rintro e w51 ⟨v, rfl, h, b⟩
  obtain ⟨d51, A51, n51, c51, e51, E51, m51, f51, rfl⟩ := h.shape
  have z51 := b.size
  simp only [World.size_alloc] at z51
  replace z51 := Lib.hid z51
  replace HB := Lib.hid (bstep HB.out b)
  replace Hx := Lib.hid (Hx.out.below b)
  replace Hy := Lib.hid (Hy.out.below b)
  replace R0 := Lib.hid (R0.out.below b)
  have V51 := Lib.hid h
  clear h b
  have gR00 := R0.out.c0
  have yR00 := R0.out.f0
  have gR01 := R0.out.c1
  have yR01 := R0.out.f1
  have gR02 := R0.out.c2
  have yR02 := R0.out.f2
  have gR03 := R0.out.c3
  have yR03 := R0.out.f3
  have HF := Lib.hid (retG (V51.out) R0.out HB.out (by omega))
  clear HB Hx Hy R0 V51
  clear bx by_ hy0
  go_wp2_with fail
  exact bodyPost_ret (v := .tuple #[.agg #[.bool d51, .slice A51 n51 c51, .bool e51, .slice E51 m51 f51], .int .i64 1]) (by simp [results, Tryz.results19, go_sem, gR00, gR01, gR02, gR03]) rfl ⟨_, rfl, HF.out.1, HF.out.2.1⟩
set_option maxRecDepth 100000 in
set_option maxHeartbeats 4000000 in
theorem gmake_p (x y : Int) (u v : Value) (w : World) (hx : RepN w w.heap.size x u) (hy : RepN w w.heap.size y v) (bx : Bits 60000 x) (by_ : Bits 60000 y) (hs : 0 < y) :
    Calls Tryz.prog 19 #[u, v] w (NewGE (Rat.divInt x y) 0 w) := by
  obtain ⟨X, hX⟩ : ∃ X, Rat.divInt x y = X := ⟨_, rfl⟩
  obtain ⟨d, hd⟩ : ∃ d, ((Nat.gcd x.natAbs y.natAbs : Nat) : Int) = d := ⟨_, rfl⟩
  have hdg : ((Nat.gcd x.natAbs y.natAbs : Nat) : Int) = d := by rw [← hd]
  have hgp : 0 < Nat.gcd x.natAbs y.natAbs := Nat.gcd_pos_of_pos_right _ (by omega)
  have e1 := rat_num (p := x) (q := y) (by omega)
  have e2 := rat_den (p := x) (q := y) (by omega)
  rw [hdg, hX] at e1 e2
  rw [if_neg (by omega)] at e1
  rw [show (y.natAbs : Int) = y by omega] at e2
  rw [hX]
  have HX := Lib.hid hX
  have HD := Lib.hid hd
  have HD0 := Lib.hid (show d ≠ 0 by omega)
  have HDB := Lib.hid (show Bits 60000 d from hdg ▸ by_.le (by rw [Int.natAbs_natCast]; exact Nat.gcd_le_right _ (by omega)))
  have E1 := Lib.hid e1
  have E2 := Lib.hid e2
  have HY0 := Lib.hid (show y ≠ 0 by omega)
  have HS := Lib.hid hs
  clear hX hd hdg hgp e1 e2 hs
  have HB := Lib.hid (Below.refl w.heap.size w)
  obtain ⟨dx, Ax, nx, cx, rfl⟩ := hx.shape'
  have Vx := Lib.hid hx
  clear hx
  obtain ⟨dy, Ay, ny, cy, rfl⟩ := hy.shape'
  have Vy := Lib.hid hy
  clear hy
  replace bx := Lib.hid bx
  replace by_ := Lib.hid by_
  go_enter Tryz.func19, Tryz.ntmps19
  have h := HoldN.new Vx.out
  have b := al_below w (.cells #[.bool dx, .slice Ax nx cx] 24)
  replace HB := Lib.hid (bstep HB.out b)
  replace Vy := Lib.hid (Vy.out.step b)
  clear b
  have Hx := Lib.hid h
  clear h Vx
  have h := HoldN.new Vy.out
  simp only [World.size_alloc] at h
  have b := al_below (w.alloc (.cells #[.bool dx, .slice Ax nx cx] 24)) (.cells #[.bool dy, .slice Ay ny cy] 24)
  replace HB := Lib.hid (bstep HB.out b)
  replace Hx := Lib.hid (Hx.out.below b)
  clear b
  have Hy := Lib.hid h
  clear h Vy
  have h := Blk4.new ((w.alloc (.cells #[.bool dx, .slice Ax nx cx] 24)).alloc (.cells #[.bool dy, .slice Ay ny cy] 24)) 42 (.bool false) (.slice none 0 0) (.bool false) (.slice none 0 0)
  simp only [World.size_alloc] at h
  have b := al_below ((w.alloc (.cells #[.bool dx, .slice Ax nx cx] 24)).alloc (.cells #[.bool dy, .slice Ay ny cy] 24)) (.cells #[.bool false, .slice none 0 0, .bool false, .slice none 0 0] 42)
  replace HB := Lib.hid (bstep HB.out b)
  replace Hx := Lib.hid (Hx.out.below b)
  replace Hy := Lib.hid (Hy.out.below b)
  clear b
  have R0 := Lib.hid (show Blk4 _ (w.heap.size + 1 + 1) 42 (.bool false) (.slice none 0 0) (.bool false) (.slice none 0 0) from h)
  clear h
  have hny : ny ≠ 0 := fun e => HY0.out (Hy.out.2.zero.1 e)
  have hny1 : ((ny : Int) == 0) = false := by simp [hny]
  obtain rfl : dy = false := by rw [Hy.out.2.sgn']; exact decide_eq_false (by have := HS.out; omega)
  go_wp2_with fail
  refine (HD.out ▸ gcd_any x y _ _ _ Hx.out.2 Hy.out.2 bx.out by_.out).mono ?_
  rintro e w51 ⟨v, rfl, h, b⟩
  obtain ⟨d51, A51, n51, c51, rfl⟩ := h.shape'
  have z51 := b.size
  simp only [World.size_alloc] at z51
  replace z51 := Lib.hid z51
  replace HB := Lib.hid (bstep HB.out b)
  replace Hx := Lib.hid (Hx.out.below b)
  replace Hy := Lib.hid (Hy.out.below b)
  replace R0 := Lib.hid (R0.out.below b)
  have V51 := Lib.hid h
  clear h b
  have h := HoldN.new V51.out
  have b := al_below w51 (.cells #[.bool d51, .slice A51 n51 c51] 24)
  replace HB := Lib.hid (bstep HB.out b)
  replace Hx := Lib.hid (Hx.out.below b)
  replace Hy := Lib.hid (Hy.out.below b)
  replace R0 := Lib.hid (R0.out.below b)
  clear b
  have H51 := Lib.hid h
  clear h V51
  have gHx0 := Hx.out.c0
  have gHx1 := Hx.out.c1
  have gH510 := H51.out.c0
  have gH511 := H51.out.c1
  go_wp2_with fail
  refine (div_any x d _ _ _ Hx.out.2 H51.out.2 bx.out HDB.out HD0.out).mono ?_
  rintro e w52 ⟨u, v, rfl, h, h', b⟩
  obtain ⟨d52, A52, n52, c52, rfl⟩ := h.shape'
  obtain ⟨d53, A53, n53, c53, rfl⟩ := h'.shape'
  clear gHx0 gHx1 gH510 gH511
  have z52 := b.size
  simp only [World.size_alloc] at z52
  replace z52 := Lib.hid z52
  replace HB := Lib.hid (bstep HB.out b)
  replace Hx := Lib.hid (Hx.out.below b)
  replace Hy := Lib.hid (Hy.out.below b)
  replace R0 := Lib.hid (R0.out.below b)
  replace H51 := Lib.hid (H51.out.below b)
  have V52 := Lib.hid h
  have V53 := Lib.hid h'
  clear h h' b
  have h := HoldN.new V52.out
  have b := al_below w52 (.cells #[.bool d52, .slice A52 n52 c52] 24)
  replace HB := Lib.hid (bstep HB.out b)
  replace Hx := Lib.hid (Hx.out.below b)
  replace Hy := Lib.hid (Hy.out.below b)
  replace R0 := Lib.hid (R0.out.below b)
  replace H51 := Lib.hid (H51.out.below b)
  replace V53 := Lib.hid (V53.out.step b)
  clear b
  have H52 := Lib.hid h
  clear h V52
  have h := HoldN.new V53.out
  simp only [World.size_alloc] at h
  have b := al_below (w52.alloc (.cells #[.bool d52, .slice A52 n52 c52] 24)) (.cells #[.bool d53, .slice A53 n53 c53] 24)
  replace HB := Lib.hid (bstep HB.out b)
  replace Hx := Lib.hid (Hx.out.below b)
  replace Hy := Lib.hid (Hy.out.below b)
  replace R0 := Lib.hid (R0.out.below b)
  replace H51 := Lib.hid (H51.out.below b)
  replace H52 := Lib.hid (H52.out.below b)
  clear b
  have H53 := Lib.hid h
  clear h V53
  have gHy0 := Hy.out.c0
  have gHy1 := Hy.out.c1
  have gH510 := H51.out.c0
  have gH511 := H51.out.c1
  go_wp2_with fail
  refine (div_any y d _ _ _ Hy.out.2 H51.out.2 by_.out HDB.out HD0.out).mono ?_
  rintro e w54 ⟨u, v, rfl, h, h', b⟩
  obtain ⟨d54, A54, n54, c54, rfl⟩ := h.shape'
  obtain ⟨d55, A55, n55, c55, rfl⟩ := h'.shape'
  clear gHy0 gHy1 gH510 gH511
  have z54 := b.size
  simp only [World.size_alloc] at z54
  replace z54 := Lib.hid z54
  replace HB := Lib.hid (bstep HB.out b)
  replace Hx := Lib.hid (Hx.out.below b)
  replace Hy := Lib.hid (Hy.out.below b)
  replace R0 := Lib.hid (R0.out.below b)
  replace H51 := Lib.hid (H51.out.below b)
  replace H52 := Lib.hid (H52.out.below b)
  replace H53 := Lib.hid (H53.out.below b)
  have V54 := Lib.hid h
  have V55 := Lib.hid h'
  clear h h' b
  have h := HoldN.new V54.out
  have b := al_below w54 (.cells #[.bool d54, .slice A54 n54 c54] 24)
  replace HB := Lib.hid (bstep HB.out b)
  replace Hx := Lib.hid (Hx.out.below b)
  replace Hy := Lib.hid (Hy.out.below b)
  replace R0 := Lib.hid (R0.out.below b)
  replace H51 := Lib.hid (H51.out.below b)
  replace H52 := Lib.hid (H52.out.below b)
  replace H53 := Lib.hid (H53.out.below b)
  replace V55 := Lib.hid (V55.out.step b)
  clear b
  have H54 := Lib.hid h
  clear h V54
  have h := HoldN.new V55.out
  simp only [World.size_alloc] at h
  have b := al_below (w54.alloc (.cells #[.bool d54, .slice A54 n54 c54] 24)) (.cells #[.bool d55, .slice A55 n55 c55] 24)
  replace HB := Lib.hid (bstep HB.out b)
  replace Hx := Lib.hid (Hx.out.below b)
  replace Hy := Lib.hid (Hy.out.below b)
  replace R0 := Lib.hid (R0.out.below b)
  replace H51 := Lib.hid (H51.out.below b)
  replace H52 := Lib.hid (H52.out.below b)
  replace H53 := Lib.hid (H53.out.below b)
  replace H54 := Lib.hid (H54.out.below b)
  clear b
  have H55 := Lib.hid h
  clear h V55
  have gR00 := R0.out.c0
  have yR00 := R0.out.f0
  have gR01 := R0.out.c1
  have yR01 := R0.out.f1
  have gR02 := R0.out.c2
  have yR02 := R0.out.f2
  have gR03 := R0.out.c3
  have yR03 := R0.out.f3
  have gH520 := H52.out.c0
  have gH521 := H52.out.c1
  have gH540 := H54.out.c0
  have gH541 := H54.out.c1
  have HF := Lib.hid (retG (RepG.mk' (x := X) H52.out.2 H54.out.2 E1.out.symm E2.out.symm) R0.out HB.out (by omega))
  clear HB Hx Hy R0 H51 H52 H53 H54 H55
  clear bx by_ HX HD HD0 HDB E1 E2 HY0 HS hny hny1
  go_wp2_with fail
  exact bodyPost_ret (v := .tuple #[.agg #[.bool d52, .slice A52 n52 c52, .bool d54, .slice A54 n54 c54], .int .i64 0]) (by simp [results, Tryz.results19, go_sem, gR00, gR01, gR02, gR03]) rfl ⟨_, rfl, HF.out.1, HF.out.2.1⟩
set_option maxRecDepth 100000 in
set_option maxHeartbeats 4000000 in
theorem gmake_n (x y : Int) (u v : Value) (w : World) (hx : RepN w w.heap.size x u) (hy : RepN w w.heap.size y v) (bx : Bits 60000 x) (by_ : Bits 60000 y) (hs : y < 0) :
    Calls Tryz.prog 19 #[u, v] w (NewGE (Rat.divInt x y) 0 w) := by
  obtain ⟨X, hX⟩ : ∃ X, Rat.divInt x y = X := ⟨_, rfl⟩
  obtain ⟨d, hd⟩ : ∃ d, ((Nat.gcd (-x).natAbs (-y).natAbs : Nat) : Int) = d := ⟨_, rfl⟩
  have hdg : ((Nat.gcd x.natAbs y.natAbs : Nat) : Int) = d := by rw [← hd]; rw [Int.natAbs_neg, Int.natAbs_neg]
  have hgp : 0 < Nat.gcd x.natAbs y.natAbs := Nat.gcd_pos_of_pos_right _ (by omega)
  have e1 := rat_num (p := x) (q := y) (by omega)
  have e2 := rat_den (p := x) (q := y) (by omega)
  rw [hdg, hX] at e1 e2
  rw [if_pos hs] at e1
  rw [show (y.natAbs : Int) = (-y) by omega] at e2
  rw [hX]
  have HX := Lib.hid hX
  have HD := Lib.hid hd
  have HD0 := Lib.hid (show d ≠ 0 by omega)
  have HDB := Lib.hid (show Bits 60000 d from hdg ▸ by_.le (by rw [Int.natAbs_natCast]; exact Nat.gcd_le_right _ (by omega)))
  have E1 := Lib.hid e1
  have E2 := Lib.hid e2
  have HY0 := Lib.hid (show y ≠ 0 by omega)
  have HS := Lib.hid hs
  clear hX hd hdg hgp e1 e2 hs
  have HB := Lib.hid (Below.refl w.heap.size w)
  obtain ⟨dx, Ax, nx, cx, rfl⟩ := hx.shape'
  have Vx := Lib.hid hx
  clear hx
  obtain ⟨dy, Ay, ny, cy, rfl⟩ := hy.shape'
  have Vy := Lib.hid hy
  clear hy
  replace bx := Lib.hid bx
  replace by_ := Lib.hid by_
  go_enter Tryz.func19, Tryz.ntmps19
  have h := HoldN.new Vx.out
  have b := al_below w (.cells #[.bool dx, .slice Ax nx cx] 24)
  replace HB := Lib.hid (bstep HB.out b)
  replace Vy := Lib.hid (Vy.out.step b)
  clear b
  have Hx := Lib.hid h
  clear h Vx
  have h := HoldN.new Vy.out
  simp only [World.size_alloc] at h
  have b := al_below (w.alloc (.cells #[.bool dx, .slice Ax nx cx] 24)) (.cells #[.bool dy, .slice Ay ny cy] 24)
  replace HB := Lib.hid (bstep HB.out b)
  replace Hx := Lib.hid (Hx.out.below b)
  clear b
  have Hy := Lib.hid h
  clear h Vy
  have h := Blk4.new ((w.alloc (.cells #[.bool dx, .slice Ax nx cx] 24)).alloc (.cells #[.bool dy, .slice Ay ny cy] 24)) 42 (.bool false) (.slice none 0 0) (.bool false) (.slice none 0 0)
  simp only [World.size_alloc] at h
  have b := al_below ((w.alloc (.cells #[.bool dx, .slice Ax nx cx] 24)).alloc (.cells #[.bool dy, .slice Ay ny cy] 24)) (.cells #[.bool false, .slice none 0 0, .bool false, .slice none 0 0] 42)
  replace HB := Lib.hid (bstep HB.out b)
  replace Hx := Lib.hid (Hx.out.below b)
  replace Hy := Lib.hid (Hy.out.below b)
  clear b
  have R0 := Lib.hid (show Blk4 _ (w.heap.size + 1 + 1) 42 (.bool false) (.slice none 0 0) (.bool false) (.slice none 0 0) from h)
  clear h
  have hny : ny ≠ 0 := fun e => HY0.out (Hy.out.2.zero.1 e)
  have hny1 : ((ny : Int) == 0) = false := by simp [hny]
  obtain rfl : dy = true := by rw [Hy.out.2.sgn']; exact decide_eq_true HS.out
  go_wp2_with fail
  refine (neg_any x _ _ Hx.out.2).mono ?_
  rintro e w51 ⟨v, rfl, h, b⟩
  obtain ⟨d51, A51, n51, c51, rfl⟩ := h.shape'
  have z51 := b.size
  simp only [World.size_alloc] at z51
  replace z51 := Lib.hid z51
  replace HB := Lib.hid (bstep HB.out b)
  replace Hx := Lib.hid (Hx.out.below b)
  replace Hy := Lib.hid (Hy.out.below b)
  replace R0 := Lib.hid (R0.out.below b)
  have V51 := Lib.hid h
  clear h b
  have gR00 := R0.out.c0
  have gR01 := R0.out.c1
  have gR02 := R0.out.c2
  have gR03 := R0.out.c3
  clear gR00 gR01 gR02 gR03
  have sHxa0 := Hx.out.c0
  have tHxa0 := Hx.out.1.f0
  have sHxa1 := Hx.out.c1
  have tHxa1 := Hx.out.1.f1
  have BK := Lib.hid Hx.out.1
  have NB := Lib.hid (HoldN.made V51.out Hx.out.1)
  replace HB := Lib.hid (below_off (u := .bool d51) (u' := .slice A51 n51 c51) (g := w.heap.size) HB.out (by omega))
  replace Hy := Lib.hid (Hy.out.off (u := .bool d51) (u' := .slice A51 n51 c51) BK.out (by omega))
  replace R0 := Lib.hid (R0.out.off (u := .bool d51) (u' := .slice A51 n51 c51) (g := w.heap.size) (by omega))
  replace V51 := Lib.hid (V51.out.st (u := .bool d51) (u' := .slice A51 n51 c51) BK.out)
  clear Hx BK
  have Hx := NB
  clear NB
  clear V51
  have gHy0 := Hy.out.c0
  have gHy1 := Hy.out.c1
  go_wp2_with fail
  refine (neg_any y _ _ Hy.out.2).mono ?_
  rintro e w52 ⟨v, rfl, h, b⟩
  obtain ⟨d52, A52, n52, c52, rfl⟩ := h.shape'
  clear gHy0 gHy1
  have z52 := b.size
  replace z52 := Lib.hid z52
  replace HB := Lib.hid (bstep HB.out b)
  replace Hx := Lib.hid (Hx.out.below b)
  replace Hy := Lib.hid (Hy.out.below b)
  replace R0 := Lib.hid (R0.out.below b)
  have V52 := Lib.hid h
  clear h b
  have sHyb0 := Hy.out.c0
  have tHyb0 := Hy.out.1.f0
  have sHyb1 := Hy.out.c1
  have tHyb1 := Hy.out.1.f1
  have BK := Lib.hid Hy.out.1
  have NB := Lib.hid (HoldN.made V52.out Hy.out.1)
  replace HB := Lib.hid (below_off (u := .bool d52) (u' := .slice A52 n52 c52) (g := w.heap.size + 1) HB.out (by omega))
  replace Hx := Lib.hid (Hx.out.off (u := .bool d52) (u' := .slice A52 n52 c52) BK.out (by omega))
  replace R0 := Lib.hid (R0.out.off (u := .bool d52) (u' := .slice A52 n52 c52) (g := w.heap.size + 1) (by omega))
  replace V52 := Lib.hid (V52.out.st (u := .bool d52) (u' := .slice A52 n52 c52) BK.out)
  clear Hy BK
  have Hy := NB
  clear NB
  clear V52
  have gHx0 := Hx.out.c0
  have gHx1 := Hx.out.c1
  have gHy0 := Hy.out.c0
  have gHy1 := Hy.out.c1
  go_wp2_with fail
  refine (HD.out ▸ gcd_any (-x) (-y) _ _ _ Hx.out.2 Hy.out.2 bx.out.neg by_.out.neg).mono ?_
  rintro e w53 ⟨v, rfl, h, b⟩
  obtain ⟨d53, A53, n53, c53, rfl⟩ := h.shape'
  clear gHx0 gHx1 gHy0 gHy1
  have z53 := b.size
  replace z53 := Lib.hid z53
  replace HB := Lib.hid (bstep HB.out b)
  replace Hx := Lib.hid (Hx.out.below b)
  replace Hy := Lib.hid (Hy.out.below b)
  replace R0 := Lib.hid (R0.out.below b)
  have V53 := Lib.hid h
  clear h b
  have h := HoldN.new V53.out
  have b := al_below w53 (.cells #[.bool d53, .slice A53 n53 c53] 24)
  replace HB := Lib.hid (bstep HB.out b)
  replace Hx := Lib.hid (Hx.out.below b)
  replace Hy := Lib.hid (Hy.out.below b)
  replace R0 := Lib.hid (R0.out.below b)
  clear b
  have H53 := Lib.hid h
  clear h V53
  have gHx0 := Hx.out.c0
  have gHx1 := Hx.out.c1
  have gH530 := H53.out.c0
  have gH531 := H53.out.c1
  go_wp2_with fail
  refine (div_any (-x) d _ _ _ Hx.out.2 H53.out.2 bx.out.neg HDB.out HD0.out).mono ?_
  rintro e w54 ⟨u, v, rfl, h, h', b⟩
  obtain ⟨d54, A54, n54, c54, rfl⟩ := h.shape'
  obtain ⟨d55, A55, n55, c55, rfl⟩ := h'.shape'
  clear gHx0 gHx1 gH530 gH531
  have z54 := b.size
  simp only [World.size_alloc] at z54
  replace z54 := Lib.hid z54
  replace HB := Lib.hid (bstep HB.out b)
  replace Hx := Lib.hid (Hx.out.below b)
  replace Hy := Lib.hid (Hy.out.below b)
  replace R0 := Lib.hid (R0.out.below b)
  replace H53 := Lib.hid (H53.out.below b)
  have V54 := Lib.hid h
  have V55 := Lib.hid h'
  clear h h' b
  have h := HoldN.new V54.out
  have b := al_below w54 (.cells #[.bool d54, .slice A54 n54 c54] 24)
  replace HB := Lib.hid (bstep HB.out b)
  replace Hx := Lib.hid (Hx.out.below b)
  replace Hy := Lib.hid (Hy.out.below b)
  replace R0 := Lib.hid (R0.out.below b)
  replace H53 := Lib.hid (H53.out.below b)
  replace V55 := Lib.hid (V55.out.step b)
  clear b
  have H54 := Lib.hid h
  clear h V54
  have h := HoldN.new V55.out
  simp only [World.size_alloc] at h
  have b := al_below (w54.alloc (.cells #[.bool d54, .slice A54 n54 c54] 24)) (.cells #[.bool d55, .slice A55 n55 c55] 24)
  replace HB := Lib.hid (bstep HB.out b)
  replace Hx := Lib.hid (Hx.out.below b)
  replace Hy := Lib.hid (Hy.out.below b)
  replace R0 := Lib.hid (R0.out.below b)
  replace H53 := Lib.hid (H53.out.below b)
  replace H54 := Lib.hid (H54.out.below b)
  clear b
  have H55 := Lib.hid h
  clear h V55
  have gHy0 := Hy.out.c0
  have gHy1 := Hy.out.c1
  have gH530 := H53.out.c0
  have gH531 := H53.out.c1
  go_wp2_with fail
  refine (div_any (-y) d _ _ _ Hy.out.2 H53.out.2 by_.out.neg HDB.out HD0.out).mono ?_
  rintro e w56 ⟨u, v, rfl, h, h', b⟩
  obtain ⟨d56, A56, n56, c56, rfl⟩ := h.shape'
  obtain ⟨d57, A57, n57, c57, rfl⟩ := h'.shape'
  clear gHy0 gHy1 gH530 gH531
  have z56 := b.size
  simp only [World.size_alloc] at z56
  replace z56 := Lib.hid z56
  replace HB := Lib.hid (bstep HB.out b)
  replace Hx := Lib.hid (Hx.out.below b)
  replace Hy := Lib.hid (Hy.out.below b)
  replace R0 := Lib.hid (R0.out.below b)
  replace H53 := Lib.hid (H53.out.below b)
  replace H54 := Lib.hid (H54.out.below b)
  replace H55 := Lib.hid (H55.out.below b)
  have V56 := Lib.hid h
  have V57 := Lib.hid h'
  clear h h' b
  have h := HoldN.new V56.out
  have b := al_below w56 (.cells #[.bool d56, .slice A56 n56 c56] 24)
  replace HB := Lib.hid (bstep HB.out b)
  replace Hx := Lib.hid (Hx.out.below b)
  replace Hy := Lib.hid (Hy.out.below b)
  replace R0 := Lib.hid (R0.out.below b)
  replace H53 := Lib.hid (H53.out.below b)
  replace H54 := Lib.hid (H54.out.below b)
  replace H55 := Lib.hid (H55.out.below b)
  replace V57 := Lib.hid (V57.out.step b)
  clear b
  have H56 := Lib.hid h
  clear h V56
  have h := HoldN.new V57.out
  simp only [World.size_alloc] at h
  have b := al_below (w56.alloc (.cells #[.bool d56, .slice A56 n56 c56] 24)) (.cells #[.bool d57, .slice A57 n57 c57] 24)
  replace HB := Lib.hid (bstep HB.out b)
  replace Hx := Lib.hid (Hx.out.below b)
  replace Hy := Lib.hid (Hy.out.below b)
  replace R0 := Lib.hid (R0.out.below b)
  replace H53 := Lib.hid (H53.out.below b)
  replace H54 := Lib.hid (H54.out.below b)
  replace H55 := Lib.hid (H55.out.below b)
  replace H56 := Lib.hid (H56.out.below b)
  clear b
  have H57 := Lib.hid h
  clear h V57
  have gR00 := R0.out.c0
  have yR00 := R0.out.f0
  have gR01 := R0.out.c1
  have yR01 := R0.out.f1
  have gR02 := R0.out.c2
  have yR02 := R0.out.f2
  have gR03 := R0.out.c3
  have yR03 := R0.out.f3
  have gH540 := H54.out.c0
  have gH541 := H54.out.c1
  have gH560 := H56.out.c0
  have gH561 := H56.out.c1
  have HF := Lib.hid (retG (RepG.mk' (x := X) H54.out.2 H56.out.2 E1.out.symm E2.out.symm) R0.out HB.out (by omega))
  clear HB Hx Hy R0 H53 H54 H55 H56 H57
  clear bx by_ HX HD HD0 HDB E1 E2 HY0 HS hny hny1
  go_wp2_with fail
  exact bodyPost_ret (v := .tuple #[.agg #[.bool d54, .slice A54 n54 c54, .bool d56, .slice A56 n56 c56], .int .i64 0]) (by simp [results, Tryz.results19, go_sem, gR00, gR01, gR02, gR03]) rfl ⟨_, rfl, HF.out.1, HF.out.2.1⟩
theorem gmake_any (x y : Int) (u v : Value) (w : World) (hx : RepN w w.heap.size x u) (hy : RepN w w.heap.size y v) (bx : Bits 60000 x) (by_ : Bits 60000 y) : Calls Tryz.prog 19 #[u, v] w (NewGE (Rat.divInt x y) (makeE y) w) := by
  rcases Int.lt_trichotomy y 0 with h | h | h
  · rw [make_nz (by omega)]
    exact gmake_n x y u v w hx hy bx by_ h
  · rw [(make_zero (x := x) h).1, (make_zero (x := x) h).2]
    exact gmake_z x y u v w hx hy bx by_ (Lib.hid h)
  · rw [make_nz (by omega)]
    exact gmake_p x y u v w hx hy bx by_ h
end Go.Proofs.YtocooajlfpngdaaGreatDoor
namespace Go.Proofs.YtocooajlfpngdaaGreatDoor
open Go.RowKit
set_option linter.unusedVariables false

theorem RepG.neg {W : World} {B : Nat} {x : Rat} {d d' d2 : Bool} {A A' A2 : Option Addr} {n c n' c' n2 c2 : Nat} (h : RepG W B x (.agg #[.bool d, .slice A n c, .bool d', .slice A' n' c'])) (hn : RepN W B (-x.num) (.agg #[.bool d2, .slice A2 n2 c2])) : RepG W B (-x) (.agg #[.bool d2, .slice A2 n2 c2, .bool d', .slice A' n' c']) :=
  ⟨_, _, _, _, _, _, _, _, rfl, hn, h.den⟩
set_option maxRecDepth 100000 in
set_option maxHeartbeats 4000000 in
theorem rng0_tt (a : Rat) (u : Value) (w : World) (ha : RepG w w.heap.size a u) (b1 : Bits 60000 a.num) (b2 : Bits 60000 (a.den : Int)) (h1 : ((a.num.natAbs : Int) < lim)) (h2 : ((((a.den : Int)).natAbs : Int) < lim)) :
    Calls Tryz.prog 74 #[u, .int .i64 0] w (NewGE a 0 w) := by
  have HB := Lib.hid (Below.refl w.heap.size w)
  obtain ⟨da, Aa, na, ca, ea, Ea, ma, fa, rfl⟩ := ha.shape
  have Va := Lib.hid ha
  clear ha
  replace b1 := Lib.hid b1
  replace b2 := Lib.hid b2
  replace h1 := Lib.hid h1
  replace h2 := Lib.hid h2
  go_enter Tryz.func74, Tryz.ntmps74
  have h := HoldG.new Va.out
  have b := al_below w (.cells #[.bool da, .slice Aa na ca, .bool ea, .slice Ea ma fa] 42)
  replace HB := Lib.hid (bstep HB.out b)
  clear b
  have Ha := Lib.hid h
  clear h Va
  have h := Blk4.new (w.alloc (.cells #[.bool da, .slice Aa na ca, .bool ea, .slice Ea ma fa] 42)) 42 (.bool false) (.slice none 0 0) (.bool false) (.slice none 0 0)
  simp only [World.size_alloc] at h
  have b := al_below (w.alloc (.cells #[.bool da, .slice Aa na ca, .bool ea, .slice Ea ma fa] 42)) (.cells #[.bool false, .slice none 0 0, .bool false, .slice none 0 0] 42)
  replace HB := Lib.hid (bstep HB.out b)
  replace Ha := Lib.hid (Ha.out.below b)
  clear b
  have R0 := Lib.hid (show Blk4 _ (w.heap.size + 1) 42 (.bool false) (.slice none 0 0) (.bool false) (.slice none 0 0) from h)
  clear h
  have H1 := Lib.hid (show decide ((a.num.natAbs : Int) < lim) = true from decide_eq_true h1.out)
  have H2 := Lib.hid (show decide ((((a.den : Int)).natAbs : Int) < lim) = true from decide_eq_true h2.out)
  clear h1 h2
  have gHa0 := Ha.out.c0
  have gHa1 := Ha.out.c1
  have gHa2 := Ha.out.c2
  have gHa3 := Ha.out.c3
  go_wp2_with fail
  refine (H1.out ▸ fits_any a.num _ _ Ha.out.2.num (b1.out.mono (by omega))).mono ?_
  rintro e w51 ⟨rfl, b⟩
  clear gHa0 gHa1 gHa2 gHa3
  have z51 := b.size
  simp only [World.size_alloc] at z51
  replace z51 := Lib.hid z51
  replace HB := Lib.hid (bstep HB.out b)
  replace Ha := Lib.hid (Ha.out.below b)
  replace R0 := Lib.hid (R0.out.below b)
  clear b
  have gHa0 := Ha.out.c0
  have gHa1 := Ha.out.c1
  have gHa2 := Ha.out.c2
  have gHa3 := Ha.out.c3
  go_wp2_with fail
  refine (H2.out ▸ fits_any (a.den : Int) _ _ Ha.out.2.den (b2.out.mono (by omega))).mono ?_
  rintro e w52 ⟨rfl, b⟩
  clear gHa0 gHa1 gHa2 gHa3
  have z52 := b.size
  replace z52 := Lib.hid z52
  replace HB := Lib.hid (bstep HB.out b)
  replace Ha := Lib.hid (Ha.out.below b)
  replace R0 := Lib.hid (R0.out.below b)
  clear b
  have gR00 := R0.out.c0
  have yR00 := R0.out.f0
  have gR01 := R0.out.c1
  have yR01 := R0.out.f1
  have gR02 := R0.out.c2
  have yR02 := R0.out.f2
  have gR03 := R0.out.c3
  have yR03 := R0.out.f3
  have gHa0 := Ha.out.c0
  have gHa1 := Ha.out.c1
  have gHa2 := Ha.out.c2
  have gHa3 := Ha.out.c3
  have HF := Lib.hid (retG (Ha.out.2) R0.out HB.out (by omega))
  clear HB Ha R0
  clear b1 b2 H1 H2
  go_wp2_with fail
  exact bodyPost_ret (v := .tuple #[.agg #[.bool da, .slice Aa na ca, .bool ea, .slice Ea ma fa], .int .i64 0]) (by simp [results, Tryz.results74, go_sem, gR00, gR01, gR02, gR03]) rfl ⟨_, rfl, HF.out.1, HF.out.2.1⟩
set_option maxRecDepth 100000 in
set_option maxHeartbeats 4000000 in
theorem rng0_tf (a : Rat) (u : Value) (w : World) (ha : RepG w w.heap.size a u) (b1 : Bits 60000 a.num) (b2 : Bits 60000 (a.den : Int)) (h1 : ((a.num.natAbs : Int) < lim)) (h2 : ¬ ((((a.den : Int)).natAbs : Int) < lim)) :
    Calls Tryz.prog 74 #[u, .int .i64 0] w (NewGE 0 4 w) := by
  have HB := Lib.hid (Below.refl w.heap.size w)
  obtain ⟨da, Aa, na, ca, ea, Ea, ma, fa, rfl⟩ := ha.shape
  have Va := Lib.hid ha
  clear ha
  replace b1 := Lib.hid b1
  replace b2 := Lib.hid b2
  replace h1 := Lib.hid h1
  replace h2 := Lib.hid h2
  go_enter Tryz.func74, Tryz.ntmps74
  have h := HoldG.new Va.out
  have b := al_below w (.cells #[.bool da, .slice Aa na ca, .bool ea, .slice Ea ma fa] 42)
  replace HB := Lib.hid (bstep HB.out b)
  clear b
  have Ha := Lib.hid h
  clear h Va
  have h := Blk4.new (w.alloc (.cells #[.bool da, .slice Aa na ca, .bool ea, .slice Ea ma fa] 42)) 42 (.bool false) (.slice none 0 0) (.bool false) (.slice none 0 0)
  simp only [World.size_alloc] at h
  have b := al_below (w.alloc (.cells #[.bool da, .slice Aa na ca, .bool ea, .slice Ea ma fa] 42)) (.cells #[.bool false, .slice none 0 0, .bool false, .slice none 0 0] 42)
  replace HB := Lib.hid (bstep HB.out b)
  replace Ha := Lib.hid (Ha.out.below b)
  clear b
  have R0 := Lib.hid (show Blk4 _ (w.heap.size + 1) 42 (.bool false) (.slice none 0 0) (.bool false) (.slice none 0 0) from h)
  clear h
  have H1 := Lib.hid (show decide ((a.num.natAbs : Int) < lim) = true from decide_eq_true h1.out)
  have H2 := Lib.hid (show decide ((((a.den : Int)).natAbs : Int) < lim) = false from decide_eq_false h2.out)
  clear h1 h2
  have gHa0 := Ha.out.c0
  have gHa1 := Ha.out.c1
  have gHa2 := Ha.out.c2
  have gHa3 := Ha.out.c3
  go_wp2_with fail
  refine (H1.out ▸ fits_any a.num _ _ Ha.out.2.num (b1.out.mono (by omega))).mono ?_
  rintro e w51 ⟨rfl, b⟩
  clear gHa0 gHa1 gHa2 gHa3
  have z51 := b.size
  simp only [World.size_alloc] at z51
  replace z51 := Lib.hid z51
  replace HB := Lib.hid (bstep HB.out b)
  replace Ha := Lib.hid (Ha.out.below b)
  replace R0 := Lib.hid (R0.out.below b)
  clear b
  have gHa0 := Ha.out.c0
  have gHa1 := Ha.out.c1
  have gHa2 := Ha.out.c2
  have gHa3 := Ha.out.c3
  go_wp2_with fail
  refine (H2.out ▸ fits_any (a.den : Int) _ _ Ha.out.2.den (b2.out.mono (by omega))).mono ?_
  rintro e w52 ⟨rfl, b⟩
  clear gHa0 gHa1 gHa2 gHa3
  have z52 := b.size
  replace z52 := Lib.hid z52
  replace HB := Lib.hid (bstep HB.out b)
  replace Ha := Lib.hid (Ha.out.below b)
  replace R0 := Lib.hid (R0.out.below b)
  clear b
  go_wp2_with fail
  refine (gof_zero _).mono ?_
  rintro e w53 ⟨v, rfl, h, b⟩
  obtain ⟨d53, A53, n53, c53, e53, E53, m53, f53, rfl⟩ := h.shape
  have z53 := b.size
  replace z53 := Lib.hid z53
  replace HB := Lib.hid (bstep HB.out b)
  replace Ha := Lib.hid (Ha.out.below b)
  replace R0 := Lib.hid (R0.out.below b)
  have V53 := Lib.hid h
  clear h b
  have gR00 := R0.out.c0
  have yR00 := R0.out.f0
  have gR01 := R0.out.c1
  have yR01 := R0.out.f1
  have gR02 := R0.out.c2
  have yR02 := R0.out.f2
  have gR03 := R0.out.c3
  have yR03 := R0.out.f3
  have HF := Lib.hid (retG (V53.out) R0.out HB.out (by omega))
  clear HB Ha R0 V53
  clear b1 b2 H1 H2
  go_wp2_with fail
  exact bodyPost_ret (v := .tuple #[.agg #[.bool d53, .slice A53 n53 c53, .bool e53, .slice E53 m53 f53], .int .i64 4]) (by simp [results, Tryz.results74, go_sem, gR00, gR01, gR02, gR03]) rfl ⟨_, rfl, HF.out.1, HF.out.2.1⟩
set_option maxRecDepth 100000 in
set_option maxHeartbeats 4000000 in
theorem rng0_ft (a : Rat) (u : Value) (w : World) (ha : RepG w w.heap.size a u) (b1 : Bits 60000 a.num) (b2 : Bits 60000 (a.den : Int)) (h1 : ¬ ((a.num.natAbs : Int) < lim)) (h2 : ((((a.den : Int)).natAbs : Int) < lim)) :
    Calls Tryz.prog 74 #[u, .int .i64 0] w (NewGE 0 4 w) := by
  have HB := Lib.hid (Below.refl w.heap.size w)
  obtain ⟨da, Aa, na, ca, ea, Ea, ma, fa, rfl⟩ := ha.shape
  have Va := Lib.hid ha
  clear ha
  replace b1 := Lib.hid b1
  replace b2 := Lib.hid b2
  replace h1 := Lib.hid h1
  replace h2 := Lib.hid h2
  go_enter Tryz.func74, Tryz.ntmps74
  have h := HoldG.new Va.out
  have b := al_below w (.cells #[.bool da, .slice Aa na ca, .bool ea, .slice Ea ma fa] 42)
  replace HB := Lib.hid (bstep HB.out b)
  clear b
  have Ha := Lib.hid h
  clear h Va
  have h := Blk4.new (w.alloc (.cells #[.bool da, .slice Aa na ca, .bool ea, .slice Ea ma fa] 42)) 42 (.bool false) (.slice none 0 0) (.bool false) (.slice none 0 0)
  simp only [World.size_alloc] at h
  have b := al_below (w.alloc (.cells #[.bool da, .slice Aa na ca, .bool ea, .slice Ea ma fa] 42)) (.cells #[.bool false, .slice none 0 0, .bool false, .slice none 0 0] 42)
  replace HB := Lib.hid (bstep HB.out b)
  replace Ha := Lib.hid (Ha.out.below b)
  clear b
  have R0 := Lib.hid (show Blk4 _ (w.heap.size + 1) 42 (.bool false) (.slice none 0 0) (.bool false) (.slice none 0 0) from h)
  clear h
  have H1 := Lib.hid (show decide ((a.num.natAbs : Int) < lim) = false from decide_eq_false h1.out)
  have H2 := Lib.hid (show decide ((((a.den : Int)).natAbs : Int) < lim) = true from decide_eq_true h2.out)
  clear h1 h2
  have gHa0 := Ha.out.c0
  have gHa1 := Ha.out.c1
  have gHa2 := Ha.out.c2
  have gHa3 := Ha.out.c3
  go_wp2_with fail
  refine (H1.out ▸ fits_any a.num _ _ Ha.out.2.num (b1.out.mono (by omega))).mono ?_
  rintro e w51 ⟨rfl, b⟩
  clear gHa0 gHa1 gHa2 gHa3
  have z51 := b.size
  simp only [World.size_alloc] at z51
  replace z51 := Lib.hid z51
  replace HB := Lib.hid (bstep HB.out b)
  replace Ha := Lib.hid (Ha.out.below b)
  replace R0 := Lib.hid (R0.out.below b)
  clear b
  have gHa0 := Ha.out.c0
  have gHa1 := Ha.out.c1
  have gHa2 := Ha.out.c2
  have gHa3 := Ha.out.c3
  go_wp2_with fail
  refine (H2.out ▸ fits_any (a.den : Int) _ _ Ha.out.2.den (b2.out.mono (by omega))).mono ?_
  rintro e w52 ⟨rfl, b⟩
  clear gHa0 gHa1 gHa2 gHa3
  have z52 := b.size
  replace z52 := Lib.hid z52
  replace HB := Lib.hid (bstep HB.out b)
  replace Ha := Lib.hid (Ha.out.below b)
  replace R0 := Lib.hid (R0.out.below b)
  clear b
  go_wp2_with fail
  refine (gof_zero _).mono ?_
  rintro e w53 ⟨v, rfl, h, b⟩
  obtain ⟨d53, A53, n53, c53, e53, E53, m53, f53, rfl⟩ := h.shape
  have z53 := b.size
  replace z53 := Lib.hid z53
  replace HB := Lib.hid (bstep HB.out b)
  replace Ha := Lib.hid (Ha.out.below b)
  replace R0 := Lib.hid (R0.out.below b)
  have V53 := Lib.hid h
  clear h b
  have gR00 := R0.out.c0
  have yR00 := R0.out.f0
  have gR01 := R0.out.c1
  have yR01 := R0.out.f1
  have gR02 := R0.out.c2
  have yR02 := R0.out.f2
  have gR03 := R0.out.c3
  have yR03 := R0.out.f3
  have HF := Lib.hid (retG (V53.out) R0.out HB.out (by omega))
  clear HB Ha R0 V53
  clear b1 b2 H1 H2
  go_wp2_with fail
  exact bodyPost_ret (v := .tuple #[.agg #[.bool d53, .slice A53 n53 c53, .bool e53, .slice E53 m53 f53], .int .i64 4]) (by simp [results, Tryz.results74, go_sem, gR00, gR01, gR02, gR03]) rfl ⟨_, rfl, HF.out.1, HF.out.2.1⟩
set_option maxRecDepth 100000 in
set_option maxHeartbeats 4000000 in
theorem rng0_ff (a : Rat) (u : Value) (w : World) (ha : RepG w w.heap.size a u) (b1 : Bits 60000 a.num) (b2 : Bits 60000 (a.den : Int)) (h1 : ¬ ((a.num.natAbs : Int) < lim)) (h2 : ¬ ((((a.den : Int)).natAbs : Int) < lim)) :
    Calls Tryz.prog 74 #[u, .int .i64 0] w (NewGE 0 4 w) := by
  have HB := Lib.hid (Below.refl w.heap.size w)
  obtain ⟨da, Aa, na, ca, ea, Ea, ma, fa, rfl⟩ := ha.shape
  have Va := Lib.hid ha
  clear ha
  replace b1 := Lib.hid b1
  replace b2 := Lib.hid b2
  replace h1 := Lib.hid h1
  replace h2 := Lib.hid h2
  go_enter Tryz.func74, Tryz.ntmps74
  have h := HoldG.new Va.out
  have b := al_below w (.cells #[.bool da, .slice Aa na ca, .bool ea, .slice Ea ma fa] 42)
  replace HB := Lib.hid (bstep HB.out b)
  clear b
  have Ha := Lib.hid h
  clear h Va
  have h := Blk4.new (w.alloc (.cells #[.bool da, .slice Aa na ca, .bool ea, .slice Ea ma fa] 42)) 42 (.bool false) (.slice none 0 0) (.bool false) (.slice none 0 0)
  simp only [World.size_alloc] at h
  have b := al_below (w.alloc (.cells #[.bool da, .slice Aa na ca, .bool ea, .slice Ea ma fa] 42)) (.cells #[.bool false, .slice none 0 0, .bool false, .slice none 0 0] 42)
  replace HB := Lib.hid (bstep HB.out b)
  replace Ha := Lib.hid (Ha.out.below b)
  clear b
  have R0 := Lib.hid (show Blk4 _ (w.heap.size + 1) 42 (.bool false) (.slice none 0 0) (.bool false) (.slice none 0 0) from h)
  clear h
  have H1 := Lib.hid (show decide ((a.num.natAbs : Int) < lim) = false from decide_eq_false h1.out)
  have H2 := Lib.hid (show decide ((((a.den : Int)).natAbs : Int) < lim) = false from decide_eq_false h2.out)
  clear h1 h2
  have gHa0 := Ha.out.c0
  have gHa1 := Ha.out.c1
  have gHa2 := Ha.out.c2
  have gHa3 := Ha.out.c3
  go_wp2_with fail
  refine (H1.out ▸ fits_any a.num _ _ Ha.out.2.num (b1.out.mono (by omega))).mono ?_
  rintro e w51 ⟨rfl, b⟩
  clear gHa0 gHa1 gHa2 gHa3
  have z51 := b.size
  simp only [World.size_alloc] at z51
  replace z51 := Lib.hid z51
  replace HB := Lib.hid (bstep HB.out b)
  replace Ha := Lib.hid (Ha.out.below b)
  replace R0 := Lib.hid (R0.out.below b)
  clear b
  have gHa0 := Ha.out.c0
  have gHa1 := Ha.out.c1
  have gHa2 := Ha.out.c2
  have gHa3 := Ha.out.c3
  go_wp2_with fail
  refine (H2.out ▸ fits_any (a.den : Int) _ _ Ha.out.2.den (b2.out.mono (by omega))).mono ?_
  rintro e w52 ⟨rfl, b⟩
  clear gHa0 gHa1 gHa2 gHa3
  have z52 := b.size
  replace z52 := Lib.hid z52
  replace HB := Lib.hid (bstep HB.out b)
  replace Ha := Lib.hid (Ha.out.below b)
  replace R0 := Lib.hid (R0.out.below b)
  clear b
  go_wp2_with fail
  refine (gof_zero _).mono ?_
  rintro e w53 ⟨v, rfl, h, b⟩
  obtain ⟨d53, A53, n53, c53, e53, E53, m53, f53, rfl⟩ := h.shape
  have z53 := b.size
  replace z53 := Lib.hid z53
  replace HB := Lib.hid (bstep HB.out b)
  replace Ha := Lib.hid (Ha.out.below b)
  replace R0 := Lib.hid (R0.out.below b)
  have V53 := Lib.hid h
  clear h b
  have gR00 := R0.out.c0
  have yR00 := R0.out.f0
  have gR01 := R0.out.c1
  have yR01 := R0.out.f1
  have gR02 := R0.out.c2
  have yR02 := R0.out.f2
  have gR03 := R0.out.c3
  have yR03 := R0.out.f3
  have HF := Lib.hid (retG (V53.out) R0.out HB.out (by omega))
  clear HB Ha R0 V53
  clear b1 b2 H1 H2
  go_wp2_with fail
  exact bodyPost_ret (v := .tuple #[.agg #[.bool d53, .slice A53 n53 c53, .bool e53, .slice E53 m53 f53], .int .i64 4]) (by simp [results, Tryz.results74, go_sem, gR00, gR01, gR02, gR03]) rfl ⟨_, rfl, HF.out.1, HF.out.2.1⟩
set_option maxRecDepth 100000 in
set_option maxHeartbeats 4000000 in
theorem rng1_tt (a : Rat) (u : Value) (w : World) (ha : RepG w w.heap.size a u) (b1 : Bits 60000 a.num) (b2 : Bits 60000 (a.den : Int)) (h1 : ((a.num.natAbs : Int) < lim)) (h2 : ((((a.den : Int)).natAbs : Int) < lim)) :
    Calls Tryz.prog 74 #[u, .int .i64 1] w (NewGE 0 1 w) := by
  have HB := Lib.hid (Below.refl w.heap.size w)
  obtain ⟨da, Aa, na, ca, ea, Ea, ma, fa, rfl⟩ := ha.shape
  have Va := Lib.hid ha
  clear ha
  replace b1 := Lib.hid b1
  replace b2 := Lib.hid b2
  replace h1 := Lib.hid h1
  replace h2 := Lib.hid h2
  go_enter Tryz.func74, Tryz.ntmps74
  have h := HoldG.new Va.out
  have b := al_below w (.cells #[.bool da, .slice Aa na ca, .bool ea, .slice Ea ma fa] 42)
  replace HB := Lib.hid (bstep HB.out b)
  clear b
  have Ha := Lib.hid h
  clear h Va
  have h := Blk4.new (w.alloc (.cells #[.bool da, .slice Aa na ca, .bool ea, .slice Ea ma fa] 42)) 42 (.bool false) (.slice none 0 0) (.bool false) (.slice none 0 0)
  simp only [World.size_alloc] at h
  have b := al_below (w.alloc (.cells #[.bool da, .slice Aa na ca, .bool ea, .slice Ea ma fa] 42)) (.cells #[.bool false, .slice none 0 0, .bool false, .slice none 0 0] 42)
  replace HB := Lib.hid (bstep HB.out b)
  replace Ha := Lib.hid (Ha.out.below b)
  clear b
  have R0 := Lib.hid (show Blk4 _ (w.heap.size + 1) 42 (.bool false) (.slice none 0 0) (.bool false) (.slice none 0 0) from h)
  clear h
  have H1 := Lib.hid (show decide ((a.num.natAbs : Int) < lim) = true from decide_eq_true h1.out)
  have H2 := Lib.hid (show decide ((((a.den : Int)).natAbs : Int) < lim) = true from decide_eq_true h2.out)
  clear h1 h2
  have gHa0 := Ha.out.c0
  have gHa1 := Ha.out.c1
  have gHa2 := Ha.out.c2
  have gHa3 := Ha.out.c3
  go_wp2_with fail
  refine (H1.out ▸ fits_any a.num _ _ Ha.out.2.num (b1.out.mono (by omega))).mono ?_
  rintro e w51 ⟨rfl, b⟩
  clear gHa0 gHa1 gHa2 gHa3
  have z51 := b.size
  simp only [World.size_alloc] at z51
  replace z51 := Lib.hid z51
  replace HB := Lib.hid (bstep HB.out b)
  replace Ha := Lib.hid (Ha.out.below b)
  replace R0 := Lib.hid (R0.out.below b)
  clear b
  have gHa0 := Ha.out.c0
  have gHa1 := Ha.out.c1
  have gHa2 := Ha.out.c2
  have gHa3 := Ha.out.c3
  go_wp2_with fail
  refine (H2.out ▸ fits_any (a.den : Int) _ _ Ha.out.2.den (b2.out.mono (by omega))).mono ?_
  rintro e w52 ⟨rfl, b⟩
  clear gHa0 gHa1 gHa2 gHa3
  have z52 := b.size
  replace z52 := Lib.hid z52
  replace HB := Lib.hid (bstep HB.out b)
  replace Ha := Lib.hid (Ha.out.below b)
  replace R0 := Lib.hid (R0.out.below b)
  clear b
  go_wp2_with fail
  refine (gof_zero _).mono ?_
  rintro e w53 ⟨v, rfl, h, b⟩
  obtain ⟨d53, A53, n53, c53, e53, E53, m53, f53, rfl⟩ := h.shape
  have z53 := b.size
  replace z53 := Lib.hid z53
  replace HB := Lib.hid (bstep HB.out b)
  replace Ha := Lib.hid (Ha.out.below b)
  replace R0 := Lib.hid (R0.out.below b)
  have V53 := Lib.hid h
  clear h b
  have gR00 := R0.out.c0
  have yR00 := R0.out.f0
  have gR01 := R0.out.c1
  have yR01 := R0.out.f1
  have gR02 := R0.out.c2
  have yR02 := R0.out.f2
  have gR03 := R0.out.c3
  have yR03 := R0.out.f3
  have HF := Lib.hid (retG (V53.out) R0.out HB.out (by omega))
  clear HB Ha R0 V53
  clear b1 b2 H1 H2
  go_wp2_with fail
  exact bodyPost_ret (v := .tuple #[.agg #[.bool d53, .slice A53 n53 c53, .bool e53, .slice E53 m53 f53], .int .i64 1]) (by simp [results, Tryz.results74, go_sem, gR00, gR01, gR02, gR03]) rfl ⟨_, rfl, HF.out.1, HF.out.2.1⟩
set_option maxRecDepth 100000 in
set_option maxHeartbeats 4000000 in
theorem rng1_tf (a : Rat) (u : Value) (w : World) (ha : RepG w w.heap.size a u) (b1 : Bits 60000 a.num) (b2 : Bits 60000 (a.den : Int)) (h1 : ((a.num.natAbs : Int) < lim)) (h2 : ¬ ((((a.den : Int)).natAbs : Int) < lim)) :
    Calls Tryz.prog 74 #[u, .int .i64 1] w (NewGE 0 1 w) := by
  have HB := Lib.hid (Below.refl w.heap.size w)
  obtain ⟨da, Aa, na, ca, ea, Ea, ma, fa, rfl⟩ := ha.shape
  have Va := Lib.hid ha
  clear ha
  replace b1 := Lib.hid b1
  replace b2 := Lib.hid b2
  replace h1 := Lib.hid h1
  replace h2 := Lib.hid h2
  go_enter Tryz.func74, Tryz.ntmps74
  have h := HoldG.new Va.out
  have b := al_below w (.cells #[.bool da, .slice Aa na ca, .bool ea, .slice Ea ma fa] 42)
  replace HB := Lib.hid (bstep HB.out b)
  clear b
  have Ha := Lib.hid h
  clear h Va
  have h := Blk4.new (w.alloc (.cells #[.bool da, .slice Aa na ca, .bool ea, .slice Ea ma fa] 42)) 42 (.bool false) (.slice none 0 0) (.bool false) (.slice none 0 0)
  simp only [World.size_alloc] at h
  have b := al_below (w.alloc (.cells #[.bool da, .slice Aa na ca, .bool ea, .slice Ea ma fa] 42)) (.cells #[.bool false, .slice none 0 0, .bool false, .slice none 0 0] 42)
  replace HB := Lib.hid (bstep HB.out b)
  replace Ha := Lib.hid (Ha.out.below b)
  clear b
  have R0 := Lib.hid (show Blk4 _ (w.heap.size + 1) 42 (.bool false) (.slice none 0 0) (.bool false) (.slice none 0 0) from h)
  clear h
  have H1 := Lib.hid (show decide ((a.num.natAbs : Int) < lim) = true from decide_eq_true h1.out)
  have H2 := Lib.hid (show decide ((((a.den : Int)).natAbs : Int) < lim) = false from decide_eq_false h2.out)
  clear h1 h2
  have gHa0 := Ha.out.c0
  have gHa1 := Ha.out.c1
  have gHa2 := Ha.out.c2
  have gHa3 := Ha.out.c3
  go_wp2_with fail
  refine (H1.out ▸ fits_any a.num _ _ Ha.out.2.num (b1.out.mono (by omega))).mono ?_
  rintro e w51 ⟨rfl, b⟩
  clear gHa0 gHa1 gHa2 gHa3
  have z51 := b.size
  simp only [World.size_alloc] at z51
  replace z51 := Lib.hid z51
  replace HB := Lib.hid (bstep HB.out b)
  replace Ha := Lib.hid (Ha.out.below b)
  replace R0 := Lib.hid (R0.out.below b)
  clear b
  have gHa0 := Ha.out.c0
  have gHa1 := Ha.out.c1
  have gHa2 := Ha.out.c2
  have gHa3 := Ha.out.c3
  go_wp2_with fail
  refine (H2.out ▸ fits_any (a.den : Int) _ _ Ha.out.2.den (b2.out.mono (by omega))).mono ?_
  rintro e w52 ⟨rfl, b⟩
  clear gHa0 gHa1 gHa2 gHa3
  have z52 := b.size
  replace z52 := Lib.hid z52
  replace HB := Lib.hid (bstep HB.out b)
  replace Ha := Lib.hid (Ha.out.below b)
  replace R0 := Lib.hid (R0.out.below b)
  clear b
  go_wp2_with fail
  refine (gof_zero _).mono ?_
  rintro e w53 ⟨v, rfl, h, b⟩
  obtain ⟨d53, A53, n53, c53, e53, E53, m53, f53, rfl⟩ := h.shape
  have z53 := b.size
  replace z53 := Lib.hid z53
  replace HB := Lib.hid (bstep HB.out b)
  replace Ha := Lib.hid (Ha.out.below b)
  replace R0 := Lib.hid (R0.out.below b)
  have V53 := Lib.hid h
  clear h b
  have gR00 := R0.out.c0
  have yR00 := R0.out.f0
  have gR01 := R0.out.c1
  have yR01 := R0.out.f1
  have gR02 := R0.out.c2
  have yR02 := R0.out.f2
  have gR03 := R0.out.c3
  have yR03 := R0.out.f3
  have HF := Lib.hid (retG (V53.out) R0.out HB.out (by omega))
  clear HB Ha R0 V53
  clear b1 b2 H1 H2
  go_wp2_with fail
  exact bodyPost_ret (v := .tuple #[.agg #[.bool d53, .slice A53 n53 c53, .bool e53, .slice E53 m53 f53], .int .i64 1]) (by simp [results, Tryz.results74, go_sem, gR00, gR01, gR02, gR03]) rfl ⟨_, rfl, HF.out.1, HF.out.2.1⟩
set_option maxRecDepth 100000 in
set_option maxHeartbeats 4000000 in
theorem rng1_ft (a : Rat) (u : Value) (w : World) (ha : RepG w w.heap.size a u) (b1 : Bits 60000 a.num) (b2 : Bits 60000 (a.den : Int)) (h1 : ¬ ((a.num.natAbs : Int) < lim)) (h2 : ((((a.den : Int)).natAbs : Int) < lim)) :
    Calls Tryz.prog 74 #[u, .int .i64 1] w (NewGE 0 1 w) := by
  have HB := Lib.hid (Below.refl w.heap.size w)
  obtain ⟨da, Aa, na, ca, ea, Ea, ma, fa, rfl⟩ := ha.shape
  have Va := Lib.hid ha
  clear ha
  replace b1 := Lib.hid b1
  replace b2 := Lib.hid b2
  replace h1 := Lib.hid h1
  replace h2 := Lib.hid h2
  go_enter Tryz.func74, Tryz.ntmps74
  have h := HoldG.new Va.out
  have b := al_below w (.cells #[.bool da, .slice Aa na ca, .bool ea, .slice Ea ma fa] 42)
  replace HB := Lib.hid (bstep HB.out b)
  clear b
  have Ha := Lib.hid h
  clear h Va
  have h := Blk4.new (w.alloc (.cells #[.bool da, .slice Aa na ca, .bool ea, .slice Ea ma fa] 42)) 42 (.bool false) (.slice none 0 0) (.bool false) (.slice none 0 0)
  simp only [World.size_alloc] at h
  have b := al_below (w.alloc (.cells #[.bool da, .slice Aa na ca, .bool ea, .slice Ea ma fa] 42)) (.cells #[.bool false, .slice none 0 0, .bool false, .slice none 0 0] 42)
  replace HB := Lib.hid (bstep HB.out b)
  replace Ha := Lib.hid (Ha.out.below b)
  clear b
  have R0 := Lib.hid (show Blk4 _ (w.heap.size + 1) 42 (.bool false) (.slice none 0 0) (.bool false) (.slice none 0 0) from h)
  clear h
  have H1 := Lib.hid (show decide ((a.num.natAbs : Int) < lim) = false from decide_eq_false h1.out)
  have H2 := Lib.hid (show decide ((((a.den : Int)).natAbs : Int) < lim) = true from decide_eq_true h2.out)
  clear h1 h2
  have gHa0 := Ha.out.c0
  have gHa1 := Ha.out.c1
  have gHa2 := Ha.out.c2
  have gHa3 := Ha.out.c3
  go_wp2_with fail
  refine (H1.out ▸ fits_any a.num _ _ Ha.out.2.num (b1.out.mono (by omega))).mono ?_
  rintro e w51 ⟨rfl, b⟩
  clear gHa0 gHa1 gHa2 gHa3
  have z51 := b.size
  simp only [World.size_alloc] at z51
  replace z51 := Lib.hid z51
  replace HB := Lib.hid (bstep HB.out b)
  replace Ha := Lib.hid (Ha.out.below b)
  replace R0 := Lib.hid (R0.out.below b)
  clear b
  have gHa0 := Ha.out.c0
  have gHa1 := Ha.out.c1
  have gHa2 := Ha.out.c2
  have gHa3 := Ha.out.c3
  go_wp2_with fail
  refine (H2.out ▸ fits_any (a.den : Int) _ _ Ha.out.2.den (b2.out.mono (by omega))).mono ?_
  rintro e w52 ⟨rfl, b⟩
  clear gHa0 gHa1 gHa2 gHa3
  have z52 := b.size
  replace z52 := Lib.hid z52
  replace HB := Lib.hid (bstep HB.out b)
  replace Ha := Lib.hid (Ha.out.below b)
  replace R0 := Lib.hid (R0.out.below b)
  clear b
  go_wp2_with fail
  refine (gof_zero _).mono ?_
  rintro e w53 ⟨v, rfl, h, b⟩
  obtain ⟨d53, A53, n53, c53, e53, E53, m53, f53, rfl⟩ := h.shape
  have z53 := b.size
  replace z53 := Lib.hid z53
  replace HB := Lib.hid (bstep HB.out b)
  replace Ha := Lib.hid (Ha.out.below b)
  replace R0 := Lib.hid (R0.out.below b)
  have V53 := Lib.hid h
  clear h b
  have gR00 := R0.out.c0
  have yR00 := R0.out.f0
  have gR01 := R0.out.c1
  have yR01 := R0.out.f1
  have gR02 := R0.out.c2
  have yR02 := R0.out.f2
  have gR03 := R0.out.c3
  have yR03 := R0.out.f3
  have HF := Lib.hid (retG (V53.out) R0.out HB.out (by omega))
  clear HB Ha R0 V53
  clear b1 b2 H1 H2
  go_wp2_with fail
  exact bodyPost_ret (v := .tuple #[.agg #[.bool d53, .slice A53 n53 c53, .bool e53, .slice E53 m53 f53], .int .i64 1]) (by simp [results, Tryz.results74, go_sem, gR00, gR01, gR02, gR03]) rfl ⟨_, rfl, HF.out.1, HF.out.2.1⟩
set_option maxRecDepth 100000 in
set_option maxHeartbeats 4000000 in
theorem rng1_ff (a : Rat) (u : Value) (w : World) (ha : RepG w w.heap.size a u) (b1 : Bits 60000 a.num) (b2 : Bits 60000 (a.den : Int)) (h1 : ¬ ((a.num.natAbs : Int) < lim)) (h2 : ¬ ((((a.den : Int)).natAbs : Int) < lim)) :
    Calls Tryz.prog 74 #[u, .int .i64 1] w (NewGE 0 1 w) := by
  have HB := Lib.hid (Below.refl w.heap.size w)
  obtain ⟨da, Aa, na, ca, ea, Ea, ma, fa, rfl⟩ := ha.shape
  have Va := Lib.hid ha
  clear ha
  replace b1 := Lib.hid b1
  replace b2 := Lib.hid b2
  replace h1 := Lib.hid h1
  replace h2 := Lib.hid h2
  go_enter Tryz.func74, Tryz.ntmps74
  have h := HoldG.new Va.out
  have b := al_below w (.cells #[.bool da, .slice Aa na ca, .bool ea, .slice Ea ma fa] 42)
  replace HB := Lib.hid (bstep HB.out b)
  clear b
  have Ha := Lib.hid h
  clear h Va
  have h := Blk4.new (w.alloc (.cells #[.bool da, .slice Aa na ca, .bool ea, .slice Ea ma fa] 42)) 42 (.bool false) (.slice none 0 0) (.bool false) (.slice none 0 0)
  simp only [World.size_alloc] at h
  have b := al_below (w.alloc (.cells #[.bool da, .slice Aa na ca, .bool ea, .slice Ea ma fa] 42)) (.cells #[.bool false, .slice none 0 0, .bool false, .slice none 0 0] 42)
  replace HB := Lib.hid (bstep HB.out b)
  replace Ha := Lib.hid (Ha.out.below b)
  clear b
  have R0 := Lib.hid (show Blk4 _ (w.heap.size + 1) 42 (.bool false) (.slice none 0 0) (.bool false) (.slice none 0 0) from h)
  clear h
  have H1 := Lib.hid (show decide ((a.num.natAbs : Int) < lim) = false from decide_eq_false h1.out)
  have H2 := Lib.hid (show decide ((((a.den : Int)).natAbs : Int) < lim) = false from decide_eq_false h2.out)
  clear h1 h2
  have gHa0 := Ha.out.c0
  have gHa1 := Ha.out.c1
  have gHa2 := Ha.out.c2
  have gHa3 := Ha.out.c3
  go_wp2_with fail
  refine (H1.out ▸ fits_any a.num _ _ Ha.out.2.num (b1.out.mono (by omega))).mono ?_
  rintro e w51 ⟨rfl, b⟩
  clear gHa0 gHa1 gHa2 gHa3
  have z51 := b.size
  simp only [World.size_alloc] at z51
  replace z51 := Lib.hid z51
  replace HB := Lib.hid (bstep HB.out b)
  replace Ha := Lib.hid (Ha.out.below b)
  replace R0 := Lib.hid (R0.out.below b)
  clear b
  have gHa0 := Ha.out.c0
  have gHa1 := Ha.out.c1
  have gHa2 := Ha.out.c2
  have gHa3 := Ha.out.c3
  go_wp2_with fail
  refine (H2.out ▸ fits_any (a.den : Int) _ _ Ha.out.2.den (b2.out.mono (by omega))).mono ?_
  rintro e w52 ⟨rfl, b⟩
  clear gHa0 gHa1 gHa2 gHa3
  have z52 := b.size
  replace z52 := Lib.hid z52
  replace HB := Lib.hid (bstep HB.out b)
  replace Ha := Lib.hid (Ha.out.below b)
  replace R0 := Lib.hid (R0.out.below b)
  clear b
  go_wp2_with fail
  refine (gof_zero _).mono ?_
  rintro e w53 ⟨v, rfl, h, b⟩
  obtain ⟨d53, A53, n53, c53, e53, E53, m53, f53, rfl⟩ := h.shape
  have z53 := b.size
  replace z53 := Lib.hid z53
  replace HB := Lib.hid (bstep HB.out b)
  replace Ha := Lib.hid (Ha.out.below b)
  replace R0 := Lib.hid (R0.out.below b)
  have V53 := Lib.hid h
  clear h b
  have gR00 := R0.out.c0
  have yR00 := R0.out.f0
  have gR01 := R0.out.c1
  have yR01 := R0.out.f1
  have gR02 := R0.out.c2
  have yR02 := R0.out.f2
  have gR03 := R0.out.c3
  have yR03 := R0.out.f3
  have HF := Lib.hid (retG (V53.out) R0.out HB.out (by omega))
  clear HB Ha R0 V53
  clear b1 b2 H1 H2
  go_wp2_with fail
  exact bodyPost_ret (v := .tuple #[.agg #[.bool d53, .slice A53 n53 c53, .bool e53, .slice E53 m53 f53], .int .i64 1]) (by simp [results, Tryz.results74, go_sem, gR00, gR01, gR02, gR03]) rfl ⟨_, rfl, HF.out.1, HF.out.2.1⟩
theorem ranged_any (a : Rat) (u : Value) (w : World) (ha : RepG w w.heap.size a u) (b1 : Bits 60000 a.num) (b2 : Bits 60000 (a.den : Int)) : Calls Tryz.prog 74 #[u, .int .i64 0] w (NewGE (fitQ a) (fitR a) w) := by
  have hp := a.den_pos
  by_cases h1 : (a.num.natAbs : Int) < lim
  · by_cases h2 : (((a.den : Int)).natAbs : Int) < lim
    · rw [(fitQ_in ⟨h1, by omega⟩).1, (fitQ_in ⟨h1, by omega⟩).2]
      exact rng0_tt a u w ha b1 b2 h1 h2
    · rw [(fitQ_out (fun h => h2 (den_lim h))).1, (fitQ_out (fun h => h2 (den_lim h))).2]
      exact rng0_tf a u w ha b1 b2 h1 h2
  · rw [(fitQ_out (fun h => h1 h.1)).1, (fitQ_out (fun h => h1 h.1)).2]
    by_cases h2 : (((a.den : Int)).natAbs : Int) < lim
    · exact rng0_ft a u w ha b1 b2 h1 h2
    · exact rng0_ff a u w ha b1 b2 h1 h2
theorem ranged_err (a : Rat) (u : Value) (w : World) (ha : RepG w w.heap.size a u) (b1 : Bits 60000 a.num) (b2 : Bits 60000 (a.den : Int)) : Calls Tryz.prog 74 #[u, .int .i64 1] w (NewGE 0 1 w) := by
  by_cases h1 : (a.num.natAbs : Int) < lim
  · by_cases h2 : (((a.den : Int)).natAbs : Int) < lim
    · exact rng1_tt a u w ha b1 b2 h1 h2
    · exact rng1_tf a u w ha b1 b2 h1 h2
  · by_cases h2 : (((a.den : Int)).natAbs : Int) < lim
    · exact rng1_ft a u w ha b1 b2 h1 h2
    · exact rng1_ff a u w ha b1 b2 h1 h2
set_option maxRecDepth 100000 in
set_option maxHeartbeats 4000000 in
theorem gneg_any (a : Rat) (u : Value) (w : World) (ha : RepG w w.heap.size a u) :
    Calls Tryz.prog 26 #[u] w (NewG (-a) w) := by
  have HB := Lib.hid (Below.refl w.heap.size w)
  obtain ⟨da, Aa, na, ca, ea, Ea, ma, fa, rfl⟩ := ha.shape
  have Va := Lib.hid ha
  clear ha
  go_enter Tryz.func26, Tryz.ntmps26
  have h := HoldG.new Va.out
  have b := al_below w (.cells #[.bool da, .slice Aa na ca, .bool ea, .slice Ea ma fa] 42)
  replace HB := Lib.hid (bstep HB.out b)
  clear b
  have Ha := Lib.hid h
  clear h Va
  have h := Blk4.new (w.alloc (.cells #[.bool da, .slice Aa na ca, .bool ea, .slice Ea ma fa] 42)) 42 (.bool false) (.slice none 0 0) (.bool false) (.slice none 0 0)
  simp only [World.size_alloc] at h
  have b := al_below (w.alloc (.cells #[.bool da, .slice Aa na ca, .bool ea, .slice Ea ma fa] 42)) (.cells #[.bool false, .slice none 0 0, .bool false, .slice none 0 0] 42)
  replace HB := Lib.hid (bstep HB.out b)
  replace Ha := Lib.hid (Ha.out.below b)
  clear b
  have R0 := Lib.hid (show Blk4 _ (w.heap.size + 1) 42 (.bool false) (.slice none 0 0) (.bool false) (.slice none 0 0) from h)
  clear h
  obtain ⟨W51, hW⟩ : ∃ W, W = ((w.alloc (.cells #[.bool da, .slice Aa na ca, .bool ea, .slice Ea ma fa] 42)).alloc (.cells #[.bool false, .slice none 0 0, .bool false, .slice none 0 0] 42)) := ⟨_, rfl⟩
  have HW := Lib.hid hW
  rw [← hW] at HB
  rw [← hW] at Ha
  rw [← hW] at R0
  clear hW
  go_wp2_with fail
  rw [← HW.out]
  clear HW
  have qHa0 := Ha.out.c0
  have qHa1 := Ha.out.c1
  have qHa2 := Ha.out.c2
  have qHa3 := Ha.out.c3
  go_region_held3 (fun w' => w'.cell? ⟨w.heap.size, 0, none⟩ = some (.bool da) ∧ w'.cell? ⟨w.heap.size, 1, none⟩ = some (.slice Aa na ca) ∧ w'.cell? ⟨w.heap.size, 2, none⟩ = some (.bool ea) ∧ w'.cell? ⟨w.heap.size, 3, none⟩ = some (.slice Ea ma fa))
    (exact ⟨by first | with_reducible assumption | (simp only [World.cell?_drew]; with_reducible assumption) | (try simp only [World.cell?_drew]); repeat' (first | with_reducible assumption | with_reducible refine cell_set2 ?_ (by omega) | with_reducible refine cell_set4 ?_ (by omega)), by first | with_reducible assumption | (simp only [World.cell?_drew]; with_reducible assumption) | (try simp only [World.cell?_drew]); repeat' (first | with_reducible assumption | with_reducible refine cell_set2 ?_ (by omega) | with_reducible refine cell_set4 ?_ (by omega)), by first | with_reducible assumption | (simp only [World.cell?_drew]; with_reducible assumption) | (try simp only [World.cell?_drew]); repeat' (first | with_reducible assumption | with_reducible refine cell_set2 ?_ (by omega) | with_reducible refine cell_set4 ?_ (by omega)), by first | with_reducible assumption | (simp only [World.cell?_drew]; with_reducible assumption) | (try simp only [World.cell?_drew]); repeat' (first | with_reducible assumption | with_reducible refine cell_set2 ?_ (by omega) | with_reducible refine cell_set4 ?_ (by omega))⟩)
    (first
      | (go_at_call 15
         refine (neg_any a.num _ _ (Ha.out.2.step (by repeat' (first | with_reducible exact Below.refl _ _ | with_reducible assumption | with_reducible refine below_drew ?_))).num).mono ?_
         rintro e w52 ⟨v52, rfl, h52, b52⟩
         obtain ⟨d52, A52, n52, c52, rfl⟩ := h52.shape'
         have hb52 : Below W51.heap.size W51 w52 := bstep (by repeat' (first | with_reducible exact Below.refl _ _ | with_reducible assumption | with_reducible refine below_drew ?_)) b52
         have V52 := Lib.hid h52
         clear h52
         replace qHa0 := cell_below (Ha.out.c0) hb52
         replace qHa1 := cell_below (Ha.out.c1) hb52
         replace qHa2 := cell_below (Ha.out.c2) hb52
         replace qHa3 := cell_below (Ha.out.c3) hb52
         replace HB := Lib.hid (bstep HB.out hb52)
         replace Ha := Lib.hid (Ha.out.below hb52)
         replace R0 := Lib.hid (R0.out.below hb52)
         clear b52 hb52
         have gR00 := R0.out.c0
         have yR00 := R0.out.f0
         have gR01 := R0.out.c1
         have yR01 := R0.out.f1
         have gR02 := R0.out.c2
         have yR02 := R0.out.f2
         have gR03 := R0.out.c3
         have yR03 := R0.out.f3
         have HF := Lib.hid (retG (RepG.neg Ha.out.2 V52.out) R0.out HB.out (by omega))))
  clear qHa0 qHa1 qHa2 qHa3
  clear HB Ha R0 V52
  go_wp2_with fail
  exact bodyPost_ret (v := .agg #[.bool d52, .slice A52 n52 c52, .bool ea, .slice Ea ma fa]) (by simp [results, Tryz.results26, go_sem, gR00, gR01, gR02, gR03]) rfl ⟨_, rfl, HF.out.1, HF.out.2.1⟩
end Go.Proofs.YtocooajlfpngdaaGreatDoor
