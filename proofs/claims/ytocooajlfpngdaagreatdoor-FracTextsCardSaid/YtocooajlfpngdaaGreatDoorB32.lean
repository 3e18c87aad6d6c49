/- Contracts of package frac: over, Make, Of. -/
import Derived.Test.YtocooajlfpngdaaGreatDoorB31
namespace Go.Proofs.YtocooajlfpngdaaGreatDoor
open Go.RowKit
set_option linter.unusedVariables false

theorem cmp_nz {q : Int} (h : q ≠ 0) : (cmpI' q 0 == 0) = false := by
  rw [beq_eq_false_iff_ne]
  unfold cmpI'
  repeat' split
  all_goals omega
theorem sgn_lt {q : Int} (h : q < 0) : cmpI' q 0 = -1 := by unfold cmpI'; rw [if_pos h]
theorem sgn_gt {q : Int} (h : 0 < q) : cmpI' q 0 = 1 := by unfold cmpI'; rw [if_neg (by omega), if_pos h]
set_option maxRecDepth 100000 in
set_option maxHeartbeats 1000000 in
theorem over_any (x y : Int) (z : Rat) (u v : Value) (w : World) (hx : RepI w w.heap.size x u) (hy : RepI w w.heap.size y v) (bx : (x.natAbs : Int) < lim) (by_ : (y.natAbs : Int) < lim) (hy0 : y ≠ 0) (e1 : (if y < 0 then -x else x) = z.num) (e2 : (if y < 0 then -y else y) = (z.den : Int)) :
    Calls Tryz.prog 62 #[u, v] w (NewF z w) := by
  have HB := Lib.hid (Below.refl w.heap.size w)
  obtain ⟨dx, Ax, nx, cx, rfl⟩ := hx.shape
  have Vx := Lib.hid hx
  clear hx
  obtain ⟨dy, Ay, ny, cy, rfl⟩ := hy.shape
  have Vy := Lib.hid hy
  clear hy
  replace bx := Lib.hid bx
  replace by_ := Lib.hid by_
  replace hy0 := Lib.hid hy0
  replace e1 := Lib.hid e1
  replace e2 := Lib.hid e2
  go_enter Tryz.func62, Tryz.ntmps62
  have h := HoldI.new Vx.out
  have b := al_below w (.cells #[.bool dx, .slice Ax nx cx] 34)
  replace HB := Lib.hid (bstep HB.out b)
  replace Vy := Lib.hid (Vy.out.step b)
  clear b
  have Hx := Lib.hid h
  clear h Vx
  have h := HoldI.new Vy.out
  simp only [World.size_alloc] at h
  have b := al_below (w.alloc (.cells #[.bool dx, .slice Ax nx cx] 34)) (.cells #[.bool dy, .slice Ay ny cy] 34)
  replace HB := Lib.hid (bstep HB.out b)
  replace Hx := Lib.hid (Hx.out.below b)
  clear b
  have Hy := Lib.hid h
  clear h Vy
  have h := Blk4.new ((w.alloc (.cells #[.bool dx, .slice Ax nx cx] 34)).alloc (.cells #[.bool dy, .slice Ay ny cy] 34)) 36 (.bool false) (.slice none 0 0) (.bool false) (.slice none 0 0)
  simp only [World.size_alloc] at h
  have b := al_below ((w.alloc (.cells #[.bool dx, .slice Ax nx cx] 34)).alloc (.cells #[.bool dy, .slice Ay ny cy] 34)) (.cells #[.bool false, .slice none 0 0, .bool false, .slice none 0 0] 36)
  replace HB := Lib.hid (bstep HB.out b)
  replace Hx := Lib.hid (Hx.out.below b)
  replace Hy := Lib.hid (Hy.out.below b)
  clear b
  have R0 := Lib.hid (show Blk4 _ (w.heap.size + 1 + 1) 36 (.bool false) (.slice none 0 0) (.bool false) (.slice none 0 0) from h)
  clear h
  by_cases hneg : y < 0
  · have E1 := Lib.hid (show -x = z.num by rw [← e1.out, if_pos hneg])
    have E2 := Lib.hid (show -y = (z.den : Int) by rw [← e2.out, if_pos hneg])
    have HS := Lib.hid (sgn_lt hneg)
    clear hneg
    go_wp2_with fail
    refine (isign_lim y _ _ Hy.out.2 by_.out _ HS.out).mono ?_
    rintro e w1 ⟨rfl, b⟩
    have z1 := b.size
    simp only [World.size_alloc] at z1
    replace z1 := Lib.hid z1
    replace HB := Lib.hid (bstep HB.out b)
    replace Hx := Lib.hid (Hx.out.below b)
    replace Hy := Lib.hid (Hy.out.below b)
    replace R0 := Lib.hid (R0.out.below b)
    clear b
    clear HS
    go_wp2_with fail
    have qHx0 := Hx.out.c0
    have qHx1 := Hx.out.c1
    have qHy0 := Hy.out.c0
    have qHy1 := Hy.out.c1
    have z1_ := z1.out
    go_region_with (first
        | (go_at_call 73
           with_reducible show Calls Tryz.prog 73 #[.agg #[.bool dx, .slice Ax nx cx]] _ _
           refine (ineg_lim x _ _ (Hx.out.2.step (by repeat' (first | with_reducible exact Below.refl _ _ | with_reducible assumption | with_reducible refine below_drew ?_))) bx.out).mono ?_
           rintro e w2 ⟨v2, rfl, h2, b2⟩
           obtain ⟨d2, A2, n2, c2, rfl⟩ := h2.shape
           have hb2 : Below w1.heap.size w1 w2 := bstep (by repeat' (first | with_reducible exact Below.refl _ _ | with_reducible assumption | with_reducible refine below_drew ?_)) b2
           have V2 := Lib.hid h2
           clear h2
           replace qHx0 := cell_below (Hx.out.c0) hb2
           replace qHx1 := cell_below (Hx.out.c1) hb2
           replace qHy0 := cell_below (Hy.out.c0) hb2
           replace qHy1 := cell_below (Hy.out.c1) hb2)
        | (go_at_call 73
           with_reducible show Calls Tryz.prog 73 #[.agg #[.bool dy, .slice Ay ny cy]] _ _
           refine (ineg_lim y _ _ (Hy.out.2.step (by repeat' (first | with_reducible exact Below.refl _ _ | with_reducible assumption | with_reducible refine below_drew ?_))) by_.out).mono ?_
           rintro e w3 ⟨v3, rfl, h3, b3⟩
           obtain ⟨d3, A3, n3, c3, rfl⟩ := h3.shape
           have hb3 : Below w1.heap.size w1 w3 := bstep (by repeat' (first | with_reducible exact Below.refl _ _ | with_reducible assumption | with_reducible refine below_drew ?_)) b3
           replace V2 := Lib.hid (V2.out.step (by first | exact b3 | exact undrew b3 | exact undrew (undrew b3)))
           have V3 := Lib.hid h3
           clear h3
           replace qHx0 := cell_below (Hx.out.c0) hb3
           replace qHx1 := cell_below (Hx.out.c1) hb3
           replace qHy0 := cell_below (Hy.out.c0) hb3
           replace qHy1 := cell_below (Hy.out.c1) hb3
           replace HB := Lib.hid (bstep HB.out hb3)
           replace Hx := Lib.hid (Hx.out.below hb3)
           replace Hy := Lib.hid (Hy.out.below hb3)
           replace R0 := Lib.hid (R0.out.below hb3)
           clear b2 hb2 b3 hb3
           have sHxa0 := Hx.out.c0
           have tHxa0 := Hx.out.1.f0
           have sHxa1 := Hx.out.c1
           have tHxa1 := Hx.out.1.f1
           have BK := Lib.hid Hx.out.1
           have NB := Lib.hid (HoldI.made V2.out Hx.out.1)
           replace HB := Lib.hid (below_off (u := .bool d2) (u' := .slice A2 n2 c2) (g := w.heap.size) HB.out (by omega))
           replace Hy := Lib.hid (Hy.out.off (u := .bool d2) (u' := .slice A2 n2 c2) BK.out (by omega))
           replace R0 := Lib.hid (R0.out.off (u := .bool d2) (u' := .slice A2 n2 c2) (g := w.heap.size) (by omega))
           replace V2 := Lib.hid (V2.out.st (u := .bool d2) (u' := .slice A2 n2 c2) BK.out)
           replace V3 := Lib.hid (V3.out.st (u := .bool d2) (u' := .slice A2 n2 c2) BK.out)
           clear Hx BK
           have Hx := NB
           clear NB
           have sHyb0 := Hy.out.c0
           have tHyb0 := Hy.out.1.f0
           have sHyb1 := Hy.out.c1
           have tHyb1 := Hy.out.1.f1
           have BK := Lib.hid Hy.out.1
           have NB := Lib.hid (HoldI.made V3.out Hy.out.1)
           replace HB := Lib.hid (below_off (u := .bool d3) (u' := .slice A3 n3 c3) (g := w.heap.size + 1) HB.out (by omega))
           replace Hx := Lib.hid (Hx.out.off (u := .bool d3) (u' := .slice A3 n3 c3) BK.out (by omega))
           replace R0 := Lib.hid (R0.out.off (u := .bool d3) (u' := .slice A3 n3 c3) (g := w.heap.size + 1) (by omega))
           replace V2 := Lib.hid (V2.out.st (u := .bool d3) (u' := .slice A3 n3 c3) BK.out)
           replace V3 := Lib.hid (V3.out.st (u := .bool d3) (u' := .slice A3 n3 c3) BK.out)
           clear Hy BK
           have Hy := NB
           clear NB
           have gR00 := R0.out.c0
           have yR00 := R0.out.f0
           have gR01 := R0.out.c1
           have yR01 := R0.out.f1
           have gR02 := R0.out.c2
           have yR02 := R0.out.f2
           have gR03 := R0.out.c3
           have yR03 := R0.out.f3
           have gHx0 := Hx.out.c0
           have gHx1 := Hx.out.c1
           have gHy0 := Hy.out.c0
           have gHy1 := Hy.out.c1
           have HF := Lib.hid (retQ (RepF.mk' Hx.out.2 Hy.out.2 E1.out E2.out) R0.out HB.out (by omega))))
    all_goals
      clear HB Hx Hy R0 V2 V3
      clear bx by_ hy0 e1 e2 z1_ qHx0 qHx1 qHy0 qHy1 E1 E2
      go_wp2_with fail
      exact bodyPost_ret (v := .agg #[.bool d2, .slice A2 n2 c2, .bool d3, .slice A3 n3 c3]) (by simp [results, Tryz.results62, go_sem, gR00, gR01, gR02, gR03]) rfl ⟨_, rfl, HF.out.1, HF.out.2.1⟩
  · have hpos : 0 < y := by have := hy0.out; omega
    have E1 := Lib.hid (show x = z.num by rw [← e1.out, if_neg hneg])
    have E2 := Lib.hid (show y = (z.den : Int) by rw [← e2.out, if_neg hneg])
    have HS := Lib.hid (sgn_gt hpos)
    clear hneg hpos
    go_wp2_with fail
    refine (isign_lim y _ _ Hy.out.2 by_.out _ HS.out).mono ?_
    rintro e w1 ⟨rfl, b⟩
    have z1 := b.size
    simp only [World.size_alloc] at z1
    replace z1 := Lib.hid z1
    replace HB := Lib.hid (bstep HB.out b)
    replace Hx := Lib.hid (Hx.out.below b)
    replace Hy := Lib.hid (Hy.out.below b)
    replace R0 := Lib.hid (R0.out.below b)
    clear b
    clear HS
    have gR00 := R0.out.c0
    have yR00 := R0.out.f0
    have gR01 := R0.out.c1
    have yR01 := R0.out.f1
    have gR02 := R0.out.c2
    have yR02 := R0.out.f2
    have gR03 := R0.out.c3
    have yR03 := R0.out.f3
    have gHx0 := Hx.out.c0
    have gHx1 := Hx.out.c1
    have gHy0 := Hy.out.c0
    have gHy1 := Hy.out.c1
    have HF := Lib.hid (retQ (RepF.mk' Hx.out.2 Hy.out.2 E1.out E2.out) R0.out HB.out (by omega))
    clear HB Hx Hy R0
    clear bx by_ hy0 e1 e2 E1 E2
    go_wp2_with fail
    exact bodyPost_ret (v := .agg #[.bool dx, .slice Ax nx cx, .bool dy, .slice Ay ny cy]) (by simp [results, Tryz.results62, go_sem, gR00, gR01, gR02, gR03]) rfl ⟨_, rfl, HF.out.1, HF.out.2.1⟩
/-- what Make returns: p / q and 0, or 0 and 1 if q is 0 -/
def makeE (q : Int) : Int := if q = 0 then 1 else 0
theorem make_zero {x y : Int} (h : y = 0) : Rat.divInt x y = 0 ∧ makeE y = 1 := by subst h; exact ⟨Rat.divInt_zero _, rfl⟩
theorem make_nz {y : Int} (h : y ≠ 0) : makeE y = 0 := if_neg h
set_option maxRecDepth 100000 in
set_option maxHeartbeats 1000000 in
theorem make_z (x y : Int) (u v : Value) (w : World) (hx : RepI w w.heap.size x u) (hy : RepI w w.heap.size y v) (bx : (x.natAbs : Int) < lim) (by_ : (y.natAbs : Int) < lim) (hy0 : y = 0) :
    Calls Tryz.prog 17 #[u, v] w (NewFE 0 1 w) := by
  have HB := Lib.hid (Below.refl w.heap.size w)
  obtain ⟨dx, Ax, nx, cx, rfl⟩ := hx.shape
  have Vx := Lib.hid hx
  clear hx
  obtain ⟨dy, Ay, ny, cy, rfl⟩ := hy.shape
  have Vy := Lib.hid hy
  clear hy
  replace bx := Lib.hid bx
  replace by_ := Lib.hid by_
  go_enter Tryz.func17, Tryz.ntmps17
  have h := HoldI.new Vx.out
  have b := al_below w (.cells #[.bool dx, .slice Ax nx cx] 34)
  replace HB := Lib.hid (bstep HB.out b)
  replace Vy := Lib.hid (Vy.out.step b)
  clear b
  have Hx := Lib.hid h
  clear h Vx
  have h := HoldI.new Vy.out
  simp only [World.size_alloc] at h
  have b := al_below (w.alloc (.cells #[.bool dx, .slice Ax nx cx] 34)) (.cells #[.bool dy, .slice Ay ny cy] 34)
  replace HB := Lib.hid (bstep HB.out b)
  replace Hx := Lib.hid (Hx.out.below b)
  clear b
  have Hy := Lib.hid h
  clear h Vy
  have h := Blk4.new ((w.alloc (.cells #[.bool dx, .slice Ax nx cx] 34)).alloc (.cells #[.bool dy, .slice Ay ny cy] 34)) 36 (.bool false) (.slice none 0 0) (.bool false) (.slice none 0 0)
  simp only [World.size_alloc] at h
  have b := al_below ((w.alloc (.cells #[.bool dx, .slice Ax nx cx] 34)).alloc (.cells #[.bool dy, .slice Ay ny cy] 34)) (.cells #[.bool false, .slice none 0 0, .bool false, .slice none 0 0] 36)
  replace HB := Lib.hid (bstep HB.out b)
  replace Hx := Lib.hid (Hx.out.below b)
  replace Hy := Lib.hid (Hy.out.below b)
  clear b
  have R0 := Lib.hid (show Blk4 _ (w.heap.size + 1 + 1) 36 (.bool false) (.slice none 0 0) (.bool false) (.slice none 0 0) from h)
  clear h
  have HS := Lib.hid (show cmpI' y 0 = 0 by rw [hy0]; decide)
  clear hy0
  go_wp2_with fail
  refine (isign_lim y _ _ Hy.out.2 by_.out _ HS.out).mono ?_
  rintro e w1 ⟨rfl, b⟩
  have z1 := b.size
  simp only [World.size_alloc] at z1
  replace z1 := Lib.hid z1
  replace HB := Lib.hid (bstep HB.out b)
  replace Hx := Lib.hid (Hx.out.below b)
  replace Hy := Lib.hid (Hy.out.below b)
  replace R0 := Lib.hid (R0.out.below b)
  clear b
  clear HS
  have gR00 := R0.out.c0
  have yR00 := R0.out.f0
  have gR01 := R0.out.c1
  have yR01 := R0.out.f1
  have gR02 := R0.out.c2
  have yR02 := R0.out.f2
  have gR03 := R0.out.c3
  have yR03 := R0.out.f3
  have HF := Lib.hid (retQ (RepF.zero _ _) R0.out HB.out (by omega))
  clear HB Hx Hy R0
  clear bx by_
  go_wp2_with fail
  exact bodyPost_ret (v := .tuple #[.agg #[.bool false, .slice none 0 0, .bool false, .slice none 0 0], .int .i64 1]) (by simp [results, Tryz.results17, go_sem, gR00, gR01, gR02, gR03]) rfl ⟨_, rfl, HF.out.1, HF.out.2.1⟩
set_option maxRecDepth 100000 in
set_option maxHeartbeats 1000000 in
theorem make_n (x y : Int) (u v : Value) (w : World) (hx : RepI w w.heap.size x u) (hy : RepI w w.heap.size y v) (bx : (x.natAbs : Int) < lim) (by_ : (y.natAbs : Int) < lim) (hy0 : y ≠ 0) :
    Calls Tryz.prog 17 #[u, v] w (NewFE (Rat.divInt x y) 0 w) := by
  obtain ⟨s, hs'⟩ : ∃ s, s = cmpI' y 0 := ⟨_, rfl⟩
  have hs : (s == 0) = false := by rw [hs']; exact cmp_nz hy0
  have hgp : 0 < Nat.gcd x.natAbs y.natAbs := Nat.gcd_pos_of_pos_right _ (by omega)
  have HS := Lib.hid hs'
  have E := Lib.hid (rat_sgn (p := x) hy0)
  have HY0 := Lib.hid hy0
  obtain ⟨d, hd⟩ : ∃ d, (Nat.gcd x.natAbs y.natAbs : Int) = d := ⟨_, rfl⟩
  rw [hd] at E
  have HD := Lib.hid hd
  have hdp : 0 < d := by omega
  have HSG := Lib.hid (show (y / d < 0) = (y < 0) from propext ⟨fun h => by rcases Int.lt_or_le y 0 with h1 | h1; exact h1; exact absurd (Int.ediv_nonneg h1 (Int.le_of_lt hdp)) (by omega), fun h => by
    have hdv : d ∣ y := hd ▸ gcd_dvd_r x y
    have h1 := Int.ediv_mul_cancel hdv
    rcases Int.lt_or_le (y / d) 0 with h2 | h2
    · exact h2
    · exact absurd (Int.mul_nonneg h2 (Int.le_of_lt hdp)) (by omega)⟩)
  have HQ0 := Lib.hid (show y / d ≠ 0 from fun h => by
    have hdv : d ∣ y := hd ▸ gcd_dvd_r x y
    have h1 := Int.ediv_mul_cancel hdv
    rw [h, Int.zero_mul] at h1
    exact hy0 h1.symm)
  have HDP := Lib.hid (show d ≠ 0 by omega)
  have B1 := Lib.hid (show ((x / d).natAbs : Int) < lim from ediv_ltl bx d)
  have B2 := Lib.hid (show ((y / d).natAbs : Int) < lim from ediv_ltl by_ d)
  clear hs' hgp hd hdp hy0
  have HB := Lib.hid (Below.refl w.heap.size w)
  obtain ⟨dx, Ax, nx, cx, rfl⟩ := hx.shape
  have Vx := Lib.hid hx
  clear hx
  obtain ⟨dy, Ay, ny, cy, rfl⟩ := hy.shape
  have Vy := Lib.hid hy
  clear hy
  replace bx := Lib.hid bx
  replace by_ := Lib.hid by_
  go_enter Tryz.func17, Tryz.ntmps17
  have h := HoldI.new Vx.out
  have b := al_below w (.cells #[.bool dx, .slice Ax nx cx] 34)
  replace HB := Lib.hid (bstep HB.out b)
  replace Vy := Lib.hid (Vy.out.step b)
  clear b
  have Hx := Lib.hid h
  clear h Vx
  have h := HoldI.new Vy.out
  simp only [World.size_alloc] at h
  have b := al_below (w.alloc (.cells #[.bool dx, .slice Ax nx cx] 34)) (.cells #[.bool dy, .slice Ay ny cy] 34)
  replace HB := Lib.hid (bstep HB.out b)
  replace Hx := Lib.hid (Hx.out.below b)
  clear b
  have Hy := Lib.hid h
  clear h Vy
  have h := Blk4.new ((w.alloc (.cells #[.bool dx, .slice Ax nx cx] 34)).alloc (.cells #[.bool dy, .slice Ay ny cy] 34)) 36 (.bool false) (.slice none 0 0) (.bool false) (.slice none 0 0)
  simp only [World.size_alloc] at h
  have b := al_below ((w.alloc (.cells #[.bool dx, .slice Ax nx cx] 34)).alloc (.cells #[.bool dy, .slice Ay ny cy] 34)) (.cells #[.bool false, .slice none 0 0, .bool false, .slice none 0 0] 36)
  replace HB := Lib.hid (bstep HB.out b)
  replace Hx := Lib.hid (Hx.out.below b)
  replace Hy := Lib.hid (Hy.out.below b)
  clear b
  have R0 := Lib.hid (show Blk4 _ (w.heap.size + 1 + 1) 36 (.bool false) (.slice none 0 0) (.bool false) (.slice none 0 0) from h)
  clear h
  go_wp2_with fail
  refine (isign_lim y _ _ Hy.out.2 by_.out s HS.out.symm).mono ?_
  rintro e w1 ⟨rfl, b⟩
  have z1 := b.size
  simp only [World.size_alloc] at z1
  replace z1 := Lib.hid z1
  replace HB := Lib.hid (bstep HB.out b)
  replace Hx := Lib.hid (Hx.out.below b)
  replace Hy := Lib.hid (Hy.out.below b)
  replace R0 := Lib.hid (R0.out.below b)
  clear b
  have gHx0 := Hx.out.c0
  have gHx1 := Hx.out.c1
  have gHy0 := Hy.out.c0
  have gHy1 := Hy.out.c1
  go_wp2_with fail
  refine (lowest_any x y d _ _ _ Hx.out.2 Hy.out.2 bx.out by_.out HD.out HDP.out).mono ?_
  rintro e w2 ⟨u, v, rfl, h, h', b⟩
  obtain ⟨d2, A2, n2, c2, rfl⟩ := h.shape
  obtain ⟨d3, A3, n3, c3, rfl⟩ := h'.shape
  clear gHx0 gHx1 gHy0 gHy1
  have z2 := b.size
  replace z2 := Lib.hid z2
  replace HB := Lib.hid (bstep HB.out b)
  replace Hx := Lib.hid (Hx.out.below b)
  replace Hy := Lib.hid (Hy.out.below b)
  replace R0 := Lib.hid (R0.out.below b)
  have V2 := Lib.hid h
  have V3 := Lib.hid h'
  clear h h' b
  go_wp2_with fail
  have E1 : (if y / d < 0 then -(x / d) else x / d) = (Rat.divInt x y).num := by rw [← E.out.1]; simp only [HSG.out]
  have E2 : (if y / d < 0 then -(y / d) else y / d) = ((Rat.divInt x y).den : Int) := by rw [← E.out.2]; simp only [HSG.out]
  refine (over_any (x / d) (y / d) (Rat.divInt x y) _ _ _ V2.out V3.out B1.out B2.out HQ0.out E1 E2).mono ?_
  rintro e w4 ⟨v, rfl, h, b⟩
  obtain ⟨d4, A4, n4, c4, e4, E4, m4, f4, rfl⟩ := h.shape
  have z4 := b.size
  replace z4 := Lib.hid z4
  replace HB := Lib.hid (bstep HB.out b)
  replace Hx := Lib.hid (Hx.out.below b)
  replace Hy := Lib.hid (Hy.out.below b)
  replace R0 := Lib.hid (R0.out.below b)
  replace V2 := Lib.hid (V2.out.step b)
  replace V3 := Lib.hid (V3.out.step b)
  have V4 := Lib.hid h
  clear h b
  clear E1 E2
  have gR00 := R0.out.c0
  have yR00 := R0.out.f0
  have gR01 := R0.out.c1
  have yR01 := R0.out.f1
  have gR02 := R0.out.c2
  have yR02 := R0.out.f2
  have gR03 := R0.out.c3
  have yR03 := R0.out.f3
  have HF := Lib.hid (retQ (V4.out) R0.out HB.out (by omega))
  clear HB Hx Hy R0 V2 V3 V4
  clear bx by_ HS E HY0 HD HSG HQ0 HDP B1 B2
  go_wp2_with fail
  exact bodyPost_ret (v := .tuple #[.agg #[.bool d4, .slice A4 n4 c4, .bool e4, .slice E4 m4 f4], .int .i64 0]) (by simp [results, Tryz.results17, go_sem, gR00, gR01, gR02, gR03]) rfl ⟨_, rfl, HF.out.1, HF.out.2.1⟩
theorem make_any (x y : Int) (u v : Value) (w : World) (hx : RepI w w.heap.size x u) (hy : RepI w w.heap.size y v) (bx : (x.natAbs : Int) < lim) (by_ : (y.natAbs : Int) < lim) : Calls Tryz.prog 17 #[u, v] w (NewFE (Rat.divInt x y) (makeE y) w) := by
  by_cases h : y = 0
  · rw [(make_zero (x := x) h).1, (make_zero (x := x) h).2]
    exact make_z x y u v w hx hy bx by_ h
  · rw [make_nz h]
    exact make_n x y u v w hx hy bx by_ h
theorem i64_lim {k : Int} (h : -9223372036854775808 ≤ k ∧ k ≤ 9223372036854775807) : (k.natAbs : Int) < lim := bits_lt (Bits.i64 h.1 h.2) (by omega)
set_option maxRecDepth 100000 in
set_option maxHeartbeats 1000000 in
theorem fof_any (p q : Int) (w : World) (hp : -9223372036854775808 ≤ p ∧ p ≤ 9223372036854775807) (hq : -9223372036854775808 ≤ q ∧ q ≤ 9223372036854775807) :
    Calls Tryz.prog 21 #[.int .i64 p, .int .i64 q] w (NewFE (Rat.divInt p q) (makeE q) w) := by
  obtain ⟨ER, hER⟩ : ∃ ER, makeE q = ER := ⟨_, rfl⟩
  obtain ⟨X, hX⟩ : ∃ X, Rat.divInt p q = X := ⟨_, rfl⟩
  rw [hER, hX]
  have HER := Lib.hid hER
  have HX := Lib.hid hX
  clear hER hX
  replace hp := Lib.hid hp
  replace hq := Lib.hid hq
  have HB := Lib.hid (Below.refl w.heap.size w)
  go_enter Tryz.func21, Tryz.ntmps21
  have h := Blk4.new w 36 (.bool false) (.slice none 0 0) (.bool false) (.slice none 0 0)
  have b := al_below w (.cells #[.bool false, .slice none 0 0, .bool false, .slice none 0 0] 36)
  replace HB := Lib.hid (bstep HB.out b)
  clear b
  have R0 := Lib.hid (show Blk4 _ (w.heap.size) 36 (.bool false) (.slice none 0 0) (.bool false) (.slice none 0 0) from h)
  clear h
  go_wp2_with fail
  refine (from_any p _ hp.out.1 hp.out.2).mono ?_
  rintro e w1 ⟨v, rfl, h, b⟩
  obtain ⟨d1, A1, n1, c1, rfl⟩ := h.shape
  have z1 := b.size
  simp only [World.size_alloc] at z1
  replace z1 := Lib.hid z1
  replace HB := Lib.hid (bstep HB.out b)
  replace R0 := Lib.hid (R0.out.below b)
  have V1 := Lib.hid h
  clear h b
  go_wp2_with fail
  refine (from_any q _ hq.out.1 hq.out.2).mono ?_
  rintro e w2 ⟨v, rfl, h, b⟩
  obtain ⟨d2, A2, n2, c2, rfl⟩ := h.shape
  have z2 := b.size
  replace z2 := Lib.hid z2
  replace HB := Lib.hid (bstep HB.out b)
  replace R0 := Lib.hid (R0.out.below b)
  replace V1 := Lib.hid (V1.out.step b)
  have V2 := Lib.hid h
  clear h b
  go_wp2_with fail
  have HM := make_any p q _ _ _ V1.out V2.out (i64_lim hp.out) (i64_lim hq.out)
  rw [HER.out, HX.out] at HM
  refine (HM).mono ?_
  rintro e w3 ⟨v, rfl, h, b⟩
  obtain ⟨d3, A3, n3, c3, e3, E3, m3, f3, rfl⟩ := h.shape
  have z3 := b.size
  replace z3 := Lib.hid z3
  replace HB := Lib.hid (bstep HB.out b)
  replace R0 := Lib.hid (R0.out.below b)
  replace V1 := Lib.hid (V1.out.step b)
  replace V2 := Lib.hid (V2.out.step b)
  have V3 := Lib.hid h
  clear h b
  clear HM
  have gR00 := R0.out.c0
  have yR00 := R0.out.f0
  have gR01 := R0.out.c1
  have yR01 := R0.out.f1
  have gR02 := R0.out.c2
  have yR02 := R0.out.f2
  have gR03 := R0.out.c3
  have yR03 := R0.out.f3
  have HF := Lib.hid (retQ (V3.out) R0.out HB.out (by omega))
  clear HB R0 V1 V2 V3
  clear HER HX hp hq
  go_wp2_with fail
  exact bodyPost_ret (v := .tuple #[.agg #[.bool d3, .slice A3 n3 c3, .bool e3, .slice E3 m3 f3], .int .i64 ER]) (by simp [results, Tryz.results21, go_sem, gR00, gR01, gR02, gR03]) rfl ⟨_, rfl, HF.out.1, HF.out.2.1⟩
end Go.Proofs.YtocooajlfpngdaaGreatDoor
