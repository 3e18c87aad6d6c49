/- Contracts of package wide's integers: Add. -/
import Derived.Test.YtgfhniiidejmoaaGreatDoorB26
namespace Go.Proofs.YtgfhniiidejmoaaGreatDoor
open Go.RowKit
set_option linter.unusedVariables false

theorem sgn_add (x y : Int) (h : decide (x < 0) = decide (y < 0)) : sgn (decide (x < 0)) ((x.natAbs : Int) + (y.natAbs : Int)) = x + y := by
  by_cases h1 : x < 0
  · have h2 : y < 0 := by rw [decide_eq_true h1] at h; exact of_decide_eq_true h.symm
    rw [decide_eq_true h1]; show -((x.natAbs : Int) + (y.natAbs : Int)) = x + y; omega
  · have h2 : ¬ y < 0 := by rw [decide_eq_false h1] at h; exact of_decide_eq_false h.symm
    rw [decide_eq_false h1]; show (x.natAbs : Int) + (y.natAbs : Int) = x + y; omega
theorem sgn_sub (x y : Int) (h : decide (x < 0) ≠ decide (y < 0)) : sgn (decide (x < 0)) ((x.natAbs : Int) - (y.natAbs : Int)) = x + y := by
  by_cases h1 : x < 0
  · have h2 : ¬ y < 0 := fun h2 => h (by rw [decide_eq_true h1, decide_eq_true h2])
    rw [decide_eq_true h1]; show -((x.natAbs : Int) - (y.natAbs : Int)) = x + y; omega
  · have h2 : y < 0 := by
      rcases Int.lt_or_le y 0 with h3 | h3
      · exact h3
      · exact absurd (by rw [decide_eq_false h1, decide_eq_false (show ¬ y < 0 by omega)]) h
    rw [decide_eq_false h1]; show (x.natAbs : Int) - (y.natAbs : Int) = x + y; omega
set_option maxRecDepth 100000 in
set_option maxHeartbeats 1000000 in
theorem iadd_same (x y : Int) (u v : Value) (w : World) (hx : RepI w w.heap.size x u) (hy : RepI w w.heap.size y v) (bx : (x.natAbs : Int) < lim) (by_ : (y.natAbs : Int) < lim) (hsame : decide (x < 0) = decide (y < 0)) :
    Calls Tryz.prog 57 #[u, v] w (NewE (fitI (x + y)) (fitE (x + y)) w) := by
  obtain ⟨A, n, c, zs, rfl, hr⟩ := hx
  obtain ⟨E, m, f, ys, rfl, hs⟩ := hy
  have hn := hr.fit.2 bx
  have hm := hs.fit.2 by_
  obtain ⟨b1, hb1⟩ : ∃ b, b = decide (x < 0) := ⟨_, rfl⟩
  obtain ⟨b2, hb2⟩ : ∃ b, b = decide (y < 0) := ⟨_, rfl⟩
  have hsg := sgn_add x y hsame
  rw [← hb1] at hsg
  rw [← hb1, ← hb2]
  obtain rfl : b1 = b2 := by rw [hb1, hb2]; exact hsame
  obtain ⟨W2, hW2, hB2, hS2, p1, p2, p3⟩ := boxes3 w 36 (.bool b1) (.slice A n c) (.bool b1) (.slice E m f) (.bool false) (.slice none 0 0)
  have HW := Lib.hid hW2
  have HR2 := Lib.hid ((hr.below hB2).more hB2.size)
  have HS2 := Lib.hid ((hs.below hB2).more hB2.size)
  have HB := Lib.hid hB2
  have HP3 := Lib.hid p3
  have HIR := Lib.hid (fun A3 n3 c3 ys3 W h => inRange_any b1 ((x.natAbs : Int) + (y.natAbs : Int)) A3 n3 c3 ys3 W h (x + y) hsg)
  obtain ⟨Z, hZ⟩ : ∃ Z, Z = fitI (x + y) := ⟨_, rfl⟩
  obtain ⟨er, her⟩ : ∃ er, er = fitE (x + y) := ⟨_, rfl⟩
  rw [← hZ, ← her] at HIR ⊢
  have g0 := p1.c0
  have g1 := p1.c1
  have g2 := p2.c0
  have g3 := p2.c1
  clear hW2 hr hs hb1 hb2 hsame hB2 hS2 p1 p2 p3 hsg bx by_ hZ her
  go_enter Tryz.func57, Tryz.ntmps57
  go_wp2_with fail
  rw [← HW.out]
  clear HW
  go_region_held3 (fun w' => w'.cell? ⟨w.heap.size, 0, none⟩ = some (.bool b1) ∧ w'.cell? ⟨w.heap.size, 1, none⟩ = some (.slice A n c) ∧ w'.cell? ⟨w.heap.size + 1, 0, none⟩ = some (.bool b1) ∧ w'.cell? ⟨w.heap.size + 1, 1, none⟩ = some (.slice E m f))
    (exact ⟨by first | assumption | (simp only [World.cell?_drew]; assumption) | exact cell_set2 (by assumption) (by omega), by first | assumption | (simp only [World.cell?_drew]; assumption) | exact cell_set2 (by assumption) (by omega), by first | assumption | (simp only [World.cell?_drew]; assumption) | exact cell_set2 (by assumption) (by omega), by first | assumption | (simp only [World.cell?_drew]; assumption) | exact cell_set2 (by assumption) (by omega)⟩)
    (first
      | (go_at_call 54
         refine (nadd_any _ _ A E n c m f _ _ _ (by exact HR2.out) (by exact HS2.out) (by omega) (by omega)).mono ?_
         rintro e w3 h3
         obtain ⟨A3, n3, c3, ys3, rfl, r3, b3'⟩ := h3
         have b3' : Below W2.heap.size W2 w3 := by first | exact b3' | exact below_undrew b3'
         have HR3 := Lib.hid r3
         have HP3' := Lib.hid (HP3.out.below b3')
         have HB3 := Lib.hid (HB.out.trans (b3'.mono HB.out.size))
         have k0 := cell_below g0 b3'
         have k1 := cell_below g1 b3'
         have k2 := cell_below g2 b3'
         have k3 := cell_below g3 b3'
         clear b3' r3)
      | (go_at_call 25
         refine (HIR.out A3 n3 c3 ys3 _ (by exact HR3.out)).mono ?_
         rintro e w4 h4
         obtain ⟨v4, rfl, r4, b4⟩ := h4
         obtain ⟨d4, A4, n4, q4, rfl⟩ := r4.shape
         have b4 : Below w3.heap.size w3 w4 := by first | exact b4 | exact below_undrew b4
         have hk4 := HP3'.out.below b4
         have hb4 := HB3.out.trans (b4.mono HB3.out.size)
         have j0 := cell_below k0 b4
         have j1 := cell_below k1 b4
         have j2 := cell_below k2 b4
         have j3 := cell_below k3 b4
         have c0 := hk4.c0
         have c1 := hk4.c1
         have f0 := hk4.f0
         have f1 := hk4.f1
         have HF := Lib.hid (repI_ret r4 hk4 hb4 (by omega))
         clear hk4 hb4 r4 b4))
  go_wp2_with fail
  exact bodyPost_ret (v := .tuple #[.agg #[.bool d4, .slice A4 n4 q4], .int .i64 er]) (by simp [results, Tryz.results57, go_sem, c0, c1]) rfl ⟨_, rfl, HF.out.1, HF.out.2⟩
theorem swapped (w W : World) (q : Nat) (a0 a1 b0 b1 r0 r1 : Value) (hB : Below w.heap.size w W) (p1 : Blk2 W w.heap.size 36 a0 a1) (p2 : Blk2 W (w.heap.size + 1) 36 b0 b1) (p3 : Blk2 W (w.heap.size + 1 + 1) 36 r0 r1) :
    ∃ W4, W4 = ((((W.drewN q).setCell ⟨w.heap.size, 0, none⟩ b0).setCell ⟨w.heap.size, 1, none⟩ b1).setCell ⟨w.heap.size + 1, 0, none⟩ a0).setCell ⟨w.heap.size + 1, 1, none⟩ a1 ∧ Below w.heap.size w W4 ∧
    Blk2 W4 w.heap.size 36 b0 b1 ∧ Blk2 W4 (w.heap.size + 1) 36 a0 a1 ∧ Blk2 W4 (w.heap.size + 1 + 1) 36 r0 r1 := by
  have h1 : Blk2 (W.drewN q) w.heap.size 36 a0 a1 := p1
  have h2 : Blk2 (W.drewN q) (w.heap.size + 1) 36 b0 b1 := p2
  have h3 : Blk2 (W.drewN q) (w.heap.size + 1 + 1) 36 r0 r1 := p3
  refine ⟨_, rfl, ((((below_drewN hB q).setCell (p := ⟨w.heap.size, 0, none⟩) (Nat.le_refl _) _).setCell (p := ⟨w.heap.size, 1, none⟩) (Nat.le_refl _) _).setCell (p := ⟨w.heap.size + 1, 0, none⟩) (by show w.heap.size ≤ w.heap.size + 1; omega) _).setCell (p := ⟨w.heap.size + 1, 1, none⟩) (by show w.heap.size ≤ w.heap.size + 1; omega) _, ?_, ?_, ?_⟩
  · exact (set2_heap _ (w.heap.size + 1) a0 a1 w.heap.size (by omega)).trans ((h1.set0 b0).set1 b1)
  · exact (Blk2.set0 (show Blk2 _ (w.heap.size + 1) 36 b0 b1 from (set2_heap _ w.heap.size b0 b1 (w.heap.size + 1) (by omega)).trans h2) a0).set1 a1
  · exact (set2_heap _ (w.heap.size + 1) a0 a1 (w.heap.size + 1 + 1) (by omega)).trans ((set2_heap _ w.heap.size b0 b1 (w.heap.size + 1 + 1) (by omega)).trans h3)
set_option maxRecDepth 100000 in
set_option maxHeartbeats 1000000 in
theorem iadd_diff (x y : Int) (u v : Value) (w : World) (hx : RepI w w.heap.size x u) (hy : RepI w w.heap.size y v) (bx : (x.natAbs : Int) < lim) (by_ : (y.natAbs : Int) < lim) (hne : decide (x < 0) ≠ decide (y < 0)) :
    Calls Tryz.prog 57 #[u, v] w (NewE (x + y) 0 w) := by
  obtain ⟨A, n, c, zs, rfl, hr⟩ := hx
  obtain ⟨E, m, f, ys, rfl, hs⟩ := hy
  have hn := hr.fit.2 bx
  have hm := hs.fit.2 by_
  have hsg1 := sgn_sub x y hne
  have hsg2 := sgn_sub y x (Ne.symm hne)
  rw [Int.add_comm] at hsg2
  obtain ⟨b1, hb1⟩ : ∃ b, b = decide (x < 0) := ⟨_, rfl⟩
  obtain ⟨b2, hb2⟩ : ∃ b, b = decide (y < 0) := ⟨_, rfl⟩
  rw [← hb1] at hsg1
  rw [← hb2] at hsg2
  rw [← hb1, ← hb2] at hne ⊢
  have hbe : (b1 == b2) = false := beq_eq_false_iff_ne.2 hne
  obtain ⟨W2, hW2, hB2, hS2, _, _, _⟩ := boxes3 w 36 (.bool b1) (.slice A n c) (.bool b2) (.slice E m f) (.bool false) (.slice none 0 0)
  have hc := ncompare_any _ _ A E n c m f zs ys W2 ((hr.below hB2).more hB2.size) ((hs.below hB2).more hB2.size) (by omega) (by omega)
  rw [hW2] at hc
  obtain ⟨Z, hZ⟩ : ∃ Z, Z = x + y := ⟨_, rfl⟩
  rw [← hZ] at hsg1 hsg2 ⊢
  have HSG1 := Lib.hid hsg1
  have HSG2 := Lib.hid hsg2
  have HR := Lib.hid hr
  have HS := Lib.hid hs
  rcases Int.lt_or_le (x.natAbs : Int) (y.natAbs : Int) with hlt | hle
  · rw [cmpI'_lt hlt] at hc
    have HC := Lib.hid hc
    have HLE := Lib.hid (show (x.natAbs : Int) ≤ (y.natAbs : Int) by omega)
    clear hc hW2 hr hs hb1 hb2 hB2 hS2 hsg1 hsg2 bx by_ hZ hlt
    go_enter Tryz.func57, Tryz.ntmps57
    go_wp2_with fail
    refine HC.out.mono ?_
    rintro e w1 ⟨rfl, q, rfl⟩
    obtain ⟨W3, hW3, hB3, _, p1, p2, p3⟩ := boxes3 w 36 (.bool b1) (.slice A n c) (.bool b2) (.slice E m f) (.bool false) (.slice none 0 0)
    obtain ⟨W4, hW4, hB4, q1, q2, q3⟩ := swapped w W3 q (.bool b1) (.slice A n c) (.bool b2) (.slice E m f) (.bool false) (.slice none 0 0) hB3 p1 p2 p3
    have g0 : W4.cell? ⟨w.heap.size, 0, none⟩ = some (.bool b2) := q1.c0
    have g1 : W4.cell? ⟨w.heap.size, 1, none⟩ = some (.slice E m f) := q1.c1
    have g3 : W4.cell? ⟨w.heap.size + 1, 1, none⟩ = some (.slice A n c) := q2.c1
    have HP3 := Lib.hid q3
    have HB := Lib.hid hB4
    have HX2 := Lib.hid ((HS.out.below hB4).more hB4.size)
    have HY2 := Lib.hid ((HR.out.below hB4).more hB4.size)
    rw [hW3] at hW4
    have HW := Lib.hid hW4
    clear hW3 hW4 hB3 hB4 p1 p2 p3 q1 q2 q3 HR HS
    go_upto_region 5 with (fail)
    rw [← HW.out]
    clear HW
    go_region_held3 (fun w' => w'.cell? ⟨w.heap.size, 0, none⟩ = some (.bool b2) ∧ w'.cell? ⟨w.heap.size, 1, none⟩ = some (.slice E m f) ∧ w'.cell? ⟨w.heap.size + 1, 1, none⟩ = some (.slice A n c))
      (exact ⟨by first | assumption | (simp only [World.cell?_drew]; assumption) | exact cell_set2 (by assumption) (by omega), by first | assumption | (simp only [World.cell?_drew]; assumption) | exact cell_set2 (by assumption) (by omega), by first | assumption | (simp only [World.cell?_drew]; assumption) | exact cell_set2 (by assumption) (by omega)⟩)
      (first
        | (go_at_call 56
           refine (nsub_any _ _ E A m f n c _ _ _ (by exact HX2.out) (by exact HY2.out) (by omega) (by omega) HLE.out).mono ?_
           rintro e w3 h3
           obtain ⟨A3, n3, c3, ys3, rfl, r3, b3⟩ := h3
           have b3 : Below W4.heap.size W4 w3 := by first | exact b3 | exact below_undrew b3
           have HR3 := Lib.hid r3
           have HP3' := Lib.hid (HP3.out.below b3)
           have HB3 := Lib.hid (HB.out.trans (b3.mono HB.out.size))
           have k0 := cell_below g0 b3
           have k1 := cell_below g1 b3
           have k3 := cell_below g3 b3
           clear b3 r3)
        | (go_at_call 48
           refine (signed_any b2 _ A3 n3 c3 ys3 _ (by exact HR3.out)).mono ?_
           rintro e w4 h4
           obtain ⟨v4, rfl, r4, b4⟩ := h4
           obtain ⟨d4, A4, n4, q4, rfl⟩ := r4.shape
           have b4 : Below w3.heap.size w3 w4 := by first | exact b4 | exact below_undrew b4
           have hk4 := HP3'.out.below b4
           have hb4 := HB3.out.trans (b4.mono HB3.out.size)
           have j0 := cell_below k0 b4
           have j1 := cell_below k1 b4
           have j3 := cell_below k3 b4
           have c0 := hk4.c0
           have c1 := hk4.c1
           have f0 := hk4.f0
           have f1 := hk4.f1
           have HF := Lib.hid (repI_ret r4 hk4 hb4 (by omega))
           clear hk4 hb4 r4 b4))
    go_wp2_with fail
    exact bodyPost_ret (v := .tuple #[.agg #[.bool d4, .slice A4 n4 q4], .int .i64 0]) (by simp [results, Tryz.results57, go_sem, c0, c1]) rfl ⟨_, rfl, by have h := HF.out.1; rw [HSG2.out] at h; exact h, HF.out.2⟩
  · obtain ⟨R, hR⟩ : ∃ R, R = cmpI' (x.natAbs : Int) (y.natAbs : Int) := ⟨_, rfl⟩
    have hR0 : ¬ R < 0 := by rw [hR, cmpI', if_neg (by omega)]; split <;> omega
    rw [← hR] at hc
    have HC := Lib.hid hc
    have HLE := Lib.hid hle
    clear hc hW2 hr hs hb1 hb2 hB2 hS2 hsg1 hsg2 bx by_ hZ hle hR
    go_enter Tryz.func57, Tryz.ntmps57
    go_wp2_with fail
    refine HC.out.mono ?_
    rintro e w1 ⟨rfl, q, rfl⟩
    obtain ⟨W3, hW3, hB3, _, p1, p2, p3⟩ := boxes3 w 36 (.bool b1) (.slice A n c) (.bool b2) (.slice E m f) (.bool false) (.slice none 0 0)
    obtain ⟨W4, hW4⟩ : ∃ W4, W4 = W3.drewN q := ⟨_, rfl⟩
    have hB4 : Below w.heap.size w W4 := by rw [hW4]; exact below_drewN hB3 q
    have g0 : W4.cell? ⟨w.heap.size, 0, none⟩ = some (.bool b1) := by rw [hW4]; exact p1.c0
    have g1 : W4.cell? ⟨w.heap.size, 1, none⟩ = some (.slice A n c) := by rw [hW4]; exact p1.c1
    have g3 : W4.cell? ⟨w.heap.size + 1, 1, none⟩ = some (.slice E m f) := by rw [hW4]; exact p2.c1
    have HP3 := Lib.hid (show Blk2 W4 (w.heap.size + 1 + 1) 36 (.bool false) (.slice none 0 0) from by rw [hW4]; exact p3)
    have HB := Lib.hid hB4
    have HX2 := Lib.hid ((HR.out.below hB4).more hB4.size)
    have HY2 := Lib.hid ((HS.out.below hB4).more hB4.size)
    rw [hW3] at hW4
    have HW := Lib.hid hW4
    clear hW3 hW4 hB3 hB4 p1 p2 p3 HR HS
    go_upto_region 5 with (fail)
    rw [← HW.out]
    clear HW
    go_region_held3 (fun w' => w'.cell? ⟨w.heap.size, 0, none⟩ = some (.bool b1) ∧ w'.cell? ⟨w.heap.size, 1, none⟩ = some (.slice A n c) ∧ w'.cell? ⟨w.heap.size + 1, 1, none⟩ = some (.slice E m f))
      (exact ⟨by first | assumption | (simp only [World.cell?_drew]; assumption) | exact cell_set2 (by assumption) (by omega), by first | assumption | (simp only [World.cell?_drew]; assumption) | exact cell_set2 (by assumption) (by omega), by first | assumption | (simp only [World.cell?_drew]; assumption) | exact cell_set2 (by assumption) (by omega)⟩)
      (first
        | (go_at_call 56
           refine (nsub_any _ _ A E n c m f _ _ _ (by exact HX2.out) (by exact HY2.out) (by omega) (by omega) HLE.out).mono ?_
           rintro e w3 h3
           obtain ⟨A3, n3, c3, ys3, rfl, r3, b3⟩ := h3
           have b3 : Below W4.heap.size W4 w3 := by first | exact b3 | exact below_undrew b3
           have HR3 := Lib.hid r3
           have HP3' := Lib.hid (HP3.out.below b3)
           have HB3 := Lib.hid (HB.out.trans (b3.mono HB.out.size))
           have k0 := cell_below g0 b3
           have k1 := cell_below g1 b3
           have k3 := cell_below g3 b3
           clear b3 r3)
        | (go_at_call 48
           refine (signed_any b1 _ A3 n3 c3 ys3 _ (by exact HR3.out)).mono ?_
           rintro e w4 h4
           obtain ⟨v4, rfl, r4, b4⟩ := h4
           obtain ⟨d4, A4, n4, q4, rfl⟩ := r4.shape
           have b4 : Below w3.heap.size w3 w4 := by first | exact b4 | exact below_undrew b4
           have hk4 := HP3'.out.below b4
           have hb4 := HB3.out.trans (b4.mono HB3.out.size)
           have j0 := cell_below k0 b4
           have j1 := cell_below k1 b4
           have j3 := cell_below k3 b4
           have c0 := hk4.c0
           have c1 := hk4.c1
           have f0 := hk4.f0
           have f1 := hk4.f1
           have HF := Lib.hid (repI_ret r4 hk4 hb4 (by omega))
           clear hk4 hb4 r4 b4))
    go_wp2_with fail
    exact bodyPost_ret (v := .tuple #[.agg #[.bool d4, .slice A4 n4 q4], .int .i64 0]) (by simp [results, Tryz.results57, go_sem, c0, c1]) rfl ⟨_, rfl, by have h := HF.out.1; rw [HSG1.out] at h; exact h, HF.out.2⟩
theorem add_fit {x y : Int} (bx : (x.natAbs : Int) < lim) (by_ : (y.natAbs : Int) < lim) (h : decide (x < 0) ≠ decide (y < 0)) : ((x + y).natAbs : Int) < lim := by
  by_cases h1 : x < 0
  · have h2 : ¬ y < 0 := fun h2 => h (by rw [decide_eq_true h1, decide_eq_true h2])
    omega
  · have h2 : y < 0 := by
      rcases Int.lt_or_le y 0 with h3 | h3
      · exact h3
      · exact absurd (by rw [decide_eq_false h1, decide_eq_false (show ¬ y < 0 by omega)]) h
    omega
theorem iadd_any (x y : Int) (u v : Value) (w : World) (hx : RepI w w.heap.size x u) (hy : RepI w w.heap.size y v) (bx : (x.natAbs : Int) < lim) (by_ : (y.natAbs : Int) < lim) :
    Calls Tryz.prog 57 #[u, v] w (NewE (fitI (x + y)) (fitE (x + y)) w) := by
  by_cases h : decide (x < 0) = decide (y < 0)
  · exact iadd_same x y u v w hx hy bx by_ h
  · have hf := add_fit bx by_ h
    rw [show fitI (x + y) = x + y from if_pos hf, show fitE (x + y) = 0 from if_pos hf]
    exact iadd_diff x y u v w hx hy bx by_ h
end Go.Proofs.YtgfhniiidejmoaaGreatDoor
