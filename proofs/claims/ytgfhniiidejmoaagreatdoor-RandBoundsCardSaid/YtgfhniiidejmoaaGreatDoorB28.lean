/- Contracts of package wide's integers: Sub. · Contracts of package wide's integers: Div. · Contracts of package wide's texts: canonical. -/
import Derived.Test.YtgfhniiidejmoaaGreatDoorB27
import Derived.Test.YtgfhniiidejmoaaGreatDoorB14
namespace Go.Proofs.YtgfhniiidejmoaaGreatDoor
open Go.RowKit
set_option linter.unusedVariables false

set_option maxRecDepth 100000 in
set_option maxHeartbeats 1000000 in
theorem isub_any (x y : Int) (u v : Value) (w : World) (hx : RepI w w.heap.size x u) (hy : RepI w w.heap.size y v) (bx : (x.natAbs : Int) < lim) (by_ : (y.natAbs : Int) < lim) :
    Calls Tryz.prog 30 #[u, v] w (NewE (fitI (x - y)) (fitE (x - y)) w) := by
  obtain ⟨b1, A, n, c, rfl⟩ := hx.shape
  obtain ⟨b2, E, m, f, rfl⟩ := hy.shape
  obtain ⟨W2, hW2, hB2, hS2, p1, p2, p3⟩ := boxes3 w 36 (.bool b1) (.slice A n c) (.bool b2) (.slice E m f) (.bool false) (.slice none 0 0)
  have HW := Lib.hid hW2
  have HX := Lib.hid ((hx.below hB2).more hB2.size)
  have HY := Lib.hid ((hy.below hB2).more hB2.size)
  have HB := Lib.hid hB2
  have HP3 := Lib.hid p3
  have HBX := Lib.hid bx
  have HBY := Lib.hid (show (((-y).natAbs : Nat) : Int) < lim by rw [Int.natAbs_neg]; exact by_)
  obtain ⟨N, hN, hyN⟩ := fit_pow by_
  have HYN := Lib.hid hyN
  obtain ⟨Z, hZ⟩ : ∃ Z, Z = fitI (x - y) := ⟨_, rfl⟩
  obtain ⟨er, her⟩ : ∃ er, er = fitE (x - y) := ⟨_, rfl⟩
  have HAD := Lib.hid (fun u v W h1 h2 => iadd_any x (-y) u v W h1 h2 bx HBY.out)
  rw [← Int.sub_eq_add_neg, ← hZ, ← her] at HAD
  rw [← hZ, ← her]
  have g0 := p1.c0
  have g1 := p1.c1
  have g2 := p2.c0
  have g3 := p2.c1
  clear hW2 hx hy bx by_ hB2 hS2 p1 p2 p3 hyN hZ her
  go_enter Tryz.func30, Tryz.ntmps30
  go_wp2_with fail
  rw [← HW.out]
  clear HW
  go_region_held3 (fun w' => w'.cell? ⟨w.heap.size, 0, none⟩ = some (.bool b1) ∧ w'.cell? ⟨w.heap.size, 1, none⟩ = some (.slice A n c) ∧ w'.cell? ⟨w.heap.size + 1, 0, none⟩ = some (.bool b2) ∧ w'.cell? ⟨w.heap.size + 1, 1, none⟩ = some (.slice E m f))
    (exact ⟨by first | assumption | (simp only [World.cell?_drew]; assumption) | exact cell_set2 (by assumption) (by omega), by first | assumption | (simp only [World.cell?_drew]; assumption) | exact cell_set2 (by assumption) (by omega), by first | assumption | (simp only [World.cell?_drew]; assumption) | exact cell_set2 (by assumption) (by omega), by first | assumption | (simp only [World.cell?_drew]; assumption) | exact cell_set2 (by assumption) (by omega)⟩)
    (first
      | (go_at_call 58
         refine (ineg_any y _ _ (by exact HY.out) N (by omega) HYN.out).mono ?_
         rintro e w3 h3
         obtain ⟨v3, rfl, r3, b3⟩ := h3
         obtain ⟨d3, A3, n3, q3, rfl⟩ := r3.shape
         have b3 : Below W2.heap.size W2 w3 := by first | exact b3 | exact below_undrew b3
         have HX3 := Lib.hid ((HX.out.below b3).more b3.size)
         have HY3 := Lib.hid r3
         have HP33 := Lib.hid (HP3.out.below b3)
         have HB3 := Lib.hid (HB.out.trans (b3.mono HB.out.size))
         have k0 := cell_below g0 b3
         have k1 := cell_below g1 b3
         have k2 := cell_below g2 b3
         have k3 := cell_below g3 b3
         clear b3 r3)
      | (go_at_call 57
         refine (HAD.out _ _ _ (by exact HX3.out) (by exact HY3.out)).mono ?_
         rintro e w4 h4
         obtain ⟨v4, rfl, r4, b4⟩ := h4
         obtain ⟨d4, A4, n4, q4, rfl⟩ := r4.shape
         have b4 : Below w3.heap.size w3 w4 := by first | exact b4 | exact below_undrew b4
         have hk4 := HP33.out.below b4
         have hb4 := HB3.out.trans (b4.mono HB3.out.size)
         have j0 := cell_below k0 b4
         have j1 := cell_below k1 b4
         have j2 := cell_below k2 b4
         have j3 := cell_below k3 b4
         have c0 := hk4.c0
         have c1 := hk4.c1
         have f0 := hk4.f0
         have f1 := hk4.f1
         have HF := Lib.hid (repI_ret r4 hk4 hb4 (by omega))
         clear hk4 hb4 r4 b4))
  go_wp2_with fail
  exact bodyPost_ret (v := .tuple #[.agg #[.bool d4, .slice A4 n4 q4], .int .i64 er]) (by simp [results, Tryz.results30, go_sem, c0, c1]) rfl ⟨_, rfl, HF.out.1, HF.out.2⟩
end Go.Proofs.YtgfhniiidejmoaaGreatDoor
namespace Go.Proofs.YtgfhniiidejmoaaGreatDoor
open Go.RowKit
set_option linter.unusedVariables false

/-- both results of a division and its error number -/
def DivE (q r er : Int) (w : World) (e : Ending) (w' : World) : Prop :=
  ∃ u v, e = .returned (.tuple #[u, v, .int .i64 er]) ∧ RepI w' w'.heap.size q u ∧ RepI w' w'.heap.size r v ∧ Below w.heap.size w w'
theorem boxes4 (w : World) (t : TypeId) (a0 a1 b0 b1 r0 r1 s0 s1 : Value) : ∃ W, W = (((w.alloc (.cells #[a0, a1] t)).alloc (.cells #[b0, b1] t)).alloc (.cells #[r0, r1] t)).alloc (.cells #[s0, s1] t) ∧ Below w.heap.size w W ∧
    Blk2 W w.heap.size t a0 a1 ∧ Blk2 W (w.heap.size + 1) t b0 b1 ∧ Blk2 W (w.heap.size + 1 + 1) t r0 r1 ∧ Blk2 W (w.heap.size + 1 + 1 + 1) t s0 s1 := by
  obtain ⟨W, hW, hb, hs, p1, p2, p3⟩ := boxes3 w t a0 a1 b0 b1 r0 r1
  have hn := Blk2.new W t s0 s1
  have hal : Below W.heap.size W (W.alloc (.cells #[s0, s1] t)) := (Below.refl _ _).alloc (Nat.le_refl _) _
  rw [hs] at hn
  exact ⟨W.alloc (.cells #[s0, s1] t), by rw [hW], hb.trans (hal.mono hb.size), p1.below hal, p2.below hal, p3.below hal, hn⟩
theorem div_ret (w W : World) {q r : Int} {d d' b0 b0' : Bool} {A A' A0 A0' : Option Addr} {n n' c c' n0 n0' k0 k0' : Nat} (hq : RepI W W.heap.size q (.agg #[.bool d, .slice A n c])) (hr : RepI W W.heap.size r (.agg #[.bool d', .slice A' n' c']))
    (p4 : Blk2 W (w.heap.size + 1 + 1) 36 (.bool b0) (.slice A0 n0 k0)) (p5 : Blk2 W (w.heap.size + 1 + 1 + 1) 36 (.bool b0') (.slice A0' n0' k0')) (hb : Below w.heap.size w W) (er : Int) :
    DivE q r er w (.returned (.tuple #[.agg #[.bool d, .slice A n c], .agg #[.bool d', .slice A' n' c'], .int .i64 er]))
      ((((W.setCell ⟨w.heap.size + 1 + 1, 0, none⟩ (.bool d)).setCell ⟨w.heap.size + 1 + 1, 1, none⟩ (.slice A n c)).setCell ⟨w.heap.size + 1 + 1 + 1, 0, none⟩ (.bool d')).setCell ⟨w.heap.size + 1 + 1 + 1, 1, none⟩ (.slice A' n' c')) := by
  have p5' : Blk2 ((W.setCell ⟨w.heap.size + 1 + 1, 0, none⟩ (.bool d)).setCell ⟨w.heap.size + 1 + 1, 1, none⟩ (.slice A n c)) (w.heap.size + 1 + 1 + 1) 36 (.bool b0') (.slice A0' n0' k0') := (set2_heap W _ _ _ _ (by omega)).trans p5
  have h1 := (hq.stored (u := .bool d) (u' := .slice A n c) p4).stored (u := .bool d') (u' := .slice A' n' c') p5'
  have h2 := (hr.stored (u := .bool d) (u' := .slice A n c) p4).stored (u := .bool d') (u' := .slice A' n' c') p5'
  refine ⟨_, _, rfl, by simpa [World.setCell] using h1, by simpa [World.setCell] using h2, (((hb.setCell (p := ⟨w.heap.size + 1 + 1, 0, none⟩) ?_ _).setCell (p := ⟨w.heap.size + 1 + 1, 1, none⟩) ?_ _).setCell (p := ⟨w.heap.size + 1 + 1 + 1, 0, none⟩) ?_ _).setCell (p := ⟨w.heap.size + 1 + 1 + 1, 1, none⟩) ?_ _⟩
  · show w.heap.size ≤ w.heap.size + 1 + 1; omega
  · show w.heap.size ≤ w.heap.size + 1 + 1; omega
  · show w.heap.size ≤ w.heap.size + 1 + 1 + 1; omega
  · show w.heap.size ≤ w.heap.size + 1 + 1 + 1; omega
theorem div_of {x y q r : Int} (hy : y ≠ 0) (h : x = (y.natAbs : Int) * q + r) (h0 : 0 ≤ r) (h1 : r < (y.natAbs : Int)) : x / y = sgn (decide (y < 0)) q ∧ x % y = r := by
  have e := (Int.ediv_emod_unique (a := x) (b := (y.natAbs : Int)) (r := r) (q := q) (by omega)).2 ⟨by omega, h0, h1⟩
  by_cases hn : y < 0
  · rw [decide_eq_true hn]
    rw [show (y.natAbs : Int) = -y by omega, Int.ediv_neg, Int.emod_neg] at e
    refine ⟨?_, e.2⟩
    show x / y = -q
    omega
  · rw [decide_eq_false hn]
    rw [show (y.natAbs : Int) = y by omega] at e
    exact e
theorem div_pos_case {x y : Int} (hy : y ≠ 0) (h : ¬ x < 0) : sgn (decide (x < 0) != decide (y < 0)) ((x.natAbs : Int) / (y.natAbs : Int)) = x / y ∧ sgn false ((x.natAbs : Int) % (y.natAbs : Int)) = x % y := by
  have hY : (0 : Int) < (y.natAbs : Int) := by omega
  have e := div_of (x := x) (q := (x.natAbs : Int) / (y.natAbs : Int)) (r := (x.natAbs : Int) % (y.natAbs : Int)) hy (by
    have := Int.mul_ediv_add_emod (x.natAbs : Int) (y.natAbs : Int)
    omega) (Int.emod_nonneg _ (by omega)) (Int.emod_lt_of_pos _ hY)
  rw [e.1, e.2, decide_eq_false h]
  refine ⟨by cases decide (y < 0) <;> rfl, rfl⟩
theorem sgn_flip (b : Bool) (q : Int) : sgn (true != b) q = sgn b (-q) := by
  cases b
  · show -q = -q; rfl
  · show q = - -q; omega
theorem div_zero_case {x y : Int} (hy : y ≠ 0) (h : x < 0) (hr : (x.natAbs : Int) % (y.natAbs : Int) = 0) : sgn (decide (x < 0) != decide (y < 0)) ((x.natAbs : Int) / (y.natAbs : Int)) = x / y ∧ sgn false ((x.natAbs : Int) % (y.natAbs : Int)) = x % y := by
  have hY : (0 : Int) < (y.natAbs : Int) := by omega
  have e := div_of (x := x) (q := -((x.natAbs : Int) / (y.natAbs : Int))) (r := 0) hy (by
    have := Int.mul_ediv_add_emod (x.natAbs : Int) (y.natAbs : Int)
    rw [Int.mul_neg]
    omega) (by omega) hY
  rw [e.1, e.2, decide_eq_true h, sgn_flip, hr]
  exact ⟨rfl, rfl⟩
theorem div_up_case {x y : Int} (hy : y ≠ 0) (h : x < 0) (hr : (x.natAbs : Int) % (y.natAbs : Int) ≠ 0) : sgn (decide (x < 0) != decide (y < 0)) ((x.natAbs : Int) / (y.natAbs : Int) + 1) = x / y ∧ sgn false ((y.natAbs : Int) - (x.natAbs : Int) % (y.natAbs : Int)) = x % y := by
  have hY : (0 : Int) < (y.natAbs : Int) := by omega
  have h1 := Int.emod_nonneg (x.natAbs : Int) (show (y.natAbs : Int) ≠ 0 by omega)
  have h2 := Int.emod_lt_of_pos (x.natAbs : Int) hY
  have e := div_of (x := x) (q := -((x.natAbs : Int) / (y.natAbs : Int) + 1)) (r := (y.natAbs : Int) - (x.natAbs : Int) % (y.natAbs : Int)) hy (by
    have := Int.mul_ediv_add_emod (x.natAbs : Int) (y.natAbs : Int)
    rw [Int.mul_neg, Int.mul_add]
    omega) (by omega) (by omega)
  rw [e.1, e.2, decide_eq_true h, sgn_flip]
  exact ⟨rfl, rfl⟩
set_option maxRecDepth 100000 in
set_option maxHeartbeats 1000000 in
theorem idiv_any (x y : Int) (u v : Value) (w : World) (hx : RepI w w.heap.size x u) (hy : RepI w w.heap.size y v) (bx : (x.natAbs : Int) < lim) (by_ : (y.natAbs : Int) < lim) (hy0 : y ≠ 0) :
    Calls Tryz.prog 29 #[u, v] w (DivE (x / y) (x % y) 0 w) := by
  obtain ⟨A, n, c, zs, rfl, hr⟩ := hx
  obtain ⟨E, m, f, ys, rfl, hs⟩ := hy
  have hn := hr.fit.2 bx
  have hm := hs.fit.2 by_
  have hm0 : ((m : Int) == 0) = false := by
    rw [beq_eq_false_iff_ne]
    intro h
    have := hs.zero.1 (by omega)
    omega
  obtain ⟨b1, hb1⟩ : ∃ b, b = decide (x < 0) := ⟨_, rfl⟩
  obtain ⟨b2, hb2⟩ : ∃ b, b = decide (y < 0) := ⟨_, rfl⟩
  obtain ⟨b3, hb3⟩ : ∃ b, b = (b1 != b2) := ⟨_, rfl⟩
  have hpos := fun h => div_pos_case (x := x) (y := y) hy0 h
  have hzero := fun h => div_zero_case (x := x) (y := y) hy0 h
  have hup := fun h => div_up_case (x := x) (y := y) hy0 h
  rw [← hb1, ← hb2, ← hb3] at hpos hzero hup
  rw [← hb1, ← hb2]
  have hb3' : (!(b1 == b2)) = b3 := hb3.symm
  obtain ⟨W2, hW2, hB2, p1, p2, p3, p4⟩ := boxes4 w 36 (.bool b1) (.slice A n c) (.bool b2) (.slice E m f) (.bool false) (.slice none 0 0) (.bool false) (.slice none 0 0)
  have HDV := Lib.hid (ndiv_any (x.natAbs : Int) (y.natAbs : Int) A E n c m f zs ys W2 ((hr.below hB2).more hB2.size) ((hs.below hB2).more hB2.size) (by omega) (by omega) (by omega))
  have HS2 := Lib.hid ((hs.below hB2).more hB2.size)
  have HW := Lib.hid hW2
  have HB2 := Lib.hid hB2
  have HP2 := Lib.hid (And.intro p3 p4)
  have g0 := p1.c0
  have g1 := p1.c1
  have g2 := p2.c0
  have g3 := p2.c1
  have hrl := Int.emod_lt_of_pos (x.natAbs : Int) (show (0 : Int) < (y.natAbs : Int) by omega)
  obtain ⟨q0, hq0⟩ : ∃ q0, q0 = (x.natAbs : Int) / (y.natAbs : Int) := ⟨_, rfl⟩
  obtain ⟨r0, hr0⟩ : ∃ r0, r0 = (x.natAbs : Int) % (y.natAbs : Int) := ⟨_, rfl⟩
  rw [← hq0, ← hr0] at HDV hpos hzero hup
  rw [← hr0] at hrl
  obtain ⟨Q, hQ⟩ : ∃ Q, Q = x / y := ⟨_, rfl⟩
  obtain ⟨R, hR⟩ : ∃ R, R = x % y := ⟨_, rfl⟩
  rw [← hQ, ← hR] at hpos hzero hup ⊢
  have hxb : b1 = true ↔ x < 0 := by rw [hb1]; exact decide_eq_true_iff
  have hq1 : q0 + 1 < 4294967296 ^ (n + 1) := by
    have h1 := hr.lt
    have h2 : q0 ≤ (x.natAbs : Int) := by rw [hq0]; exact Int.ediv_le_self _ (by omega)
    have h3 := pow_pos' (show (0 : Int) < 4294967296 by omega) n
    rw [Int.pow_succ]
    omega
  have HPZ := Lib.hid (And.intro hpos (And.intro hzero hup))
  clear hr hs hW2 hB2 p1 p2 p3 p4 hb1 hb2 hb3 hq0 hr0 hQ hR hpos hzero hup by_
  go_enter Tryz.func29, Tryz.ntmps29
  go_wp2_with fail
  rw [← HW.out]
  refine HDV.out.mono ?_
  rintro e w1 ⟨A1, n1, c1, zs1, E1, m1, f1, ys1, rfl, hq, hr, hb⟩
  have k0 := cell_below g0 hb
  have k1 := cell_below g1 hb
  have k2 := cell_below g2 hb
  have k3 := cell_below g3 hb
  have HP1 := Lib.hid (And.intro (HP2.out.1.below hb) (HP2.out.2.below hb))
  have HS1 := Lib.hid ((HS2.out.below hb).more hb.size)
  have HB1 := Lib.hid (HB2.out.trans (hb.mono HB2.out.size))
  have hrz := hr.zero
  have HQ := Lib.hid hq
  have HR := Lib.hid hr
  clear hq hr hb HW HDV HS2 HB2 HP2 g0 g1 g2 g3
  rcases Bool.eq_false_or_eq_true b1 with rfl | rfl
  · obtain rfl : b3 = !b2 := by rw [← hb3']; cases b2 <;> rfl
    clear hb3'
    by_cases hm1 : (0 : Int) < (m1 : Int)
    · have hup := HPZ.out.2.2 (hxb.1 rfl) (by omega)
      have HSQ := Lib.hid hup.1
      have HSR := Lib.hid hup.2
      have hn1 := HQ.out.len_le (N := n + 1) (by omega)
      have hm1' := HR.out.len_le (N := m) (by have := HS1.out.lt; omega)
      have hle : r0 ≤ (y.natAbs : Int) := by omega
      clear hup HPZ hxb hq1 bx
      go_wp2_with fail
      refine (fromWord_any 1 w1 (by omega) (by omega)).mono ?_
      rintro e w2 ⟨A2, n2, c2, zs2, rfl, h2, hb2⟩
      have hn2 := h2.len_le (N := 1) (by decide)
      have HA := Lib.hid (nadd_any q0 1 A1 A2 n1 c1 n2 c2 zs1 zs2 w2 ((HQ.out.below hb2).more hb2.size) h2 (by omega) (by omega))
      have l0 := cell_below k0 hb2
      have l1 := cell_below k1 hb2
      have l2 := cell_below k2 hb2
      have l3 := cell_below k3 hb2
      have HP2 := Lib.hid (And.intro (HP1.out.1.below hb2) (HP1.out.2.below hb2))
      have HS2 := Lib.hid ((HS1.out.below hb2).more hb2.size)
      have HR2 := Lib.hid ((HR.out.below hb2).more hb2.size)
      have HB2 := Lib.hid (HB1.out.trans (hb2.mono HB1.out.size))
      clear h2 hb2 HQ HR HP1 HS1 HB1 k0 k1 k2 k3
      go_wp2_with fail
      refine HA.out.mono ?_
      rintro e w3 ⟨A3, n3, c3, zs3, rfl, h3, hb3⟩
      have HSU := Lib.hid (nsub_any (y.natAbs : Int) r0 E E1 m f m1 f1 ys ys1 w3 ((HS2.out.below hb3).more hb3.size) ((HR2.out.below hb3).more hb3.size) (by omega) (by omega) hle)
      have o0 := cell_below l0 hb3
      have o1 := cell_below l1 hb3
      have o2 := cell_below l2 hb3
      have o3 := cell_below l3 hb3
      have HP3 := Lib.hid (And.intro (HP2.out.1.below hb3) (HP2.out.2.below hb3))
      have HB3 := Lib.hid (HB2.out.trans (hb3.mono HB2.out.size))
      have HQ3 := Lib.hid h3
      clear h3 hb3 HR2 HP2 HS2 HB2 l0 l1 l2 l3 HA
      go_wp2_with fail
      refine HSU.out.mono ?_
      rintro e w4 ⟨A4, n4, c4, zs4, rfl, h4, hb4⟩
      have s0 := cell_below o0 hb4
      have s1 := cell_below o1 hb4
      have s2 := cell_below o2 hb4
      have s3 := cell_below o3 hb4
      have HP := Lib.hid (And.intro (HP3.out.1.below hb4) (HP3.out.2.below hb4))
      have HB := Lib.hid (HB3.out.trans (hb4.mono HB3.out.size))
      have HQ := Lib.hid ((HQ3.out.below hb4).more hb4.size)
      have HR := Lib.hid h4
      clear h4 hb4 HQ3 HP3 HB3 HSU o0 o1 o2 o3
      go_wp2_with fail
      refine (signed_any (!b2) _ A3 n3 c3 zs3 _ (by exact HQ.out)).mono ?_
      rintro e w5 ⟨v5, rfl, r5, b5⟩
      obtain ⟨d5, A5, n5, q5, rfl⟩ := r5.shape
      have HR5 := Lib.hid ((HR.out.below b5).more b5.size)
      have HV5 := Lib.hid r5
      have HP45 := Lib.hid (And.intro (HP.out.1.below b5) (HP.out.2.below b5))
      have HB5 := Lib.hid (HB.out.trans (b5.mono HB.out.size))
      clear r5 b5 HQ HR HP HB
      go_wp2_with fail
      refine (signed_any false _ A4 n4 c4 zs4 _ (by exact HR5.out)).mono ?_
      rintro e w6 ⟨v6, rfl, r6, b6⟩
      obtain ⟨d6, A6, n6, q6, rfl⟩ := r6.shape
      have hk4 := HP45.out.1.below b6
      have hk5 := HP45.out.2.below b6
      have f40 := hk4.f0
      have f41 := hk4.f1
      have f50 := hk5.f0
      have f51 := hk5.f1
      have c40 := hk4.c0
      have c41 := hk4.c1
      have c50 := hk5.c0
      have c51 := hk5.c1
      have HF := Lib.hid (div_ret w w6 ((HV5.out.below b6).more b6.size) r6 hk4 hk5 (HB5.out.trans (b6.mono HB5.out.size)) 0)
      rw [HSQ.out, HSR.out] at HF
      clear r6 b6 hk4 hk5 HR5 HV5 HP45 HB5
      go_wp2_with fail
      exact bodyPost_ret (v := .tuple #[.agg #[.bool d5, .slice A5 n5 q5], .agg #[.bool d6, .slice A6 n6 q6], .int .i64 0]) (by simp [results, Tryz.results29, go_sem, c40, c41, c50, c51]) rfl HF.out
    · have hr0 : r0 = 0 := hrz.1 (by omega)
      obtain ⟨h1, h2⟩ := HPZ.out.2.1 (hxb.1 rfl) hr0
      have HSQ := Lib.hid h1
      have HSR := Lib.hid h2
      have HP := HP1
      have HB := HB1
      clear h1 h2 HPZ hxb hq1 bx HP1 HB1 HS1
      go_wp2_with fail
      refine (signed_any (!b2) _ A1 n1 c1 zs1 _ (by exact HQ.out)).mono ?_
      rintro e w5 ⟨v5, rfl, r5, b5⟩
      obtain ⟨d5, A5, n5, q5, rfl⟩ := r5.shape
      have HR5 := Lib.hid ((HR.out.below b5).more b5.size)
      have HV5 := Lib.hid r5
      have HP45 := Lib.hid (And.intro (HP.out.1.below b5) (HP.out.2.below b5))
      have HB5 := Lib.hid (HB.out.trans (b5.mono HB.out.size))
      clear r5 b5 HQ HR HP HB
      go_wp2_with fail
      refine (signed_any false _ E1 m1 f1 ys1 _ (by exact HR5.out)).mono ?_
      rintro e w6 ⟨v6, rfl, r6, b6⟩
      obtain ⟨d6, A6, n6, q6, rfl⟩ := r6.shape
      have hk4 := HP45.out.1.below b6
      have hk5 := HP45.out.2.below b6
      have f40 := hk4.f0
      have f41 := hk4.f1
      have f50 := hk5.f0
      have f51 := hk5.f1
      have c40 := hk4.c0
      have c41 := hk4.c1
      have c50 := hk5.c0
      have c51 := hk5.c1
      have HF := Lib.hid (div_ret w w6 ((HV5.out.below b6).more b6.size) r6 hk4 hk5 (HB5.out.trans (b6.mono HB5.out.size)) 0)
      rw [HSQ.out, HSR.out] at HF
      clear r6 b6 hk4 hk5 HR5 HV5 HP45 HB5
      go_wp2_with fail
      exact bodyPost_ret (v := .tuple #[.agg #[.bool d5, .slice A5 n5 q5], .agg #[.bool d6, .slice A6 n6 q6], .int .i64 0]) (by simp [results, Tryz.results29, go_sem, c40, c41, c50, c51]) rfl HF.out
  · obtain rfl : b3 = b2 := by rw [← hb3']; cases b2 <;> rfl
    clear hb3'
    obtain ⟨h1, h2⟩ := HPZ.out.1 (by first | exact hxb | (rcases Int.lt_or_le x 0 with h | h; exact absurd (hxb.2 h) (by decide); exact h))
    have HSQ := Lib.hid h1
    have HSR := Lib.hid h2
    have HP := HP1
    have HB := HB1
    clear h1 h2 HPZ hxb hq1 bx HP1 HB1 HS1
    go_wp2_with fail
    refine (signed_any b3 _ A1 n1 c1 zs1 _ (by exact HQ.out)).mono ?_
    rintro e w5 ⟨v5, rfl, r5, b5⟩
    obtain ⟨d5, A5, n5, q5, rfl⟩ := r5.shape
    have HR5 := Lib.hid ((HR.out.below b5).more b5.size)
    have HV5 := Lib.hid r5
    have HP45 := Lib.hid (And.intro (HP.out.1.below b5) (HP.out.2.below b5))
    have HB5 := Lib.hid (HB.out.trans (b5.mono HB.out.size))
    clear r5 b5 HQ HR HP HB
    go_wp2_with fail
    refine (signed_any false _ E1 m1 f1 ys1 _ (by exact HR5.out)).mono ?_
    rintro e w6 ⟨v6, rfl, r6, b6⟩
    obtain ⟨d6, A6, n6, q6, rfl⟩ := r6.shape
    have hk4 := HP45.out.1.below b6
    have hk5 := HP45.out.2.below b6
    have f40 := hk4.f0
    have f41 := hk4.f1
    have f50 := hk5.f0
    have f51 := hk5.f1
    have c40 := hk4.c0
    have c41 := hk4.c1
    have c50 := hk5.c0
    have c51 := hk5.c1
    have HF := Lib.hid (div_ret w w6 ((HV5.out.below b6).more b6.size) r6 hk4 hk5 (HB5.out.trans (b6.mono HB5.out.size)) 0)
    rw [HSQ.out, HSR.out] at HF
    clear r6 b6 hk4 hk5 HR5 HV5 HP45 HB5
    go_wp2_with fail
    exact bodyPost_ret (v := .tuple #[.agg #[.bool d5, .slice A5 n5 q5], .agg #[.bool d6, .slice A6 n6 q6], .int .i64 0]) (by simp [results, Tryz.results29, go_sem, c40, c41, c50, c51]) rfl HF.out
end Go.Proofs.YtgfhniiidejmoaaGreatDoor
namespace Go.Proofs.YtgfhniiidejmoaaGreatDoor
open Go.RowKit
set_option linter.unusedVariables false

theorem can_zero {l : List UInt8} (h : 1 < l.length) (h0 : l[0]? = some 48) : canT l = false := by
  unfold canT
  rw [decide_eq_false (by omega), List.head?_eq_getElem?, h0]
  simp
theorem can_bad {l : List UInt8} (i : Nat) (hi : i < l.length) (h : isD l[i] = false) : canT l = false := by
  have : l.all isD = false := by
    rw [List.all_eq_false]
    exact ⟨_, List.getElem_mem hi, by simp [h]⟩
  unfold canT; rw [this, Bool.and_false]
theorem can_good {l : List UInt8} (h0 : 0 < l.length) (h1 : ¬ (1 < l.length ∧ l[0]? = some 48)) (h : ∀ i, (hi : i < l.length) → isD l[i] = true) : canT l = true := by
  have ha : l.all isD = true := by
    rw [List.all_eq_true]
    intro b hb
    obtain ⟨i, hi, rfl⟩ := List.getElem_of_mem hb
    exact h i hi
  unfold canT
  rw [ha, Bool.and_true]
  have e1 : l.isEmpty = false := by rw [List.isEmpty_eq_false_iff]; intro e; rw [e] at h0; simp at h0
  rw [e1]
  by_cases hl : 1 < l.length
  · have : ¬ l[0]? = some 48 := fun h2 => h1 ⟨hl, h2⟩
    rw [List.head?_eq_getElem?]
    simp [this]
  · rw [decide_eq_true (show l.length ≤ 1 by omega)]; rfl
theorem byte_at (s : ByteArray) (i : Nat) (h : i < s.size) : s.data.toList[i]? = some s[i] := by
  rw [List.getElem?_eq_getElem (by rw [← Lib.size_eq]; exact h)]
  rfl
set_option maxRecDepth 10000 in
set_option maxHeartbeats 1000000 in
theorem canonical_any (s : ByteArray) (w : World) (hs : s.size ≤ 100000) :
    Calls Tryz.prog 24 #[.string s] w fun e w' => e = .returned (.bool (canT s.data.toList)) ∧ w = w' := by
  have hl : s.data.toList.length = s.size := (Lib.size_eq s).symm
  have hte : s.toList.isEmpty = decide (s.size = 0) := by
    rw [Lib.toList_data]
    rcases Nat.eq_zero_or_pos s.size with h0 | h0
    · rw [List.length_eq_zero_iff.1 (hl.trans h0), h0]; rfl
    · rw [decide_eq_false (by omega), List.isEmpty_eq_false_iff]
      intro e; rw [e] at hl; simp at hl; omega
  obtain ⟨C, hC⟩ : ∃ C, C = canT s.data.toList := ⟨_, rfl⟩
  rw [← hC]
  rcases Nat.eq_zero_or_pos s.size with h0 | h0
  · rw [h0] at hte
    have hte' : s.toList.isEmpty = true := hte
    obtain rfl : C = false := by rw [hC, List.length_eq_zero_iff.1 (hl.trans h0)]; rfl
    clear hte hC
    go_enter Tryz.func24, Tryz.ntmps24
    go_wp2_with fail
    go_ret
    exact ⟨rfl, rfl⟩
  · rw [decide_eq_false (show ¬ s.size = 0 by omega)] at hte
    by_cases hA : 1 < s.size ∧ (s[0].toNat : Int) = 48
    · obtain ⟨h1, h2⟩ := hA
      obtain rfl : C = false := by
        rw [hC]
        refine can_zero (by omega) ?_
        rw [byte_at s 0 h0]
        congr 1
        exact UInt8.toNat_inj.1 (by show s[0].toNat = 48; omega)
      have h1' : (1 : Int) < (s.size : Int) := by omega
      have h2' : ((s[0].toNat : Int) == 48) = true := by rw [beq_iff_eq]; exact h2
      clear hC
      go_enter Tryz.func24, Tryz.ntmps24
      go_wp2_with fail
      go_ret
      exact ⟨rfl, rfl⟩
    · have HC := Lib.hid hC
      have HA := Lib.hid hA
      have hg : ∀ (hall : ∀ i, (hi : i < s.size) → isD s[i] = true), C = true := fun hall => by
        rw [hC]
        refine can_good (by omega) (fun h => hA ⟨by omega, ?_⟩) (fun i hi => ?_)
        · have := h.2
          rw [byte_at s 0 h0] at this
          injection this with this
          rw [this]; rfl
        · exact hall i (by omega)
      have hb : ∀ i, (hi : i < s.size) → isD s[i] = false → C = false := fun i hi h => by
        rw [hC]
        exact can_bad i (by omega) h
      have HG := Lib.hid hg
      have HB := Lib.hid hb
      clear hg hb hC
      by_cases h1 : (1 : Int) < (s.size : Int)
      · have h2 : ((s[0].toNat : Int) == 48) = false := by rw [beq_eq_false_iff_ne]; exact fun h => hA ⟨by omega, h⟩
        clear hA
        go_enter Tryz.func24, Tryz.ntmps24
        go_wp2_with fail
        go_loop [18] (fun iv => ∃ i : Nat, i ≤ s.size ∧ iv = .int .i64 i ∧ Hid (∀ j, (hj : j < i) → (hi : j < s.size) → isD s[j] = true)) (fun iv => s.size - (intOf iv).toNat)
        case atStart => exact ⟨0, Nat.zero_le _, rfl, fun j hj => by omega⟩
        case round =>
          obtain ⟨i, hi, rfl, HD⟩ := hrel
          by_cases hlt : i < s.size
          · by_cases hd1 : (s[i].toNat : Int) < 48
            · obtain rfl : C = false := HB.out i hlt (by unfold isD; rw [decide_eq_false]; omega)
              go_wp2_with fail
              go_ret
              exact ⟨rfl, rfl⟩
            · by_cases hd2 : (57 : Int) < (s[i].toNat : Int)
              · obtain rfl : C = false := HB.out i hlt (by unfold isD; rw [decide_eq_false]; omega)
                go_wp2_with fail
                go_ret
                exact ⟨rfl, rfl⟩
              · have HD2 := Lib.hid (show ∀ j, (hj : j < i + 1) → (hi : j < s.size) → isD s[j] = true from fun j hj hi => by
                  rcases Nat.lt_or_ge j i with h | h
                  · exact HD.out j h hi
                  · obtain rfl : j = i := by omega
                    unfold isD; rw [decide_eq_true]; omega)
                go_wp2_with fail
                exact ⟨⟨i + 1, by omega, by go_num, HD2.out⟩, by simp [intOf]; omega⟩
          · obtain rfl : C = true := HG.out (fun j hj => HD.out j (by omega) hj)
            go_wp2_with fail
            go_ret
            exact ⟨rfl, rfl⟩
      · clear hA
        go_enter Tryz.func24, Tryz.ntmps24
        go_wp2_with fail
        go_loop [18] (fun iv => ∃ i : Nat, i ≤ s.size ∧ iv = .int .i64 i ∧ Hid (∀ j, (hj : j < i) → (hi : j < s.size) → isD s[j] = true)) (fun iv => s.size - (intOf iv).toNat)
        case atStart => exact ⟨0, Nat.zero_le _, rfl, fun j hj => by omega⟩
        case round =>
          obtain ⟨i, hi, rfl, HD⟩ := hrel
          by_cases hlt : i < s.size
          · by_cases hd1 : (s[i].toNat : Int) < 48
            · obtain rfl : C = false := HB.out i hlt (by unfold isD; rw [decide_eq_false]; omega)
              go_wp2_with fail
              go_ret
              exact ⟨rfl, rfl⟩
            · by_cases hd2 : (57 : Int) < (s[i].toNat : Int)
              · obtain rfl : C = false := HB.out i hlt (by unfold isD; rw [decide_eq_false]; omega)
                go_wp2_with fail
                go_ret
                exact ⟨rfl, rfl⟩
              · have HD2 := Lib.hid (show ∀ j, (hj : j < i + 1) → (hi : j < s.size) → isD s[j] = true from fun j hj hi => by
                  rcases Nat.lt_or_ge j i with h | h
                  · exact HD.out j h hi
                  · obtain rfl : j = i := by omega
                    unfold isD; rw [decide_eq_true]; omega)
                go_wp2_with fail
                exact ⟨⟨i + 1, by omega, by go_num, HD2.out⟩, by simp [intOf]; omega⟩
          · obtain rfl : C = true := HG.out (fun j hj => HD.out j (by omega) hj)
            go_wp2_with fail
            go_ret
            exact ⟨rfl, rfl⟩
end Go.Proofs.YtgfhniiidejmoaaGreatDoor
