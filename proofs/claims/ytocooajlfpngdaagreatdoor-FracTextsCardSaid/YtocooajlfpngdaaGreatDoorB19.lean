/- Contracts of package wide's integers: Compare, Sign, Gcd, Small. · Contracts of package wide's integers: Small. · Contracts of package wide's integers: Mul. -/
import Derived.Test.YtocooajlfpngdaaGreatDoorB18
import Derived.Test.YtocooajlfpngdaaGreatDoorB04
namespace Go.Proofs.YtocooajlfpngdaaGreatDoor
open Go.RowKit
set_option linter.unusedVariables false

theorem box2_below (w : World) (o1 o2 : Obj) : Below w.heap.size w ((w.alloc o1).alloc o2) := ((Below.refl _ _).alloc (Nat.le_refl _) _).alloc (by simp) _
def CmpU (x y : Int) (w : World) (e : Ending) (w' : World) : Prop := e = .returned (.int .i64 (cmpI' x y)) ∧ Below w.heap.size w w'
theorem cmpI'_lt {x y : Int} (h : x < y) : cmpI' x y = -1 := if_pos h
theorem cmpI'_gt {x y : Int} (h : y < x) : cmpI' x y = 1 := by rw [cmpI', if_neg (by omega), if_pos h]
theorem cmpI'_nn {x y : Int} (hx : 0 ≤ x) (hy : 0 ≤ y) : cmpI' (x.natAbs : Int) (y.natAbs : Int) = cmpI' x y := by unfold cmpI'; rw [show (x.natAbs : Int) = x by omega, show (y.natAbs : Int) = y by omega]
theorem cmpI'_pp {x y : Int} (hx : x < 0) (hy : y < 0) : cmpI' (y.natAbs : Int) (x.natAbs : Int) = cmpI' x y := by
  unfold cmpI'
  rw [show (x.natAbs : Int) = -x by omega, show (y.natAbs : Int) = -y by omega]
  split <;> split <;> (try split) <;> omega
set_option maxHeartbeats 1000000 in
theorem icompare_any (x y : Int) (u v : Value) (w : World) (hx : RepI w w.heap.size x u) (hy : RepI w w.heap.size y v) (N : Nat) (hN : N ≤ 100000) (bx : (x.natAbs : Int) < 4294967296 ^ N) (by_ : (y.natAbs : Int) < 4294967296 ^ N) :
    Calls Tryz.prog 80 #[u, v] w (CmpU x y w) := by
  obtain ⟨A, n, c, zs, rfl, hr⟩ := hx
  obtain ⟨E, m, f, ys, rfl, hs⟩ := hy
  have hn := hr.len_le bx
  have hm := hs.len_le by_
  have hal := box2_below w (.cells #[.bool (decide (x < 0)), .slice A n c] 34) (.cells #[.bool (decide (y < 0)), .slice E m f] 34)
  have hr2 := (hr.below hal).more hal.size
  have hs2 := (hs.below hal).more hal.size
  by_cases h1 : x < 0
  · rw [decide_eq_true h1] at hal hr2 hs2 ⊢
    by_cases h2 : y < 0
    · rw [decide_eq_true h2] at hal hr2 hs2 ⊢
      have HC := Lib.hid (ncompare_any _ _ E A m f n c ys zs _ hs2 hr2 (by omega) (by omega))
      rw [cmpI'_pp h1 h2] at HC
      have HAL := Lib.hid hal
      clear hal hr2 hs2 hr hs bx by_
      go_enter Tryz.func80, Tryz.ntmps80
      go_wp2_with fail
      refine HC.out.mono ?_
      rintro e w1 ⟨rfl, q, rfl⟩
      have HF := Lib.hid (below_drewN HAL.out q)
      go_wp2_with fail
      go_ret
      exact ⟨rfl, HF.out⟩
    · rw [decide_eq_false h2] at hal hr2 hs2 ⊢
      rw [show CmpU x y w = fun e w' => e = .returned (.int .i64 (-1)) ∧ Below w.heap.size w w' from by unfold CmpU; rw [cmpI'_lt (by omega)]]
      have HAL := Lib.hid hal
      clear hal hr2 hs2 hr hs bx by_
      go_enter Tryz.func80, Tryz.ntmps80
      go_wp2_with fail
      go_ret
      exact ⟨rfl, HAL.out⟩
  · rw [decide_eq_false h1] at hal hr2 hs2 ⊢
    by_cases h2 : y < 0
    · rw [decide_eq_true h2] at hal hr2 hs2 ⊢
      rw [show CmpU x y w = fun e w' => e = .returned (.int .i64 1) ∧ Below w.heap.size w w' from by unfold CmpU; rw [cmpI'_gt (by omega)]]
      have HAL := Lib.hid hal
      clear hal hr2 hs2 hr hs bx by_
      go_enter Tryz.func80, Tryz.ntmps80
      go_wp2_with fail
      go_ret
      exact ⟨rfl, HAL.out⟩
    · rw [decide_eq_false h2] at hal hr2 hs2 ⊢
      have HC := Lib.hid (ncompare_any _ _ A E n c m f zs ys _ hr2 hs2 (by omega) (by omega))
      rw [cmpI'_nn (by omega) (by omega)] at HC
      have HAL := Lib.hid hal
      clear hal hr2 hs2 hr hs bx by_
      go_enter Tryz.func80, Tryz.ntmps80
      go_wp2_with fail
      refine HC.out.mono ?_
      rintro e w1 ⟨rfl, q, rfl⟩
      have HF := Lib.hid (below_drewN HAL.out q)
      go_wp2_with fail
      go_ret
      exact ⟨rfl, HF.out⟩
theorem box1_below (w : World) (o1 : Obj) : Below w.heap.size w (w.alloc o1) := (Below.refl _ _).alloc (Nat.le_refl _) _
set_option maxHeartbeats 1000000 in
theorem isign_any (x : Int) (u : Value) (w : World) (hx : RepI w w.heap.size x u) (N : Nat) (hN : N ≤ 100000) (bx : (x.natAbs : Int) < 4294967296 ^ N) :
    Calls Tryz.prog 61 #[u] w (CmpU x 0 w) := by
  obtain ⟨d, A, n, c, rfl⟩ := hx.shape
  have hal := box1_below w (.cells #[.bool d, .slice A n c] 34)
  have HC := Lib.hid (icompare_any x 0 _ _ _ ((hx.below hal).more hal.size) (RepI.zero _ _) N hN bx (pow_pos' (by omega) N))
  have HAL := Lib.hid hal
  clear hal hx bx
  go_enter Tryz.func61, Tryz.ntmps61
  go_wp2_with fail
  refine HC.out.mono ?_
  rintro e w1 ⟨rfl, hb⟩
  have HF := Lib.hid (HAL.out.trans (hb.mono HAL.out.size))
  clear hb
  go_wp2_with fail
  go_ret
  exact ⟨rfl, HF.out⟩
set_option maxHeartbeats 1000000 in
theorem igcd_any (x y : Int) (u v : Value) (w : World) (hx : RepI w w.heap.size x u) (hy : RepI w w.heap.size y v) (N : Nat) (hN : N ≤ 40000) (bx : (x.natAbs : Int) < 4294967296 ^ N) (by_ : (y.natAbs : Int) < 4294967296 ^ N) :
    Calls Tryz.prog 69 #[u, v] w (NewI (Nat.gcd x.natAbs y.natAbs : Int) w) := by
  obtain ⟨A, n, c, zs, rfl, hr⟩ := hx
  obtain ⟨E, m, f, ys, rfl, hs⟩ := hy
  have hn := hr.len_le bx
  have hm := hs.len_le by_
  obtain ⟨b1, hb1⟩ : ∃ b, b = decide (x < 0) := ⟨_, rfl⟩
  obtain ⟨b2, hb2⟩ : ∃ b, b = decide (y < 0) := ⟨_, rfl⟩
  rw [← hb1, ← hb2]
  obtain ⟨W2, hW2, hB2, hS2, p1, p2, p3⟩ := boxes3 w 34 (.bool b1) (.slice A n c) (.bool b2) (.slice E m f) (.bool false) (.slice none 0 0)
  have HW := Lib.hid hW2
  have HG := Lib.hid (ngcd_any N x.natAbs y.natAbs A E n c m f zs ys W2 ((hr.below hB2).more hB2.size) ((hs.below hB2).more hB2.size) hn hm hN)
  have HB := Lib.hid hB2
  have HP3 := Lib.hid p3
  have HD := Lib.hid (show sgn false (Nat.gcd x.natAbs y.natAbs : Int) = (Nat.gcd x.natAbs y.natAbs : Int) from rfl)
  have g1 := p1.c1
  have g3 := p2.c1
  clear hr hs hb1 hb2 hW2 hB2 p1 p2 p3 bx by_
  go_enter Tryz.func69, Tryz.ntmps69
  go_wp2_with fail
  rw [← HW.out]
  refine HG.out.mono ?_
  rintro e w1 ⟨A1, n1, c1', zs1, rfl, hr1, hb1⟩
  have HS := Lib.hid (signed_any false _ A1 n1 c1' zs1 w1 hr1)
  have HP1 := Lib.hid (HP3.out.below hb1)
  have HB1 := Lib.hid (HB.out.trans (hb1.mono HB.out.size))
  clear hr1 hb1
  go_wp2_with fail
  refine HS.out.mono ?_
  rintro e w2 ⟨v, rfl, hr, hb⟩
  obtain ⟨d1, A2, n2, k2, rfl⟩ := hr.shape
  have hk2 := HP1.out.below hb
  have f0 := hk2.f0
  have f1 := hk2.f1
  have c0 := hk2.c0
  have c1 := hk2.c1
  have HF := Lib.hid (newI_ret hr hk2 (HB1.out.trans (hb.mono HB1.out.size)) (by omega))
  rw [HD.out] at HF
  clear hr hb hk2
  go_wp2_with fail
  exact bodyPost_ret (v := .agg #[.bool d1, .slice A2 n2 k2]) (by simp [results, Tryz.results69, go_sem, c0, c1]) rfl HF.out
end Go.Proofs.YtocooajlfpngdaaGreatDoor
namespace Go.Proofs.YtocooajlfpngdaaGreatDoor
open Go.RowKit
set_option linter.unusedVariables false

def isI (z : Int) : Bool := decide (-9223372036854775808 ≤ z ∧ z ≤ 9223372036854775807)
end Go.Proofs.YtocooajlfpngdaaGreatDoor
namespace Go.Proofs.YtocooajlfpngdaaGreatDoor
open Go.RowKit
set_option linter.unusedVariables false

theorem nat_512a : (4294967296 : Nat) ^ 512 ≤ 2 ^ 16384 := by decide +kernel
theorem nat_512b : (2 : Nat) ^ 16384 ≤ 4294967296 ^ 512 := by decide +kernel
theorem lim_512 : ∃ N : Nat, N = 512 ∧ lim = 4294967296 ^ N :=
  ⟨512, rfl, Int.le_antisymm (pow_le_cast 2 16384 4294967296 512 2 4294967296 rfl rfl nat_512b) (pow_le_cast 4294967296 512 2 16384 4294967296 2 rfl rfl nat_512a)⟩
theorem fit_pow {z : Int} (h : (z.natAbs : Int) < lim) : ∃ N : Nat, N = 512 ∧ (z.natAbs : Int) < 4294967296 ^ N := by
  obtain ⟨N, h1, h2⟩ := lim_512
  exact ⟨N, h1, by rw [← h2]; exact h⟩
theorem NatR.fit {w : World} {B n c : Nat} {x : Int} {A : Option Addr} {zs : List Int} (h : NatR w B x A n c zs) : n ≤ 512 ↔ x < lim := by
  obtain ⟨N, h1, h2⟩ := lim_512
  rw [h2]
  constructor
  · intro hn
    exact Int.lt_of_lt_of_le h.lt (pow_mono' (by omega) (by omega))
  · intro hx
    have := h.len_le hx
    omega
/-- the integer of a size with a sign, if it is one, and its error number -/
def fitI (z : Int) : Int := if (z.natAbs : Int) < lim then z else 0
def fitE (z : Int) : Int := if (z.natAbs : Int) < lim then 0 else 4
theorem inRange_any (neg : Bool) (x : Int) (A : Option Addr) (n c : Nat) (zs : List Int) (w : World) (h : NatR w w.heap.size x A n c zs) (z : Int) (hz : sgn neg x = z) :
    Calls Tryz.prog 82 #[.bool neg, .slice A n c] w (NewE (fitI z) (fitE z) w) := by
  have ha : (z.natAbs : Int) = x := by rw [← hz]; exact sgn_abs neg h.nonneg
  by_cases hf : x < lim
  · have e1 : fitI z = sgn neg x := by rw [fitI, ha, if_pos hf, hz]
    have e2 : fitE z = 0 := by rw [fitE, ha, if_pos hf]
    rw [e1, e2]
    exact inRange_ok neg x A n c zs w h (h.fit.2 hf)
  · have e1 : fitI z = 0 := by rw [fitI, ha, if_neg hf]
    have e2 : fitE z = 4 := by rw [fitE, ha, if_neg hf]
    rw [e1, e2]
    exact inRange_no neg A n c w (by have := h.fit; omega)
theorem sgn_mul (x y : Int) : sgn (decide (x < 0) != decide (y < 0)) ((x.natAbs : Int) * (y.natAbs : Int)) = x * y := by
  by_cases h1 : x < 0
  · by_cases h2 : y < 0
    · rw [decide_eq_true h1, decide_eq_true h2, show (x.natAbs : Int) = -x by omega, show (y.natAbs : Int) = -y by omega]
      show -x * -y = x * y
      grind
    · rw [decide_eq_true h1, decide_eq_false h2, show (x.natAbs : Int) = -x by omega, show (y.natAbs : Int) = y by omega]
      show -(-x * y) = x * y
      grind
  · by_cases h2 : y < 0
    · rw [decide_eq_false h1, decide_eq_true h2, show (x.natAbs : Int) = x by omega, show (y.natAbs : Int) = -y by omega]
      show -(x * -y) = x * y
      grind
    · rw [decide_eq_false h1, decide_eq_false h2, show (x.natAbs : Int) = x by omega, show (y.natAbs : Int) = y by omega]
      show x * y = x * y
      rfl
set_option maxRecDepth 100000 in
set_option maxHeartbeats 1000000 in
theorem imul_any (x y : Int) (u v : Value) (w : World) (hx : RepI w w.heap.size x u) (hy : RepI w w.heap.size y v) (bx : (x.natAbs : Int) < lim) (by_ : (y.natAbs : Int) < lim) :
    Calls Tryz.prog 105 #[u, v] w (NewE (fitI (x * y)) (fitE (x * y)) w) := by
  obtain ⟨A, n, c, zs, rfl, hr⟩ := hx
  obtain ⟨E, m, f, ys, rfl, hs⟩ := hy
  have hn := hr.fit.2 bx
  have hm := hs.fit.2 by_
  obtain ⟨b1, hb1⟩ : ∃ b, b = decide (x < 0) := ⟨_, rfl⟩
  obtain ⟨b2, hb2⟩ : ∃ b, b = decide (y < 0) := ⟨_, rfl⟩
  have hsg := sgn_mul x y
  rw [← hb1, ← hb2] at hsg
  rw [← hb1, ← hb2]
  obtain ⟨b3, hb3⟩ : ∃ b, b = (b1 != b2) := ⟨_, rfl⟩
  rw [← hb3] at hsg
  obtain ⟨W2, hW2, hB2, hS2, p1, p2, p3⟩ := boxes3 w 34 (.bool b1) (.slice A n c) (.bool b2) (.slice E m f) (.bool false) (.slice none 0 0)
  have HW := Lib.hid hW2
  have HR2 := Lib.hid ((hr.below hB2).more hB2.size)
  have HS2 := Lib.hid ((hs.below hB2).more hB2.size)
  have HB := Lib.hid hB2
  have HP3 := Lib.hid p3
  have HIR := Lib.hid (fun A3 n3 c3 ys3 W h => inRange_any b3 ((x.natAbs : Int) * (y.natAbs : Int)) A3 n3 c3 ys3 W h (x * y) hsg)
  obtain ⟨Z, hZ⟩ : ∃ Z, Z = fitI (x * y) := ⟨_, rfl⟩
  obtain ⟨er, her⟩ : ∃ er, er = fitE (x * y) := ⟨_, rfl⟩
  rw [← hZ, ← her] at HIR ⊢
  have hb3' : (!(b1 == b2)) = b3 := hb3.symm
  have g0 := p1.c0
  have g1 := p1.c1
  have g2 := p2.c0
  have g3 := p2.c1
  clear hW2 hr hs hb1 hb2 hb3 hB2 hS2 p1 p2 p3 hsg bx by_ hZ her
  go_enter Tryz.func105, Tryz.ntmps105
  go_wp2_with fail
  rw [← HW.out]
  clear HW
  go_region_held3 (fun w' => w'.cell? ⟨w.heap.size, 0, none⟩ = some (.bool b1) ∧ w'.cell? ⟨w.heap.size, 1, none⟩ = some (.slice A n c) ∧ w'.cell? ⟨w.heap.size + 1, 0, none⟩ = some (.bool b2) ∧ w'.cell? ⟨w.heap.size + 1, 1, none⟩ = some (.slice E m f))
    (exact ⟨by first | assumption | (simp only [World.cell?_drew]; assumption) | exact cell_set2 (by assumption) (by omega), by first | assumption | (simp only [World.cell?_drew]; assumption) | exact cell_set2 (by assumption) (by omega), by first | assumption | (simp only [World.cell?_drew]; assumption) | exact cell_set2 (by assumption) (by omega), by first | assumption | (simp only [World.cell?_drew]; assumption) | exact cell_set2 (by assumption) (by omega)⟩)
    (first
      | (go_at_call 127
         refine (nmul_any _ _ A E n c m f _ _ _ (by exact HR2.out) (by exact HS2.out) (by omega) (by omega)).mono ?_
         rintro e w3 h3
         obtain ⟨A3, n3, c3, ys3, rfl, r3, b3'⟩ := h3
         have b3' : Below W2.heap.size W2 w3 := by first | exact b3' | exact below_undrew b3'
         have HR3 := Lib.hid r3
         have HP3' := Lib.hid (HP3.out.below b3')
         have HB3 := Lib.hid (HB.out.trans (b3'.mono HB.out.size))
         have k0 := cell_below g0 b3'
         have k1 := cell_below g1 b3'
         have k2 := cell_below g2 b3'
         have k3 := cell_below g3 b3'
         clear b3' r3)
      | (go_at_call 82
         refine (HIR.out A3 n3 c3 ys3 _ (by exact HR3.out)).mono ?_
         rintro e w4 h4
         obtain ⟨v4, rfl, r4, b4⟩ := h4
         obtain ⟨d4, A4, n4, q4, rfl⟩ := r4.shape
         have b4 : Below w3.heap.size w3 w4 := by first | exact b4 | exact below_undrew b4
         have hk4 := HP3'.out.below b4
         have hb4 := HB3.out.trans (b4.mono HB3.out.size)
         have j0 := cell_below k0 b4
         have j1 := cell_below k1 b4
         have j2 := cell_below k2 b4
         have j3 := cell_below k3 b4
         have c0 := hk4.c0
         have c1 := hk4.c1
         have f0 := hk4.f0
         have f1 := hk4.f1
         have HF := Lib.hid (repI_ret r4 hk4 hb4 (by omega))
         clear hk4 hb4 r4 b4))
  go_wp2_with fail
  exact bodyPost_ret (v := .tuple #[.agg #[.bool d4, .slice A4 n4 q4], .int .i64 er]) (by simp [results, Tryz.results105, go_sem, c0, c1]) rfl ⟨_, rfl, HF.out.1, HF.out.2⟩
end Go.Proofs.YtocooajlfpngdaaGreatDoor
