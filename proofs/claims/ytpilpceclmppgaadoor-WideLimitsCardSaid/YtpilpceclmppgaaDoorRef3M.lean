/- Contracts of the reference of wide: Gcd, Fits. -/
import Derived.Test.YtpilpceclmppgaaDoorRef3L
namespace Go.Proofs.YtpilpceclmppgaaDoor
open Go.RowKit
set_option linter.unusedVariables false

theorem RepN.zero {w : World} {B n c : Nat} {z : Int} {d : Bool} {A : Option Addr} (h : RepN w B z (.agg #[.bool d, .slice A n c])) : n = 0 ↔ z = 0 := by
  obtain ⟨A', n', c', l, e, h1, h2, h3, h4, h5, h6, h7⟩ := h
  cases e
  constructor
  · rintro rfl
    have : l = [] := List.eq_nil_of_length_eq_zero h1.len
    rw [this] at h7
    simp [dv] at h7
    omega
  · rintro rfl
    rcases Nat.eq_zero_or_pos n with h8 | h8
    · exact h8
    · have h9 := top_ge (show (1 : Int) < 10000 by omega) h5 h6 (fun e => by have := h1.len; rw [e] at this; simp at this; omega)
      have := pow_pos' (show (0 : Int) < 10000 by omega) (l.length - 1)
      omega
def GcdS (w : World) (gx gy X Y : Nat) (wr : World) : Prop := BoxN wr gx X ∧ BoxN wr gy Y ∧ Blk2 wr (w.heap.size + 1 + 1) 25 (.bool false) (.slice none 0 0) ∧ Below w.heap.size w wr
theorem GcdS.below {w : World} {gx gy X Y : Nat} {wr w' : World} (h : GcdS w gx gy X Y wr) (hb : Below wr.heap.size wr w') : GcdS w gx gy X Y w' :=
  ⟨h.1.below hb, h.2.1.below hb, h.2.2.1.below hb, h.2.2.2.trans (hb.mono h.2.2.2.size)⟩
theorem BoxN.lt {w : World} {g : Nat} {z : Int} (h : BoxN w g z) : g < w.heap.size := by
  obtain ⟨_, _, _, _, h1, _⟩ := h
  exact h1.lt
set_option maxRecDepth 100000 in
set_option maxHeartbeats 4000000 in
theorem gcd_any (x y : Int) (u v : Value) (w : World) (hx : RepN w w.heap.size x u) (hy : RepN w w.heap.size y v) (bx : Bits 60000 x) (by_ : Bits 60000 y) :
    Calls Tryd.prog 42 #[u, v] w (NewN (Nat.gcd x.natAbs y.natAbs : Nat) w) := by
  obtain ⟨A, n, c, zs, rfl, hs, hn, hc, hA, hd, ht, hv⟩ := hx
  obtain ⟨E, m, f, ys, rfl, ks, km, kf, kE, kd, kt, kv⟩ := hy
  obtain ⟨D, hD⟩ : ∃ D, D = Nat.gcd x.natAbs y.natAbs := ⟨_, rfl⟩
  rw [← hD]
  have HD := Lib.hid hD.symm
  clear hD
  obtain ⟨b1, hb1⟩ : ∃ b, b = decide (x < 0) := ⟨_, rfl⟩
  obtain ⟨b2, hb2⟩ : ∃ b, b = decide (y < 0) := ⟨_, rfl⟩
  rw [← hb1, ← hb2]
  obtain ⟨W, hW, hB, hS, p1, p2, p3⟩ := boxes3 w 25 (.bool b1) (.slice A n c) (.bool b2) (.slice E m f) (.bool false) (.slice none 0 0)
  have HW := Lib.hid hW
  have HB := Lib.hid hB
  have P2 := Lib.hid p2
  have P3 := Lib.hid p3
  have g0 := p1.c1
  have HC1 := Lib.hid (normal_any false A n c w.heap.size zs W (hs.below hB) hB.size hn hc hA hd)
  rw [hv, if_neg (show ¬ (false = true) by simp)] at HC1
  have HKS := Lib.hid (ks.below hB)
  have HKF := Lib.hid (And.intro km (And.intro kf (And.intro kE (And.intro kd kv))))
  have BX := Lib.hid bx.natAbs
  have BY := Lib.hid by_.natAbs
  clear hs hn hc hA hd ht hv ks km kf kE kd kt kv hb1 hb2 hW hB hS p1 p2 p3 bx by_
  go_enter Tryd.func42, Tryd.ntmps42
  go_wp2_with fail
  rw [← HW.out]
  refine HC1.out.mono ?_
  rintro e w2 h2
  obtain ⟨v2, rfl, r2, b2'⟩ := h2
  obtain ⟨d2, A2, n2, c2, rfl⟩ := r2.shape
  have r2' := r2.more (Nat.le_trans HB.out.size b2'.size)
  have hal := (Below.refl w2.heap.size w2).alloc (Nat.le_refl _) (.cells #[.bool d2, .slice A2 n2 c2] 25)
  have HX2 := BoxN.new r2'
  obtain ⟨gx, hgx⟩ : ∃ gx, gx = w2.heap.size := ⟨_, rfl⟩
  obtain ⟨W3, hW3⟩ : ∃ W3, W3 = w2.alloc (.cells #[.bool d2, .slice A2 n2 c2] 25) := ⟨_, rfl⟩
  rw [← hW3] at hal HX2
  rw [← hgx] at HX2
  have hx2 := Lib.hid HX2
  have hgxl : w.heap.size + 1 + 1 < gx := by rw [hgx]; exact (P3.out.below b2').lt
  have P22 := Lib.hid ((P2.out.below b2').below hal)
  have P32 := Lib.hid ((P3.out.below b2').below hal)
  have HB3 := Lib.hid ((HB.out.trans (b2'.mono HB.out.size)).trans (hal.mono (Nat.le_trans HB.out.size b2'.size)))
  have HKS3 := Lib.hid ((HKS.out.below (b2'.mono HB.out.size)).below (hal.mono (Nat.le_trans HB.out.size b2'.size)))
  have HC2 := Lib.hid (normal_any false E m f w.heap.size ys W3 HKS3.out HB3.out.size HKF.out.1 HKF.out.2.1 HKF.out.2.2.1 HKF.out.2.2.2.1)
  rw [HKF.out.2.2.2.2, if_neg (show ¬ (false = true) by simp)] at HC2
  have g1 := P22.out.c1
  rw [hW3] at g1
  have HW3 := Lib.hid hW3
  have HGX := Lib.hid hgx
  clear r2 r2' b2' hal HX2 hgx hW3 g0 P2 P3 HB HKS
  go_wp2_with fail
  rw [← HW3.out, ← HGX.out]
  refine HC2.out.mono ?_
  rintro e w4 h4
  obtain ⟨v4, rfl, r4, b4⟩ := h4
  obtain ⟨d4, A4, n4, c4, rfl⟩ := r4.shape
  have r4' := r4.more (Nat.le_trans HB3.out.size b4.size)
  have hal := (Below.refl w4.heap.size w4).alloc (Nat.le_refl _) (.cells #[.bool d4, .slice A4 n4 c4] 25)
  have HY4 := BoxN.new r4'
  obtain ⟨gy, hgy⟩ : ∃ gy, gy = w4.heap.size := ⟨_, rfl⟩
  obtain ⟨W5, hW5⟩ : ∃ W5, W5 = w4.alloc (.cells #[.bool d4, .slice A4 n4 c4] 25) := ⟨_, rfl⟩
  rw [← hW5] at hal HY4
  rw [← hgy] at HY4
  have hgxy : gx < gy := by rw [hgy]; exact (hx2.out.below b4).lt
  have HS := Lib.hid (show GcdS w gx gy x.natAbs y.natAbs W5 from ⟨(hx2.out.below b4).below hal, HY4, (P32.out.below b4).below hal, (HB3.out.trans (b4.mono HB3.out.size)).trans (hal.mono (Nat.le_trans HB3.out.size b4.size))⟩)
  have HW5 := Lib.hid hW5
  have HGY := Lib.hid hgy
  clear r4 r4' b4 hal HY4 hgy hW5 g1 hx2 P22 P32 HB3 HKS3 HKF HC1 HC2
  go_upto_region 3 with (fail)
  rw [← HW5.out, ← HGY.out]
  go_loopg [] y.natAbs (fun g wr => ∃ X : Nat, Hid (Nat.gcd X g = D) ∧ Hid (GcdS w gx gy X g wr) ∧ Hid (Bits 60000 (X : Int)) ∧ Hid (Bits 60000 (g : Int)))
  case atStart => exact ⟨x.natAbs, HD.out, HS.out, BX.out, BY.out⟩
  case round =>
    clear HD HS BX BY
    obtain ⟨X, HD, HS, BX, BY⟩ := hrel
    obtain ⟨dY, AY, nY, cY, pY, rY⟩ := HS.out.2.1
    obtain ⟨dX, AX, nX, cX, pX, rX⟩ := HS.out.1
    have y0 := pY.c0
    have y1 := pY.c1
    have x0 := pX.c0
    have x1 := pX.c1
    have hz := rY.zero
    rcases Nat.eq_zero_or_pos nY with h0 | h0
    · have hgk : gk = 0 := by have := hz.1 h0; omega
      subst h0
      subst hgk
      have hk := HS.out.2.2.1
      have f0 := hk.f0
      have f1 := hk.f1
      have u0 := hk.c0
      have u1 := hk.c1
      have HF := Lib.hid (newN_ret rX hk HS.out.2.2.2 (by omega))
      rw [show X = D by have h : Nat.gcd X 0 = D := HD.out; simpa using h] at HF
      clear pX rX pY rY hk hz
      go_wp2_with fail
      exact bodyPost_ret (v := .agg #[.bool dX, .slice AX nX cX]) (by simp [results, Tryd.results42, go_sem, u0, u1]) rfl HF.out
    · have hgk : gk ≠ 0 := by intro h; have := hz.2 (by omega); omega
      have HDV := Lib.hid (div_any X gk _ _ wr rX rY BX.out BY.out (by omega))
      rw [← Int.natCast_emod, ← Int.natCast_ediv] at HDV
      clear pX rX pY rY hz
      go_wp2_with fail
      refine HDV.out.mono ?_
      rintro e w6 h6
      obtain ⟨u6, v6, rfl, r6, r7, b6⟩ := h6
      obtain ⟨d6, A6, n6, c6, rfl⟩ := r6.shape
      obtain ⟨d7, A7, n7, c7, rfl⟩ := r7.shape
      obtain ⟨W7, hW7⟩ : ∃ W7, W7 = (w6.alloc (.cells #[.bool d6, .slice A6 n6 c6] 25)).alloc (.cells #[.bool d7, .slice A7 n7 c7] 25) := ⟨_, rfl⟩
      obtain ⟨gr, hgr⟩ : ∃ gr, gr = w6.heap.size + 1 := ⟨_, rfl⟩
      have hb7 : Below w6.heap.size w6 W7 := by rw [hW7]; exact ((Below.refl _ _).alloc (Nat.le_refl _) _).alloc (by simp) _
      have hs7 := (HS.out.below b6).below hb7
      have hk7 : Blk2 W7 gr 25 (.bool d7) (.slice A7 n7 c7) := by
        have := Blk2.new (w6.alloc (.cells #[.bool d6, .slice A6 n6 c6] 25)) 25 (.bool d7) (.slice A7 n7 c7)
        rw [World.size_alloc] at this
        rw [hW7, hgr]; exact this
      have hgrl : gy < gr := by rw [hgr]; have := (HS.out.below b6).2.1.lt; omega
      have hr7 : RepN W7 W7.heap.size ((X % gk : Nat) : Int) (.agg #[.bool d7, .slice A7 n7 c7]) := (r7.below hb7).more hb7.size
      have HW7 := Lib.hid hW7
      have HGR := Lib.hid hgr
      obtain ⟨dY', AY', nY', cY', pY, rY⟩ := hs7.2.1
      obtain ⟨dX', AX', nX', cX', pX, rX⟩ := hs7.1
      have bY := (Lib.hid BY.out)
      have HS8 : Hid (GcdS w gx gy gk (X % gk) ((((W7.setCell ⟨gx, 0, none⟩ (.bool dY')).setCell ⟨gx, 1, none⟩ (.slice AY' nY' cY')).setCell ⟨gy, 0, none⟩ (.bool d7)).setCell ⟨gy, 1, none⟩ (.slice A7 n7 c7))) := by
        have k1 := pY.set2 (u := .bool dY') (v := .slice AY' nY' cY') (show gy ≠ gx by omega)
        have s1 : BoxN ((W7.setCell ⟨gx, 0, none⟩ (.bool dY')).setCell ⟨gx, 1, none⟩ (.slice AY' nY' cY')) gx gk := BoxN.self rY pX
        have s2 := hr7.stored (u := .bool dY') (u' := .slice AY' nY' cY') pX
        rw [← size_set2 W7 gx (.bool dY') (.slice AY' nY' cY')] at s2
        exact ⟨s1.other k1 (by omega), BoxN.self s2 k1, (hs7.2.2.1.set2 (by omega)).set2 (by omega), below_set2 (below_set2 hs7.2.2.2 (by omega)) (by omega)⟩
      have y0 := pY.c0
      have y1 := pY.c1
      have x0 := pX.c0
      have x1 := pX.c1
      have fx0 := pX.f0
      have fx1 := pX.f1
      have fy0 := pY.f0
      have fy1 := pY.f1
      have z0 := hk7.c0
      have z1 := hk7.c1
      have HD2 := Lib.hid (show Nat.gcd gk (X % gk) = D by rw [Nat.gcd_comm, ← Nat.gcd_rec]; rw [Nat.gcd_comm]; exact HD.out)
      have hml : X % gk < gk := Nat.mod_lt _ (by omega)
      have HB2 := Lib.hid (show Bits 60000 ((X % gk : Nat) : Int) from BY.out.le (by omega))
      have hne1 : gr ≠ gx := by omega
      have hne2 : gr ≠ gy := by omega
      have hne3 : gy ≠ gx := by omega
      clear r6 r7 b6 hW7 hgr hb7 hs7 hk7 hr7 pY rY pX rX HDV HS
      go_upto_region 5 with (fail)
      rw [← HW7.out, ← HGR.out]
      go_wp2_with fail
      go_roundg (X % gk)
      case measure => omega
      case rel => exact ⟨gk, HD2.out, HS8.out, BY.out, HB2.out⟩
end Go.Proofs.YtpilpceclmppgaaDoor
