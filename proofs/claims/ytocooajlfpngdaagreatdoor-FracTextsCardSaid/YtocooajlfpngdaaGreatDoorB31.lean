/- Contracts of package frac: lowest. · Contracts of package frac: product. -/
import Derived.Test.YtocooajlfpngdaaGreatDoorB30
import Derived.Test.YtocooajlfpngdaaGreatDoorB29
import Derived.Deep.LoopGhost
namespace Go.Proofs.YtocooajlfpngdaaGreatDoor
open Go.RowKit
set_option linter.unusedVariables false

set_option maxRecDepth 100000 in
set_option maxHeartbeats 1000000 in
theorem lowest_any (x y d : Int) (u v : Value) (w : World) (hx : RepI w w.heap.size x u) (hy : RepI w w.heap.size y v) (bx : (x.natAbs : Int) < lim) (by_ : (y.natAbs : Int) < lim) (hg : (Nat.gcd x.natAbs y.natAbs : Int) = d) (hy0 : d ≠ 0) :
    Calls Tryz.prog 63 #[u, v] w (TwoU (x / d) (y / d) w) := by
  have HB := Lib.hid (Below.refl w.heap.size w)
  obtain ⟨dx, Ax, nx, cx, rfl⟩ := hx.shape
  have Vx := Lib.hid hx
  clear hx
  obtain ⟨dy, Ay, ny, cy, rfl⟩ := hy.shape
  have Vy := Lib.hid hy
  clear hy
  replace bx := Lib.hid bx
  replace by_ := Lib.hid by_
  replace hy0 := Lib.hid hy0
  replace hg := Lib.hid hg
  go_enter Tryz.func63, Tryz.ntmps63
  have h := HoldI.new Vx.out
  have b := al_below w (.cells #[.bool dx, .slice Ax nx cx] 34)
  replace HB := Lib.hid (bstep HB.out b)
  replace Vy := Lib.hid (Vy.out.step b)
  clear b
  have Hx := Lib.hid h
  clear h Vx
  have h := HoldI.new Vy.out
  simp only [World.size_alloc] at h
  have b := al_below (w.alloc (.cells #[.bool dx, .slice Ax nx cx] 34)) (.cells #[.bool dy, .slice Ay ny cy] 34)
  replace HB := Lib.hid (bstep HB.out b)
  replace Hx := Lib.hid (Hx.out.below b)
  clear b
  have Hy := Lib.hid h
  clear h Vy
  have h := Blk2.new ((w.alloc (.cells #[.bool dx, .slice Ax nx cx] 34)).alloc (.cells #[.bool dy, .slice Ay ny cy] 34)) 34 (.bool false) (.slice none 0 0)
  simp only [World.size_alloc] at h
  have b := al_below ((w.alloc (.cells #[.bool dx, .slice Ax nx cx] 34)).alloc (.cells #[.bool dy, .slice Ay ny cy] 34)) (.cells #[.bool false, .slice none 0 0] 34)
  replace HB := Lib.hid (bstep HB.out b)
  replace Hx := Lib.hid (Hx.out.below b)
  replace Hy := Lib.hid (Hy.out.below b)
  clear b
  have R0 := Lib.hid (show Blk2 _ (w.heap.size + 1 + 1) 34 (.bool false) (.slice none 0 0) from h)
  clear h
  have h := Blk2.new (((w.alloc (.cells #[.bool dx, .slice Ax nx cx] 34)).alloc (.cells #[.bool dy, .slice Ay ny cy] 34)).alloc (.cells #[.bool false, .slice none 0 0] 34)) 34 (.bool false) (.slice none 0 0)
  simp only [World.size_alloc] at h
  have b := al_below (((w.alloc (.cells #[.bool dx, .slice Ax nx cx] 34)).alloc (.cells #[.bool dy, .slice Ay ny cy] 34)).alloc (.cells #[.bool false, .slice none 0 0] 34)) (.cells #[.bool false, .slice none 0 0] 34)
  replace HB := Lib.hid (bstep HB.out b)
  replace Hx := Lib.hid (Hx.out.below b)
  replace Hy := Lib.hid (Hy.out.below b)
  replace R0 := Lib.hid (R0.out.below b)
  clear b
  have R1 := Lib.hid (show Blk2 _ (w.heap.size + 1 + 1 + 1) 34 (.bool false) (.slice none 0 0) from h)
  clear h
  go_wp2_with fail
  refine (igcd_lim x y _ _ _ Hx.out.2 Hy.out.2 bx.out by_.out d hg.out).mono ?_
  rintro e w1 ⟨v, rfl, h, b⟩
  obtain ⟨d1, A1, n1, c1, rfl⟩ := h.shape
  have z1 := b.size
  simp only [World.size_alloc] at z1
  replace z1 := Lib.hid z1
  replace HB := Lib.hid (bstep HB.out b)
  replace Hx := Lib.hid (Hx.out.below b)
  replace Hy := Lib.hid (Hy.out.below b)
  replace R0 := Lib.hid (R0.out.below b)
  replace R1 := Lib.hid (R1.out.below b)
  have V1 := Lib.hid h
  clear h b
  have h := HoldI.new V1.out
  have b := al_below w1 (.cells #[.bool d1, .slice A1 n1 c1] 34)
  replace HB := Lib.hid (bstep HB.out b)
  replace Hx := Lib.hid (Hx.out.below b)
  replace Hy := Lib.hid (Hy.out.below b)
  replace R0 := Lib.hid (R0.out.below b)
  replace R1 := Lib.hid (R1.out.below b)
  clear b
  have H1 := Lib.hid h
  clear h V1
  obtain ⟨W2, hW⟩ : ∃ W, W = (w1.alloc (.cells #[.bool d1, .slice A1 n1 c1] 34)) := ⟨_, rfl⟩
  have HW := Lib.hid hW
  rw [← hW] at HB
  rw [← hW] at Hx
  rw [← hW] at Hy
  rw [← hW] at R0
  rw [← hW] at R1
  rw [← hW] at H1
  clear hW
  go_wp2_with fail
  rw [← HW.out]
  clear HW
  have qHx0 := Hx.out.c0
  have qHx1 := Hx.out.c1
  have qHy0 := Hy.out.c0
  have qHy1 := Hy.out.c1
  have qH10 := H1.out.c0
  have qH11 := H1.out.c1
  have z1_ := z1.out
  go_region_held3 (fun w' => w'.cell? ⟨w.heap.size, 0, none⟩ = some (.bool dx) ∧ w'.cell? ⟨w.heap.size, 1, none⟩ = some (.slice Ax nx cx) ∧ w'.cell? ⟨w.heap.size + 1, 0, none⟩ = some (.bool dy) ∧ w'.cell? ⟨w.heap.size + 1, 1, none⟩ = some (.slice Ay ny cy) ∧ w'.cell? ⟨w1.heap.size, 0, none⟩ = some (.bool d1) ∧ w'.cell? ⟨w1.heap.size, 1, none⟩ = some (.slice A1 n1 c1))
    (exact ⟨by first | with_reducible assumption | (simp only [World.cell?_drew]; with_reducible assumption) | (try simp only [World.cell?_drew]); repeat' (first | with_reducible assumption | with_reducible refine cell_set2 ?_ (by omega)), by first | with_reducible assumption | (simp only [World.cell?_drew]; with_reducible assumption) | (try simp only [World.cell?_drew]); repeat' (first | with_reducible assumption | with_reducible refine cell_set2 ?_ (by omega)), by first | with_reducible assumption | (simp only [World.cell?_drew]; with_reducible assumption) | (try simp only [World.cell?_drew]); repeat' (first | with_reducible assumption | with_reducible refine cell_set2 ?_ (by omega)), by first | with_reducible assumption | (simp only [World.cell?_drew]; with_reducible assumption) | (try simp only [World.cell?_drew]); repeat' (first | with_reducible assumption | with_reducible refine cell_set2 ?_ (by omega)), by first | with_reducible assumption | (simp only [World.cell?_drew]; with_reducible assumption) | (try simp only [World.cell?_drew]); repeat' (first | with_reducible assumption | with_reducible refine cell_set2 ?_ (by omega)), by first | with_reducible assumption | (simp only [World.cell?_drew]; with_reducible assumption) | (try simp only [World.cell?_drew]); repeat' (first | with_reducible assumption | with_reducible refine cell_set2 ?_ (by omega))⟩)
    (first
      | (go_at_call 70
         with_reducible show Calls Tryz.prog 70 #[.agg #[.bool dx, .slice Ax nx cx], .agg #[.bool d1, .slice A1 n1 c1]] _ _
         refine (quotient_any x d _ _ _ (Hx.out.2.step (by repeat' (first | with_reducible exact Below.refl _ _ | with_reducible assumption | with_reducible refine below_drew ?_))) (H1.out.2.step (by repeat' (first | with_reducible exact Below.refl _ _ | with_reducible assumption | with_reducible refine below_drew ?_))) bx.out (hg.out ▸ gcd_ltl bx.out by_.out) hy0.out).mono ?_
         rintro e w3 ⟨v3, rfl, h3, b3⟩
         obtain ⟨d3, A3, n3, c3, rfl⟩ := h3.shape
         have hb3 : Below W2.heap.size W2 w3 := bstep (by repeat' (first | with_reducible exact Below.refl _ _ | with_reducible assumption | with_reducible refine below_drew ?_)) b3
         have V3 := Lib.hid h3
         clear h3
         replace qHx0 := cell_below (Hx.out.c0) hb3
         replace qHx1 := cell_below (Hx.out.c1) hb3
         replace qHy0 := cell_below (Hy.out.c0) hb3
         replace qHy1 := cell_below (Hy.out.c1) hb3
         replace qH10 := cell_below (H1.out.c0) hb3
         replace qH11 := cell_below (H1.out.c1) hb3)
      | (go_at_call 70
         with_reducible show Calls Tryz.prog 70 #[.agg #[.bool dy, .slice Ay ny cy], .agg #[.bool d1, .slice A1 n1 c1]] _ _
         refine (quotient_any y d _ _ _ (Hy.out.2.step (by repeat' (first | with_reducible exact Below.refl _ _ | with_reducible assumption | with_reducible refine below_drew ?_))) (H1.out.2.step (by repeat' (first | with_reducible exact Below.refl _ _ | with_reducible assumption | with_reducible refine below_drew ?_))) by_.out (hg.out ▸ gcd_ltl bx.out by_.out) hy0.out).mono ?_
         rintro e w4 ⟨v4, rfl, h4, b4⟩
         obtain ⟨d4, A4, n4, c4, rfl⟩ := h4.shape
         have hb4 : Below W2.heap.size W2 w4 := bstep (by repeat' (first | with_reducible exact Below.refl _ _ | with_reducible assumption | with_reducible refine below_drew ?_)) b4
         replace V3 := Lib.hid (V3.out.step (by first | exact b4 | exact undrew b4 | exact undrew (undrew b4)))
         have V4 := Lib.hid h4
         clear h4
         replace qHx0 := cell_below (Hx.out.c0) hb4
         replace qHx1 := cell_below (Hx.out.c1) hb4
         replace qHy0 := cell_below (Hy.out.c0) hb4
         replace qHy1 := cell_below (Hy.out.c1) hb4
         replace qH10 := cell_below (H1.out.c0) hb4
         replace qH11 := cell_below (H1.out.c1) hb4
         replace HB := Lib.hid (bstep HB.out hb4)
         replace Hx := Lib.hid (Hx.out.below hb4)
         replace Hy := Lib.hid (Hy.out.below hb4)
         replace R0 := Lib.hid (R0.out.below hb4)
         replace R1 := Lib.hid (R1.out.below hb4)
         replace H1 := Lib.hid (H1.out.below hb4)
         clear b3 hb3 b4 hb4
         have gR00 := R0.out.c0
         have yR00 := R0.out.f0
         have gR01 := R0.out.c1
         have yR01 := R0.out.f1
         have gR10 := R1.out.c0
         have yR10 := R1.out.f0
         have gR11 := R1.out.c1
         have yR11 := R1.out.f1
         have HF := Lib.hid (ret2I (V3.out) (V4.out) R0.out R1.out HB.out (by omega) (by omega) (by omega))))
  clear z1_
  clear qHx0 qHx1 qHy0 qHy1 qH10 qH11
  clear HB Hx Hy R0 R1 H1 V3 V4
  clear bx by_ hy0 hg
  go_wp2_with fail
  exact bodyPost_ret (v := .tuple #[.agg #[.bool d3, .slice A3 n3 c3], .agg #[.bool d4, .slice A4 n4 c4]]) (by simp [results, Tryz.results63, go_sem, gR00, gR01, gR10, gR11]) rfl ⟨_, _, rfl, HF.out.1.1, HF.out.2.1, HF.out.1.2.1⟩
end Go.Proofs.YtocooajlfpngdaaGreatDoor
namespace Go.Proofs.YtocooajlfpngdaaGreatDoor
open Go.RowKit
set_option linter.unusedVariables false

/-- the product of integers, as far as it and those of the first ones of them are in range -/
def prodF : Int → List Int → Int × Int
  | acc, [] => (acc, 0)
  | acc, z :: r => if ((acc * z).natAbs : Int) < lim then prodF (acc * z) r else (0, 4)
theorem prod_out {acc z : Int} {L : List Int} {i : Nat} (hi : i < L.length) (hz : L[i]?.getD 0 = z) (h : ¬ ((acc * z).natAbs : Int) < lim) : prodF acc (L.drop i) = (0, 4) := by
  rw [List.drop_eq_getElem_cons hi]
  rw [List.getElem?_eq_getElem hi] at hz
  have hz' : L[i] = z := hz
  rw [hz', prodF, if_neg h]
theorem prod_in {acc z : Int} {L : List Int} {i : Nat} (hi : i < L.length) (hz : L[i]?.getD 0 = z) (h : ((acc * z).natAbs : Int) < lim) : prodF acc (L.drop i) = prodF (acc * z) (L.drop (i + 1)) := by
  rw [List.drop_eq_getElem_cons hi]
  rw [List.getElem?_eq_getElem hi] at hz
  have hz' : L[i] = z := hz
  rw [hz', prodF, if_pos h]
theorem ArrI.off {W : World} {p g : Nat} {L : List Int} {b0 : Bool} {A1 : Option Addr} {n1 k1 : Nat} {t : TypeId} {u u' : Value} (h : ArrI W p L) (hk : Blk2 W g t (.bool b0) (.slice A1 n1 k1)) (hne : p ≠ g) : ArrI ((W.setCell ⟨g, 0, none⟩ u).setCell ⟨g, 1, none⟩ u') p L := by
  refine ⟨by rw [size_set2]; exact h.1, fun i hi => ?_⟩
  obtain ⟨d, A, n, c, a1, a2, a3⟩ := h.2 i hi
  exact ⟨d, A, n, c, cell_set2 a1 hne, cell_set2 a2 hne, by rw [size_set2]; exact a3.stored hk⟩
theorem ArrI.lt {W : World} {p : Nat} {L : List Int} (h : ArrI W p L) : p < W.heap.size := h.1
set_option maxRecDepth 100000 in
set_option maxHeartbeats 2000000 in
theorem product_any (L : List Int) (gA n c : Nat) (w : World) (hA : ArrI w gA L) (hg0 : Hid (gA < w.heap.size)) (hl : L.length = n) (hcap : Hid (n ≤ 1000)) (hL : ∀ i, i < L.length → InL (L[i]?.getD 0)) :
    Calls Tryz.prog 71 #[.slice (some ⟨gA, 0, none⟩) n c] w (NewE (prodF 1 L).1 (prodF 1 L).2 w) := by
  replace hL := Lib.hid hL
  have HA := Lib.hid hA
  clear hA
  replace hl := Lib.hid hl
  have HB := Lib.hid (Below.refl w.heap.size w)
  go_enter Tryz.func71, Tryz.ntmps71
  have h := Blk2.new w 34 (.bool false) (.slice none 0 0)
  have b := al_below w (.cells #[.bool false, .slice none 0 0] 34)
  replace HA := Lib.hid (HA.out.below b)
  replace HB := Lib.hid (bstep HB.out b)
  clear b
  have R0 := Lib.hid (show Blk2 _ (w.heap.size) 34 (.bool false) (.slice none 0 0) from h)
  clear h
  go_wp2_with fail
  refine (from_any 1 _ (by omega) (by omega)).mono ?_
  rintro e w1 ⟨v, rfl, h, b⟩
  obtain ⟨d1, A1, n1, c1, rfl⟩ := h.shape
  have z1 := b.size
  simp only [World.size_alloc] at z1
  replace z1 := Lib.hid z1
  replace HA := Lib.hid (HA.out.below b)
  replace HB := Lib.hid (bstep HB.out b)
  replace R0 := Lib.hid (R0.out.below b)
  have V1 := Lib.hid h
  clear h b
  have h := HoldI.new V1.out
  have b := al_below w1 (.cells #[.bool d1, .slice A1 n1 c1] 34)
  replace HA := Lib.hid (HA.out.below b)
  replace HB := Lib.hid (bstep HB.out b)
  replace R0 := Lib.hid (R0.out.below b)
  clear b
  have H1 := Lib.hid h
  clear h V1
  have hgA : gA < w.heap.size := hg0.out
  have hz1 := z1.out
  have HP := Lib.hid (show InL 1 ∧ prodF 1 (L.drop 0) = prodF 1 L from ⟨lim_1, rfl⟩)
  go_wp2_with fail
  go_loopg [11] n (fun gk iv wr => ∃ (i : Nat) (z : Int) (d0 : Bool) (A0 : Option Addr) (n0 c0 : Nat), gk + i = n ∧ iv = .int .i64 i ∧ Hid (HoldI wr w1.heap.size z d0 A0 n0 c0) ∧ Hid (InL z ∧ prodF z (L.drop i) = prodF 1 L) ∧ Hid (Blk2 wr w.heap.size 34 (.bool false) (.slice none 0 0)) ∧ Hid (ArrI wr gA L) ∧ Hid (Below w.heap.size w wr))
  case atStart => exact ⟨0, 1, _, _, _, _, by omega, rfl, H1, HP, R0, HA, HB⟩
  case round =>
    clear HB HA R0 H1 HP
    obtain ⟨i, z, d0, A0, n0, c0, hgi, rfl, HW, HP, R0, HA, HB⟩ := hrel
    by_cases hlt : (i : Int) < n
    · have hil : i < L.length := by have h1 := hl.out; omega
      obtain ⟨d5, A5, n5, c5, HE⟩ := HA.out.get i hil
      obtain ⟨z5, hz5⟩ : ∃ z5, L[i]?.getD 0 = z5 := ⟨_, rfl⟩
      rw [hz5] at HE
      have HE := Lib.hid HE
      have HZ5 := Lib.hid hz5
      have HIL := Lib.hid hil
      have HL5 := Lib.hid (show InL z5 from hz5 ▸ hL.out i hil)
      have hip : (0 : Int) ≤ (i : Int) := Int.natCast_nonneg _
      have ew : IntKind.i64.wrap ((i : Int) + 1) = (i : Int) + 1 := IntWalk.i64_in _ (by have := hcap.out; omega)
      clear hz5 hil
      have ce0 := HE.out.c0
      have ce1 := HE.out.c1
      have V5 := Lib.hid HE.out.2.2.2
      have h := HoldI.new V5.out
      have b := al_below wr (.cells #[.bool d5, .slice A5 n5 c5] 34)
      replace HW := Lib.hid (HW.out.below b)
      replace R0 := Lib.hid (R0.out.below b)
      replace HA := Lib.hid (HA.out.below b)
      replace HB := Lib.hid (bstep HB.out b)
      replace HE := Lib.hid (HE.out.below b)
      clear b
      have H5 := Lib.hid h
      clear h V5
      have gHW0 := HW.out.c0
      have gHW1 := HW.out.c1
      by_cases hf : ((z * z5).natAbs : Int) < lim
      · skip
        have HF0 := Lib.hid hf
        clear hf
        go_wp2_with fail
        have HM := imul_any z z5 _ _ _ HW.out.2 H5.out.2 HP.out.1 HL5.out
        rw [(fit_in HF0.out).1, (fit_in HF0.out).2] at HM
        refine (HM).mono ?_
        rintro e w2 ⟨v, rfl, h, b⟩
        obtain ⟨d2, A2, n2, c2, rfl⟩ := h.shape
        clear gHW0 gHW1
        have z2 := b.size
        simp only [World.size_alloc] at z2
        replace z2 := Lib.hid z2
        replace HW := Lib.hid (HW.out.below b)
        replace R0 := Lib.hid (R0.out.below b)
        replace HA := Lib.hid (HA.out.below b)
        replace HB := Lib.hid (bstep HB.out b)
        replace H5 := Lib.hid (H5.out.below b)
        have V2 := Lib.hid h
        clear h b
        clear HM ce0 ce1 HE
        have B1 := Lib.hid HW.out.1
        have gHW0 := HW.out.c0
        have yHW0 := HW.out.1.f0
        have gHW1 := HW.out.c1
        have yHW1 := HW.out.1.f1
        have hne1 : w.heap.size ≠ w1.heap.size := by omega
        have hne2 : gA ≠ w1.heap.size := by omega
        have HW2 := Lib.hid (HoldI.made V2.out HW.out.1)
        have R02 := Lib.hid (R0.out.off (u := .bool d2) (u' := .slice A2 n2 c2) (g := w1.heap.size) hne1)
        have HA2 := Lib.hid (HA.out.off (u := .bool d2) (u' := .slice A2 n2 c2) HW.out.1 hne2)
        have HB2 := Lib.hid (below_off (u := .bool d2) (u' := .slice A2 n2 c2) (g := w1.heap.size) HB.out (by omega))
        have HP2 := Lib.hid (show InL (z * z5) ∧ prodF (z * z5) (L.drop (i + 1)) = prodF 1 L from ⟨HF0.out, by rw [← prod_in HIL.out HZ5.out HF0.out]; exact HP.out.2⟩)
        clear HW R0 HA HB HP V2 H5 B1 hL HF0 HZ5 HIL HL5 hl hcap
        go_wp2_with fail
        go_roundg (gk - 1)
        case measure => omega
        case rel => exact ⟨i + 1, z * z5, _, _, _, _, by omega, by go_num, HW2, HP2, R02, HA2, HB2⟩
      · skip
        have HF0 := Lib.hid hf
        clear hf
        go_wp2_with fail
        have HM := imul_any z z5 _ _ _ HW.out.2 H5.out.2 HP.out.1 HL5.out
        rw [(fit_out (Int.not_lt.2 HF0.out)).1, (fit_out (Int.not_lt.2 HF0.out)).2] at HM
        refine (HM).mono ?_
        rintro e w2 ⟨v, rfl, h, b⟩
        obtain ⟨d2, A2, n2, c2, rfl⟩ := h.shape
        clear gHW0 gHW1
        have z2 := b.size
        simp only [World.size_alloc] at z2
        replace z2 := Lib.hid z2
        replace HW := Lib.hid (HW.out.below b)
        replace R0 := Lib.hid (R0.out.below b)
        replace HA := Lib.hid (HA.out.below b)
        replace HB := Lib.hid (bstep HB.out b)
        replace H5 := Lib.hid (H5.out.below b)
        have V2 := Lib.hid h
        clear h b
        clear HM ce0 ce1 HE
        have gHW0 := HW.out.c0
        have yHW0 := HW.out.1.f0
        have gHW1 := HW.out.c1
        have yHW1 := HW.out.1.f1
        have gR00 := R0.out.c0
        have yR00 := R0.out.f0
        have gR01 := R0.out.c1
        have yR01 := R0.out.f1
        have HW2 := Lib.hid (HoldI.made V2.out HW.out.1)
        have hne1 : w.heap.size ≠ w1.heap.size := by omega
        have R02 := Lib.hid (R0.out.off (u := .bool d2) (u' := .slice A2 n2 c2) (g := w1.heap.size) hne1)
        have HB2 := Lib.hid (below_off (u := .bool d2) (u' := .slice A2 n2 c2) (g := w1.heap.size) HB.out (by omega))
        have r0 := R02.out.c0
        have r1 := R02.out.c1
        have r2 := R02.out.f0
        have r3 := R02.out.f1
        have HF := Lib.hid (retI (RepI.zero _ _) R02.out HB2.out (Nat.le_refl _))
        have HPE := Lib.hid (show prodF 1 L = (0, 4) by rw [← HP.out.2]; exact prod_out HIL.out HZ5.out (Int.not_lt.2 HF0.out))
        clear HW R0 HA HB HP V2 H5 hL HF0 HZ5 HIL HL5 hl hcap HW2 R02 HB2
        go_wp2_with fail
        exact bodyPost_ret (v := .tuple #[.agg #[.bool false, .slice none 0 0], .int .i64 4]) (by simp [results, Tryz.results71, go_sem, r0, r1]) rfl (by rw [HPE.out]; exact ⟨_, rfl, HF.out.1, HF.out.2.1⟩)
    · have hin : i = n := by omega
      subst hin
      have HPE := Lib.hid (show prodF 1 L = (z, 0) by rw [← HP.out.2, List.drop_of_length_le (by have := hl.out; omega)]; rfl)
      have gHW0 := HW.out.c0
      have gHW1 := HW.out.c1
      have gR00 := R0.out.c0
      have yR00 := R0.out.f0
      have gR01 := R0.out.c1
      have yR01 := R0.out.f1
      have HF := Lib.hid (retI HW.out.2 R0.out HB.out (Nat.le_refl _))
      clear HW R0 HA HB HP hL hl hcap
      go_wp2_with fail
      exact bodyPost_ret (v := .tuple #[.agg #[.bool d0, .slice A0 n0 c0], .int .i64 0]) (by simp [results, Tryz.results71, go_sem, gR00, gR01]) rfl (by rw [HPE.out]; exact ⟨_, rfl, HF.out.1, HF.out.2.1⟩)
end Go.Proofs.YtocooajlfpngdaaGreatDoor
