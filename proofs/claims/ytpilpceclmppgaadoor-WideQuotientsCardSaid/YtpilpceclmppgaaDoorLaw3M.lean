/- Layer 3's laws: WideQuotients. -/
import Derived.Deep.DeepCutAuto
import Derived.Deep.LoopGhost
import Derived.Test.YtpilpceclmppgaaDoorLaw3J
namespace Go.Proofs.YtpilpceclmppgaaDoor
open Go.RowKit
set_option linter.unusedVariables false

def QuoS (w w1 w2 : World) (z1 z2 : Int) (d1 d2 : Bool) (A1 A2 : Option Addr) (n1 c1 n2 c2 : Nat) (W : World) : Prop := (HoldN W w1.heap.size z1 d1 A1 n1 c1) ∧ (HoldN W w2.heap.size z2 d2 A2 n2 c2) ∧ Below w.heap.size w W
theorem QuoS.drew {w w1 w2 : World} {z1 z2 : Int} {d1 d2 : Bool} {A1 A2 : Option Addr} {n1 c1 n2 c2 : Nat} {W : World} (h : QuoS w w1 w2 z1 z2 d1 d2 A1 A2 n1 c1 n2 c2 W) : QuoS w w1 w2 z1 z2 d1 d2 A1 A2 n1 c1 n2 c2 W.drew := ⟨h.1, h.2.1, below_drew h.2.2⟩
theorem QuoS.below {w w1 w2 : World} {z1 z2 : Int} {d1 d2 : Bool} {A1 A2 : Option Addr} {n1 c1 n2 c2 : Nat} : Stab (QuoS w w1 w2 z1 z2 d1 d2 A1 A2 n1 c1 n2 c2) := fun W W' h hb => ⟨h.1.below hb, h.2.1.below hb, bstep h.2.2 hb⟩
theorem QuoS.all {w w1 w2 : World} {z1 z2 : Int} {d1 d2 : Bool} {A1 A2 : Option Addr} {n1 c1 n2 c2 : Nat} {W : World} (h : QuoS w w1 w2 z1 z2 d1 d2 A1 A2 n1 c1 n2 c2 W) : W.cell? ⟨w1.heap.size, 0, none⟩ = some (.bool d1) ∧ W.cell? ⟨w1.heap.size, 1, none⟩ = some (.slice A1 n1 c1) ∧ W.cell? ⟨w2.heap.size, 0, none⟩ = some (.bool d2) ∧ W.cell? ⟨w2.heap.size, 1, none⟩ = some (.slice A2 n2 c2) ∧ QuoS w w1 w2 z1 z2 d1 d2 A1 A2 n1 c1 n2 c2 W := ⟨h.1.c0, h.1.c1, h.2.1.c0, h.2.1.c1, h⟩
theorem QuoS.go {w w1 w2 : World} {z1 z2 : Int} {d1 d2 : Bool} {A1 A2 : Option Addr} {n1 c1 n2 c2 : Nat} {W W' : World} (h : QuoS w w1 w2 z1 z2 d1 d2 A1 A2 n1 c1 n2 c2 W) (hb : Below W.heap.size W W') : QuoS w w1 w2 z1 z2 d1 d2 A1 A2 n1 c1 n2 c2 W' := QuoS.below _ _ h hb
theorem QuoS.off {w w1 w2 : World} {z1 z2 : Int} {d1 d2 : Bool} {A1 A2 : Option Addr} {n1 c1 n2 c2 : Nat} {W : World} (h : QuoS w w1 w2 z1 z2 d1 d2 A1 A2 n1 c1 n2 c2 W) {g : Nat} {tt : TypeId} {bQ : Bool} {AQ : Option Addr} {nQ kQ : Nat} {u u' : Value} (hk : Blk2 W g tt (.bool bQ) (.slice AQ nQ kQ)) {G : Nat} (e0 : w1.heap.size < G) (e1 : w2.heap.size < G) (e : w.heap.size ≤ G) (hg : G ≤ g) : QuoS w w1 w2 z1 z2 d1 d2 A1 A2 n1 c1 n2 c2 ((W.setCell ⟨g, 0, none⟩ u).setCell ⟨g, 1, none⟩ u') := ⟨h.1.off hk (by omega), h.2.1.off hk (by omega), below_off h.2.2 (by omega)⟩
set_option maxRecDepth 100000 in
set_option maxHeartbeats 8000000 in
theorem wideQuotients_law (A0 : Option Addr) (n0 c0 : Nat) (zs : List Int) (w : World) (hI : InI w A0 n0 zs) (hn : n0 ≤ 9223372036854775807) (n : Int) (hi : -9223372036854775808 ≤ n ∧ n ≤ 9223372036854775807) :
    Calls Tryd.prog 7 #[.slice A0 n0 c0, .int .i64 n] w fun e w' => e = .returned (.bool true) ∧ Below w.heap.size w w' := by
  obtain ⟨i0, i1⟩ := hi
  have HB := Lib.hid (Below.refl w.heap.size w)
  have HI := Lib.hid hI
  clear hI
  go_enter Tryd.func7, Tryd.ntmps7
  go_wp2_with fail
  refine (number_any A0 n0 c0 0 zs _ HI.out hn (by omega) (by omega)).mono ?_
  rintro e w1 ⟨z1, hz, v, rfl, h, b⟩
  obtain ⟨d1, A1, n1, c1, rfl⟩ := h.shape
  replace HB := Lib.hid (bstep HB.out b)
  replace HI := Lib.hid (HI.out.below b)
  have Z1 := Lib.hid (show Num z1 from hz)
  have V1 := Lib.hid h
  clear h b hz
  have h := HoldN.new V1.out
  have b := al_below w1 (.cells #[.bool d1, .slice A1 n1 c1] 25)
  replace HB := Lib.hid (bstep HB.out b)
  replace HI := Lib.hid (HI.out.below b)
  have H1 := Lib.hid h
  clear h b V1
  go_wp2_with fail
  refine (number_any A0 n0 c0 6 zs _ HI.out hn (by omega) (by omega)).mono ?_
  rintro e w2 ⟨z2, hz, v, rfl, h, b⟩
  obtain ⟨d2, A2, n2, c2, rfl⟩ := h.shape
  replace HB := Lib.hid (bstep HB.out b)
  replace HI := Lib.hid (HI.out.below b)
  replace H1 := Lib.hid (H1.out.below b)
  have Z2 := Lib.hid (show Num z2 from hz)
  have V2 := Lib.hid h
  clear h b hz
  have h := HoldN.new V2.out
  have b := al_below w2 (.cells #[.bool d2, .slice A2 n2 c2] 25)
  replace HB := Lib.hid (bstep HB.out b)
  replace HI := Lib.hid (HI.out.below b)
  replace H1 := Lib.hid (H1.out.below b)
  have H2 := Lib.hid h
  clear h b V2
  clear HI
  have HS0 := Lib.hid (show QuoS w w1 w2 z1 z2 d1 d2 A1 A2 n1 c1 n2 c2 _ from ⟨H1.out, H2.out, HB.out⟩)
  clear HB H1 H2
  go_wp2_with fail
  go_region_held3 (fun w' => w'.cell? ⟨w1.heap.size, 0, none⟩ = some (.bool d1) ∧ w'.cell? ⟨w1.heap.size, 1, none⟩ = some (.slice A1 n1 c1) ∧ w'.cell? ⟨w2.heap.size, 0, none⟩ = some (.bool d2) ∧ w'.cell? ⟨w2.heap.size, 1, none⟩ = some (.slice A2 n2 c2) ∧ QuoS w w1 w2 z1 z2 d1 d2 A1 A2 n1 c1 n2 c2 w')
    (first | exact QuoS.all HS0.out | exact QuoS.all (QuoS.drew HS0.out) | exact QuoS.all (by assumption) | exact QuoS.all (QuoS.drew (by assumption)) | exact QuoS.all (QuoS.go (by assumption) (al_below _ _)) | exact QuoS.all (QuoS.go (by assumption) (al_set_below _ _ _ _)))
    (first
      | (go_at_call 32
         with_reducible show Calls Tryd.prog 32 #[.agg #[.bool d1, .slice A1 n1 c1], .agg #[.bool d2, .slice A2 n2 c2]] _ _
         refine (mul_S (S := QuoS w w1 w2 z1 z2 d1 d2 A1 A2 n1 c1 n2 c2) QuoS.below (by first | assumption | exact And.right (And.right (And.right (And.right (by assumption))))) (fun h => h.1.2) (fun h => h.2.1.2) (Z1.out.bits _ (by omega)) (Z2.out.bits _ (by omega))).mono ?_
         rintro e wr1 ⟨v, rfl, hv1, b1, hS1⟩)
      | (go_at_call 23
         refine (of_S (S := QuoS w w1 w2 z1 z2 d1 d2 A1 A2 n1 c1 n2 c2) QuoS.below (by first | assumption | exact And.right (And.right (And.right (And.right (by assumption))))) n i0 i1).mono ?_
         rintro e wr2 ⟨v, rfl, hv2, b2, hS2⟩
         have hv12 := hv1.step b2)
      | (go_at_call 29
         refine (add_S (S := QuoS w w1 w2 z1 z2 d1 d2 A1 A2 n1 c1 n2 c2) QuoS.below (by first | assumption | exact And.right (And.right (And.right (And.right (by assumption))))) (fun _ => by exact hv12) (fun _ => by exact hv2) (Bits.mono (Z1.out.mul Z2.out) (by omega)) (Bits.mono (Bits.i64 i0 i1) (by omega))).mono ?_
         rintro e wr3 ⟨v, rfl, hv3, b3, hS3⟩
         obtain ⟨d102, A102, n102, c102, rfl⟩ := hv3.shape)
      | (go_at_call 32
         with_reducible show Calls Tryd.prog 32 #[.agg #[.bool d2, .slice A2 n2 c2], .agg #[.bool d2, .slice A2 n2 c2]] _ _
         refine (mul_S (S := QuoS w w1 w2 z1 z2 d1 d2 A1 A2 n1 c1 n2 c2) QuoS.below (by first | assumption | exact And.right (And.right (And.right (And.right (by assumption))))) (fun h => h.2.1.2) (fun h => h.2.1.2) (Z2.out.bits _ (by omega)) (Z2.out.bits _ (by omega))).mono ?_
         rintro e wr4 ⟨v, rfl, hv4, b4, hS4⟩
         have hv34 := hv3.step b4)
      | (go_at_call 32
         with_reducible show Calls Tryd.prog 32 #[_, .agg #[.bool d1, .slice A1 n1 c1]] _ _
         refine (mul_S (S := QuoS w w1 w2 z1 z2 d1 d2 A1 A2 n1 c1 n2 c2) QuoS.below (by first | assumption | exact And.right (And.right (And.right (And.right (by assumption))))) (fun _ => by exact hv4) (fun h => h.1.2) (Bits.mono (Z2.out.mul Z2.out) (by omega)) (Z1.out.bits _ (by omega))).mono ?_
         rintro e wr5 ⟨v, rfl, hv5, b5, hS5⟩
         obtain ⟨d103, A103, n103, c103, rfl⟩ := hv5.shape
         have hv35 := hv34.step b5))
  clear HS0
  have hal := al_below wr5 (.cells #[.bool d1, .slice A1 n1 c1, .bool d102, .slice A102 n102 c102, .bool d103, .slice A103 n103 c103] 25)
  have HR := Lib.hid (ArrN.new3 25 hS5.1.2 hv35 hv5)
  have H2 := Lib.hid (hS5.2.1.below hal)
  have HB := Lib.hid (bstep hS5.2.2 hal)
  have HL := Lib.hid (show ∀ i < 3, InL ([z1, z1 * z2 + n, z2 * z2 * z1][i]?.getD 0) from fun i hi => all_three (P := InL) (show InL z1 from Z1.out.ltl) (show InL (z1 * z2 + n) from bits_lt (Bits.add (Z1.out.mul Z2.out) (Bits.mono (Bits.i64 i0 i1) (by omega))) (by omega)) (show InL (z2 * z2 * z1) from bits_lt (Bits.mul (Z2.out.mul Z2.out) (Z1.out.bits 310 (by omega))) (by omega)) i hi)
  obtain ⟨L, hL⟩ : ∃ L, L = [z1, z1 * z2 + n, z2 * z2 * z1] := ⟨_, rfl⟩
  have hLL : L.length = 3 := by rw [hL]; rfl
  rw [← hL] at HR HL
  have HLL := Lib.hid hLL
  clear hL hLL hal hv1 hv12 hv2 hv3 hv4 hv34 hv35 hv5 b1 b2 b3 b4 b5 hS1 hS2 hS3 hS4 hS5
  have gH20 := H2.out.c0
  have gH21 := H2.out.c1
  go_wp2_with fail
  refine (wider_any z2 _ _ H2.out.2 Z2.out.ltl).mono ?_
  rintro e w3 ⟨v, rfl, h, b⟩
  obtain ⟨d3, A3, n3, c3, rfl⟩ := h.shape
  clear gH20 gH21
  replace HR := Lib.hid (HR.out.below b)
  replace H2 := Lib.hid (H2.out.below b)
  replace HB := Lib.hid (bstep HB.out b)
  have V3 := Lib.hid h
  clear h b
  have h := HoldI.new V3.out
  have b := al_below w3 (.cells #[.bool d3, .slice A3 n3 c3] 34)
  replace HR := Lib.hid (HR.out.below b)
  replace H2 := Lib.hid (H2.out.below b)
  replace HB := Lib.hid (bstep HB.out b)
  have H3 := Lib.hid h
  clear h b V3
  go_wp2_with fail
  go_loopg [10] 3 (fun gk iv wr => ∃ i : Nat, gk + i = 3 ∧ iv = .int .i64 i ∧ Hid (ArrN wr wr5.heap.size L) ∧ Hid (HoldN wr w2.heap.size z2 d2 A2 n2 c2) ∧ Hid (HoldI wr w3.heap.size z2 d3 A3 n3 c3) ∧ Hid (Below w.heap.size w wr))
  case atStart => exact ⟨0, by omega, rfl, HR, H2, H3, HB⟩
  case round =>
    clear HB HR H2 H3
    obtain ⟨i, hgi, rfl, HR, H2, H3, HB⟩ := hrel
    by_cases hlt : (i : Int) < 3
    · obtain ⟨d4, A4, n4, c4, h⟩ := HR.out.get i (by rw [HLL.out]; omega)
      have hip : (0 : Int) ≤ (i : Int) := Int.natCast_nonneg _
      have ZL := HL.out i (by omega)
      obtain ⟨z, hz⟩ : ∃ z, L[i]?.getD 0 = z := ⟨_, rfl⟩
      rw [hz] at h ZL
      have Z := Lib.hid ZL
      have H4 := Lib.hid h
      clear hz ZL h
      have ew : IntKind.i64.wrap ((i : Int) + 1) = (i : Int) + 1 := IntWalk.i64_in _ (by omega)
      have gH40 := H4.out.c0
      have gH41 := H4.out.c1
      go_wp2_with fail
      refine (wider_any z _ _ H4.out.2.2.2 Z.out).mono ?_
      rintro e w5 ⟨v, rfl, h, b⟩
      obtain ⟨d5, A5, n5, c5, rfl⟩ := h.shape
      clear gH40 gH41
      replace HR := Lib.hid (HR.out.below b)
      replace HB := Lib.hid (bstep HB.out b)
      replace H2 := Lib.hid (H2.out.below b)
      replace H3 := Lib.hid (H3.out.below b)
      replace H4 := Lib.hid (H4.out.below b)
      have V5 := Lib.hid h
      clear h b
      have h := HoldI.new V5.out
      have b := al_below w5 (.cells #[.bool d5, .slice A5 n5 c5] 34)
      replace HR := Lib.hid (HR.out.below b)
      replace HB := Lib.hid (bstep HB.out b)
      replace H2 := Lib.hid (H2.out.below b)
      replace H3 := Lib.hid (H3.out.below b)
      replace H4 := Lib.hid (H4.out.below b)
      have H5 := Lib.hid h
      clear h b V5
      by_cases hb0 : z2 = 0
      · have HB0 := Lib.hid hb0
        clear hb0
        obtain rfl : n2 = 0 := H2.out.2.zero.2 HB0.out
        have HYR := Lib.hid (show RepI (w5.alloc (.cells #[.bool d5, .slice A5 n5 c5] 34)) (w5.alloc (.cells #[.bool d5, .slice A5 n5 c5] 34)).heap.size 0 _ from by have h := H3.out.2; rw [HB0.out] at h; exact h)
        have gH50 := H5.out.c0
        have gH51 := H5.out.c1
        have gH30 := H3.out.c0
        have gH31 := H3.out.c1
        go_wp2_with fail
        refine (idiv_zero z _ _ _ H5.out.2 HYR.out).mono ?_
        rintro e w6 ⟨u, v, rfl, h, h', b⟩
        obtain ⟨d6, A6, n6, c6, rfl⟩ := h.shape
        obtain ⟨d7, A7, n7, c7, rfl⟩ := h'.shape
        clear gH50 gH51 gH30 gH31
        replace HR := Lib.hid (HR.out.below b)
        replace HB := Lib.hid (bstep HB.out b)
        replace H2 := Lib.hid (H2.out.below b)
        replace H3 := Lib.hid (H3.out.below b)
        replace H4 := Lib.hid (H4.out.below b)
        replace H5 := Lib.hid (H5.out.below b)
        clear b
        have b1 := al_below w6 (.cells #[.bool d6, .slice A6 n6 c6] 34)
        have b2 := al_below (w6.alloc (.cells #[.bool d6, .slice A6 n6 c6] 34)) (.cells #[.bool d7, .slice A7 n7 c7] 34)
        have b := bstep b1 b2
        have K := (HoldI.new h).below b2
        have J := HoldI.new (h'.step b1)
        rw [World.size_alloc] at J
        replace HR := Lib.hid (HR.out.below b)
        replace HB := Lib.hid (bstep HB.out b)
        replace H2 := Lib.hid (H2.out.below b)
        replace H3 := Lib.hid (H3.out.below b)
        replace H4 := Lib.hid (H4.out.below b)
        replace H5 := Lib.hid (H5.out.below b)
        have H6 := Lib.hid K
        have H7 := Lib.hid J
        clear h h' b1 b2 b K J
        clear HYR
        have gH60 := H6.out.c0
        have gH61 := H6.out.c1
        have gH20 := H2.out.c0
        have gH21 := H2.out.c1
        go_wp2_with fail
        have HQ := equal_any 0 0 _ _ _ H6.out.2 (tiny (by decide)) (RepN.nil ((w6.alloc (.cells #[.bool d6, .slice A6 n6 c6] 34)).alloc (.cells #[.bool d7, .slice A7 n7 c7] 34)) _) (Bits.zero _)
        rw [decide_eq_true rfl] at HQ
        refine (HQ).mono ?_
        rintro e w8 ⟨rfl, b⟩
        clear gH60 gH61 gH20 gH21
        replace HR := Lib.hid (HR.out.below b)
        replace HB := Lib.hid (bstep HB.out b)
        replace H2 := Lib.hid (H2.out.below b)
        replace H3 := Lib.hid (H3.out.below b)
        replace H4 := Lib.hid (H4.out.below b)
        replace H5 := Lib.hid (H5.out.below b)
        replace H6 := Lib.hid (H6.out.below b)
        replace H7 := Lib.hid (H7.out.below b)
        clear b
        clear HQ
        have gH70 := H7.out.c0
        have gH71 := H7.out.c1
        have gH20 := H2.out.c0
        have gH21 := H2.out.c1
        go_wp2_with fail
        have HQ := equal_any 0 0 _ _ _ H7.out.2 (tiny (by decide)) (RepN.nil w8 _) (Bits.zero _)
        rw [decide_eq_true rfl] at HQ
        refine (HQ).mono ?_
        rintro e w9 ⟨rfl, b⟩
        clear gH70 gH71 gH20 gH21
        replace HR := Lib.hid (HR.out.below b)
        replace HB := Lib.hid (bstep HB.out b)
        replace H2 := Lib.hid (H2.out.below b)
        replace H3 := Lib.hid (H3.out.below b)
        replace H4 := Lib.hid (H4.out.below b)
        replace H5 := Lib.hid (H5.out.below b)
        replace H6 := Lib.hid (H6.out.below b)
        replace H7 := Lib.hid (H7.out.below b)
        clear b
        clear HQ
        clear H6
        clear H7
        clear H4
        clear H5
        clear Z HL
        go_wp2_with fail
        go_roundg (gk - 1)
        case measure => omega
        case rel => exact ⟨i + 1, by omega, by go_num, HR, H2, H3, HB⟩
      · have HB0 := Lib.hid hb0
        have hn0 : n2 ≠ 0 := fun h => hb0 (H2.out.2.zero.1 h)
        have hn1 : ((n2 : Int) == 0) = false := by simp [hn0]
        clear hb0
        have gH50 := H5.out.c0
        have gH51 := H5.out.c1
        have gH30 := H3.out.c0
        have gH31 := H3.out.c1
        go_wp2_with fail
        refine (idiv_any z z2 _ _ _ H5.out.2 H3.out.2 Z.out Z2.out.ltl HB0.out).mono ?_
        rintro e w10 ⟨u, v, rfl, h, h', b⟩
        obtain ⟨d10, A10, n10, c10, rfl⟩ := h.shape
        obtain ⟨d11, A11, n11, c11, rfl⟩ := h'.shape
        clear gH50 gH51 gH30 gH31
        replace HR := Lib.hid (HR.out.below b)
        replace HB := Lib.hid (bstep HB.out b)
        replace H2 := Lib.hid (H2.out.below b)
        replace H3 := Lib.hid (H3.out.below b)
        replace H4 := Lib.hid (H4.out.below b)
        replace H5 := Lib.hid (H5.out.below b)
        clear b
        have b1 := al_below w10 (.cells #[.bool d10, .slice A10 n10 c10] 34)
        have b2 := al_below (w10.alloc (.cells #[.bool d10, .slice A10 n10 c10] 34)) (.cells #[.bool d11, .slice A11 n11 c11] 34)
        have b := bstep b1 b2
        have K := (HoldI.new h).below b2
        have J := HoldI.new (h'.step b1)
        rw [World.size_alloc] at J
        replace HR := Lib.hid (HR.out.below b)
        replace HB := Lib.hid (bstep HB.out b)
        replace H2 := Lib.hid (H2.out.below b)
        replace H3 := Lib.hid (H3.out.below b)
        replace H4 := Lib.hid (H4.out.below b)
        replace H5 := Lib.hid (H5.out.below b)
        have H10 := Lib.hid K
        have H11 := Lib.hid J
        clear h h' b1 b2 b K J
        clear H5
        obtain ⟨W15, hW⟩ : ∃ W, W = ((w10.alloc (.cells #[.bool d10, .slice A10 n10 c10] 34)).alloc (.cells #[.bool d11, .slice A11 n11 c11] 34)) := ⟨_, rfl⟩
        have HW := Lib.hid hW
        have H2' := Lib.hid (show _ from H2.out)
        rw [← hW] at H2'
        have H3' := Lib.hid (show _ from H3.out)
        rw [← hW] at H3'
        have H10' := Lib.hid (show _ from H10.out)
        rw [← hW] at H10'
        have H11' := Lib.hid (show _ from H11.out)
        rw [← hW] at H11'
        have H4' := Lib.hid (show _ from H4.out)
        rw [← hW] at H4'
        have HR' := Lib.hid (show _ from HR.out)
        rw [← hW] at HR'
        have HB' := Lib.hid (show _ from HB.out)
        rw [← hW] at HB'
        have gH20 := H2.out.c0
        have gH21 := H2.out.c1
        clear hW H2 H3 H10 H11 H4 HR HB
        go_upto_region 15 with (fail)
        rw [← HW.out]
        clear HW
        clear gH20 gH21
        have KP := Lib.hid (show ∀ W, Below W15.heap.size W15 W → W.cell? ⟨w2.heap.size, 0, none⟩ = some (.bool d2) ∧ W.cell? ⟨w2.heap.size, 1, none⟩ = some (.slice A2 n2 c2) ∧ W.cell? ⟨wr5.heap.size, i * 2, none⟩ = some (.bool d4) ∧ W.cell? ⟨wr5.heap.size, i * 2 + 1, none⟩ = some (.slice A4 n4 c4) ∧ Below W15.heap.size W15 W from fun W hb => ⟨cell_below (H2'.out.c0) hb, cell_below (H2'.out.c1) hb, cell_below (H4'.out.c0) hb, cell_below (H4'.out.c1) hb, hb⟩)
        go_cut [16, 17] (fun p p' wx => ∃ (g1 g2 : Nat) (d1 d2 : Bool) (A1 A2 : Option Addr) (n1 c1 n2 c2 : Nat), p = .pointer (some ⟨g1, 0, none⟩) ∧ p' = .pointer (some ⟨g2, 0, none⟩) ∧ Hid (HoldN wx g1 (z / z2) d1 A1 n1 c1) ∧ Hid (HoldN wx g2 (z % z2) d2 A2 n2 c2) ∧ Hid (Below W15.heap.size W15 wx))
        case first =>
          go_region_held3 (fun w' => w'.cell? ⟨w2.heap.size, 0, none⟩ = some (.bool d2) ∧ w'.cell? ⟨w2.heap.size, 1, none⟩ = some (.slice A2 n2 c2) ∧ w'.cell? ⟨wr5.heap.size, i * 2, none⟩ = some (.bool d4) ∧ w'.cell? ⟨wr5.heap.size, i * 2 + 1, none⟩ = some (.slice A4 n4 c4) ∧ Below W15.heap.size W15 w')
            (first | with_reducible exact KP.out _ (Below.refl _ _) | with_reducible exact KP.out _ (below_drew (Below.refl _ _)) | with_reducible exact KP.out _ ((by first | assumption | exact And.right (And.right (And.right (And.right (by assumption)))))) | with_reducible exact KP.out _ (below_drew (by first | assumption | exact And.right (And.right (And.right (And.right (by assumption)))))) | with_reducible exact KP.out _ (bal (by first | assumption | exact And.right (And.right (And.right (And.right (by assumption))))) _) | with_reducible exact KP.out _ (bal (Below.refl _ _) _) | with_reducible exact KP.out _ (below_drew (bal (Below.refl _ _) _)) | with_reducible exact KP.out _ (bal (bal (Below.refl _ _) _) _) | with_reducible exact KP.out _ (below_drew (bal (bal (Below.refl _ _) _) _)) | with_reducible exact KP.out _ (below_drew (below_drew (bal (bal (Below.refl _ _) _) _))) | with_reducible exact KP.out _ (below_off (by first | assumption | exact And.right (And.right (And.right (And.right (by assumption))))) (by omega)) | with_reducible exact KP.out _ (bal (bal hbq _) _) | with_reducible exact KP.out _ (below_off (bal hbq _) (by omega)) | with_reducible exact KP.out _ (below_off hbq (by omega)) | with_reducible exact KP.out _ (below_off (below_off hbq (by omega)) (by omega)) | with_reducible exact KP.out _ (below_off (below_off (bal hbq _) (by omega)) (by omega)))
            (first
              | (go_at_call 34
                 refine (div_any z z2 _ _ _ (H4'.out.2.2.2.step (by first | assumption | exact And.right (And.right (And.right (And.right (by assumption)))))) (H2'.out.2.step (by first | assumption | exact And.right (And.right (And.right (And.right (by assumption)))))) (fit_bits Z.out) (Z2.out.bits _ (by omega)) HB0.out).mono ?_
                 rintro e wq ⟨u, v, rfl, hq, hr, bq⟩
                 obtain ⟨d801, A801, n801, c801, rfl⟩ := hq.shape
                 obtain ⟨d802, A802, n802, c802, rfl⟩ := hr.shape
                 have hbq : Below W15.heap.size W15 wq := bstep (by first | assumption | exact And.right (And.right (And.right (And.right (by assumption))))) bq
                 first
                   | ((first | with_reducible have hp := pend2 (undrew (undrew bq)) | with_reducible have hp := pend2 (undrew bq) | with_reducible have hp := pend2 bq); have hp1 := hp.1; have hp2 := hp.2.1; have hsq : W15.heap.size + 2 ≤ wq.heap.size := hp.2.2; have qa0 := hp1.c0; have qa1 := hp1.c1; have qa2 := hp1.f0; have qa3 := hp1.f1; have qb0 := hp2.c0; have qb1 := hp2.c1; have qb2 := hp2.f0; have qb3 := hp2.f1; have hp3 := hp2.off (u := .bool d801) (u' := .slice A801 n801 c801) (g := W15.heap.size) (by omega); have hp4 := hp1.off (u := .bool d801) (u' := .slice A801 n801 c801) (g := W15.heap.size + 1) (by omega); have qc0 := hp3.c0; have qc1 := hp3.c1; have qc2 := hp3.f0; have qc3 := hp3.f1; have qd0 := hp4.c0; have qd1 := hp4.c1; have qd2 := hp4.f0; have qd3 := hp4.f1; clear hp)
                   | ((first | with_reducible have hp := pend1 (undrew (undrew bq)) | with_reducible have hp := pend1 (undrew bq) | with_reducible have hp := pend1 bq); have hp1 := hp.1; have hsq : W15.heap.size + 1 ≤ wq.heap.size := hp.2; have qa0 := hp1.c0; have qa1 := hp1.c1; have qa2 := hp1.f0; have qa3 := hp1.f1; have hp2 := hp1.below (al_below wq (.cells #[.bool false, .slice none 0 0] 25)); have qb0 := hp2.c0; have qb1 := hp2.c1; have qb2 := hp2.f0; have qb3 := hp2.f1; have hp3 := hp1.below (al_below wq (.cells #[.bool d801, .slice A801 n801 c801] 25)); have qc0 := hp3.c0; have qc1 := hp3.c1; have qc2 := hp3.f0; have qc3 := hp3.f1; have hp4 := (Blk2.new wq 25 (.bool false) (.slice none 0 0)).off (u := .bool d801) (u' := .slice A801 n801 c801) (g := W15.heap.size) (by omega); have qd0 := hp4.c0; have qd1 := hp4.c1; have qd2 := hp4.f0; have qd3 := hp4.f1; clear hp)
                   | (have hsq : W15.heap.size ≤ wq.heap.size := hbq.size)))
          all_goals (go_wp2_with fail; go_meet; case rel => first | (have X := new_two hq hr; with_reducible exact ⟨_, _, _, _, _, _, _, _, _, _, rfl, rfl, Lib.hid X.1, Lib.hid X.2, Lib.hid (bal (bal hbq _) _)⟩) | (have X := new_two hr hq; with_reducible exact ⟨_, _, _, _, _, _, _, _, _, _, rfl, rfl, Lib.hid X.2, Lib.hid X.1, Lib.hid (bal (bal hbq _) _)⟩) | (have X := put2 (hq.step (al_below wq (.cells #[.bool false, .slice none 0 0] 25))) (hr.step (al_below wq (.cells #[.bool false, .slice none 0 0] 25))) hp2 (Blk2.new wq _ (.bool false) (.slice none 0 0)) (by omega); with_reducible exact ⟨_, _, _, _, _, _, _, _, _, _, rfl, rfl, Lib.hid X.1, Lib.hid X.2, Lib.hid (below_off (below_off (bal hbq _) (by omega)) (by omega))⟩) | (have X := put2 hq hr hp1 hp2 (by omega); with_reducible exact ⟨_, _, _, _, _, _, _, _, _, _, rfl, rfl, Lib.hid X.1, Lib.hid X.2, Lib.hid (below_off (below_off hbq (by omega)) (by omega))⟩) | (have X := new_put hq hr hp1; with_reducible exact ⟨_, _, _, _, _, _, _, _, _, _, rfl, rfl, Lib.hid X.1, Lib.hid X.2, Lib.hid (below_off (bal hbq _) (by omega))⟩) | (have X := put2 hq hr hp2 hp1 (by omega); with_reducible exact ⟨_, _, _, _, _, _, _, _, _, _, rfl, rfl, Lib.hid X.1, Lib.hid X.2, Lib.hid (below_off (below_off hbq (by omega)) (by omega))⟩))
        case rest =>
          obtain ⟨g1, g2, d811, d812, A811, A812, n811, c811, n812, c812, rfl, rfl, HC, HD, HBW⟩ := hcut
          have H2 := Lib.hid (H2'.out.below HBW.out)
          have H3 := Lib.hid (H3'.out.below HBW.out)
          have H10 := Lib.hid (H10'.out.below HBW.out)
          have H11 := Lib.hid (H11'.out.below HBW.out)
          have HR := Lib.hid (HR'.out.below HBW.out)
          have HB := Lib.hid (bstep HB'.out HBW.out)
          clear HBW KP H4' H2' H3' H10' H11' HR' HB'
          have gH100 := H10.out.c0
          have gH101 := H10.out.c1
          have gHC0 := HC.out.c0
          have gHC1 := HC.out.c1
          go_wp2_with fail
          have HQ := equal_any (z / z2) (z / z2) _ _ _ H10.out.2 (ediv_ltl Z.out _) HC.out.2 (fit_bits (ediv_ltl Z.out _))
          rw [decide_eq_true rfl] at HQ
          refine (HQ).mono ?_
          rintro e w12 ⟨rfl, b⟩
          clear gH100 gH101 gHC0 gHC1
          replace HR := Lib.hid (HR.out.below b)
          replace HB := Lib.hid (bstep HB.out b)
          replace H2 := Lib.hid (H2.out.below b)
          replace H3 := Lib.hid (H3.out.below b)
          replace H10 := Lib.hid (H10.out.below b)
          replace H11 := Lib.hid (H11.out.below b)
          replace HC := Lib.hid (HC.out.below b)
          replace HD := Lib.hid (HD.out.below b)
          clear b
          clear HQ
          have gH110 := H11.out.c0
          have gH111 := H11.out.c1
          have gHD0 := HD.out.c0
          have gHD1 := HD.out.c1
          go_wp2_with fail
          have HQ := equal_any (z % z2) (z % z2) _ _ _ H11.out.2 (emod_ltl Z2.out.ltl HB0.out) HD.out.2 (fit_bits (emod_ltl Z2.out.ltl HB0.out))
          rw [decide_eq_true rfl] at HQ
          refine (HQ).mono ?_
          rintro e w13 ⟨rfl, b⟩
          clear gH110 gH111 gHD0 gHD1
          replace HR := Lib.hid (HR.out.below b)
          replace HB := Lib.hid (bstep HB.out b)
          replace H2 := Lib.hid (H2.out.below b)
          replace H3 := Lib.hid (H3.out.below b)
          replace H10 := Lib.hid (H10.out.below b)
          replace H11 := Lib.hid (H11.out.below b)
          replace HC := Lib.hid (HC.out.below b)
          replace HD := Lib.hid (HD.out.below b)
          clear b
          clear HQ
          clear H10
          clear H11
          clear HC
          clear HD
          clear Z HL
          go_wp2_with fail
          go_roundg (gk - 1)
          case measure => omega
          case rel => exact ⟨i + 1, by omega, by go_num, HR, H2, H3, HB⟩
    · clear HR HL HLL
      go_wp2_with fail
      refine (lives_any _).mono ?_
      rintro e w14 ⟨rfl, b⟩
      replace HB := Lib.hid (bstep HB.out b)
      clear b
      go_wp2_with fail
      go_ret
      exact ⟨rfl, HB.out⟩
end Go.Proofs.YtpilpceclmppgaaDoor
