/- Layer 3's laws: WideRing. -/
import Derived.Test.YtpilpceclmppgaaDoorLaws
namespace Go.Proofs.YtpilpceclmppgaaDoor
open Go.RowKit
set_option linter.unusedVariables false

def RingS (w w2 w4 w7 w8 w9 w12 w13 : World) (z1 z3 za zc : Int) (d2 d4 d7 d8 d9 d12 d13 : Bool) (A2 A4 A7 A8 A9 A12 A13 : Option Addr) (n2 c2 n4 c4 n7 c7 n8 c8 n9 c9 n12 c12 n13 c13 : Nat) (W : World) : Prop := (HoldI W w2.heap.size z1 d2 A2 n2 c2) ∧ (HoldI W w4.heap.size z3 d4 A4 n4 c4) ∧ (HoldI W w7.heap.size za d7 A7 n7 c7) ∧ (HoldI W w8.heap.size za d8 A8 n8 c8) ∧ (HoldI W w9.heap.size zc d9 A9 n9 c9) ∧ (HoldI W w12.heap.size zc d12 A12 n12 c12) ∧ (HoldI W w13.heap.size z1 d13 A13 n13 c13) ∧ Below w.heap.size w W
theorem RingS.drew {w w2 w4 w7 w8 w9 w12 w13 : World} {z1 z3 za zc : Int} {d2 d4 d7 d8 d9 d12 d13 : Bool} {A2 A4 A7 A8 A9 A12 A13 : Option Addr} {n2 c2 n4 c4 n7 c7 n8 c8 n9 c9 n12 c12 n13 c13 : Nat} {W : World} (h : RingS w w2 w4 w7 w8 w9 w12 w13 z1 z3 za zc d2 d4 d7 d8 d9 d12 d13 A2 A4 A7 A8 A9 A12 A13 n2 c2 n4 c4 n7 c7 n8 c8 n9 c9 n12 c12 n13 c13 W) : RingS w w2 w4 w7 w8 w9 w12 w13 z1 z3 za zc d2 d4 d7 d8 d9 d12 d13 A2 A4 A7 A8 A9 A12 A13 n2 c2 n4 c4 n7 c7 n8 c8 n9 c9 n12 c12 n13 c13 W.drew := ⟨h.1, h.2.1, h.2.2.1, h.2.2.2.1, h.2.2.2.2.1, h.2.2.2.2.2.1, h.2.2.2.2.2.2.1, below_drew h.2.2.2.2.2.2.2⟩
theorem RingS.below {w w2 w4 w7 w8 w9 w12 w13 : World} {z1 z3 za zc : Int} {d2 d4 d7 d8 d9 d12 d13 : Bool} {A2 A4 A7 A8 A9 A12 A13 : Option Addr} {n2 c2 n4 c4 n7 c7 n8 c8 n9 c9 n12 c12 n13 c13 : Nat} : Stab (RingS w w2 w4 w7 w8 w9 w12 w13 z1 z3 za zc d2 d4 d7 d8 d9 d12 d13 A2 A4 A7 A8 A9 A12 A13 n2 c2 n4 c4 n7 c7 n8 c8 n9 c9 n12 c12 n13 c13) := fun W W' h hb => ⟨h.1.below hb, h.2.1.below hb, h.2.2.1.below hb, h.2.2.2.1.below hb, h.2.2.2.2.1.below hb, h.2.2.2.2.2.1.below hb, h.2.2.2.2.2.2.1.below hb, bstep h.2.2.2.2.2.2.2 hb⟩
theorem RingS.all {w w2 w4 w7 w8 w9 w12 w13 : World} {z1 z3 za zc : Int} {d2 d4 d7 d8 d9 d12 d13 : Bool} {A2 A4 A7 A8 A9 A12 A13 : Option Addr} {n2 c2 n4 c4 n7 c7 n8 c8 n9 c9 n12 c12 n13 c13 : Nat} {W : World} (h : RingS w w2 w4 w7 w8 w9 w12 w13 z1 z3 za zc d2 d4 d7 d8 d9 d12 d13 A2 A4 A7 A8 A9 A12 A13 n2 c2 n4 c4 n7 c7 n8 c8 n9 c9 n12 c12 n13 c13 W) : W.cell? ⟨w2.heap.size, 0, none⟩ = some (.bool d2) ∧ W.cell? ⟨w2.heap.size, 1, none⟩ = some (.slice A2 n2 c2) ∧ W.cell? ⟨w4.heap.size, 0, none⟩ = some (.bool d4) ∧ W.cell? ⟨w4.heap.size, 1, none⟩ = some (.slice A4 n4 c4) ∧ W.cell? ⟨w7.heap.size, 0, none⟩ = some (.bool d7) ∧ W.cell? ⟨w7.heap.size, 1, none⟩ = some (.slice A7 n7 c7) ∧ W.cell? ⟨w8.heap.size, 0, none⟩ = some (.bool d8) ∧ W.cell? ⟨w8.heap.size, 1, none⟩ = some (.slice A8 n8 c8) ∧ W.cell? ⟨w9.heap.size, 0, none⟩ = some (.bool d9) ∧ W.cell? ⟨w9.heap.size, 1, none⟩ = some (.slice A9 n9 c9) ∧ W.cell? ⟨w12.heap.size, 0, none⟩ = some (.bool d12) ∧ W.cell? ⟨w12.heap.size, 1, none⟩ = some (.slice A12 n12 c12) ∧ W.cell? ⟨w13.heap.size, 0, none⟩ = some (.bool d13) ∧ W.cell? ⟨w13.heap.size, 1, none⟩ = some (.slice A13 n13 c13) ∧ RingS w w2 w4 w7 w8 w9 w12 w13 z1 z3 za zc d2 d4 d7 d8 d9 d12 d13 A2 A4 A7 A8 A9 A12 A13 n2 c2 n4 c4 n7 c7 n8 c8 n9 c9 n12 c12 n13 c13 W := ⟨h.1.c0, h.1.c1, h.2.1.c0, h.2.1.c1, h.2.2.1.c0, h.2.2.1.c1, h.2.2.2.1.c0, h.2.2.2.1.c1, h.2.2.2.2.1.c0, h.2.2.2.2.1.c1, h.2.2.2.2.2.1.c0, h.2.2.2.2.2.1.c1, h.2.2.2.2.2.2.1.c0, h.2.2.2.2.2.2.1.c1, h⟩
theorem RingS.off {w w2 w4 w7 w8 w9 w12 w13 : World} {z1 z3 za zc : Int} {d2 d4 d7 d8 d9 d12 d13 : Bool} {A2 A4 A7 A8 A9 A12 A13 : Option Addr} {n2 c2 n4 c4 n7 c7 n8 c8 n9 c9 n12 c12 n13 c13 : Nat} {W : World} (h : RingS w w2 w4 w7 w8 w9 w12 w13 z1 z3 za zc d2 d4 d7 d8 d9 d12 d13 A2 A4 A7 A8 A9 A12 A13 n2 c2 n4 c4 n7 c7 n8 c8 n9 c9 n12 c12 n13 c13 W) {g : Nat} {tt : TypeId} {bQ : Bool} {AQ : Option Addr} {nQ kQ : Nat} {u u' : Value} (hk : Blk2 W g tt (.bool bQ) (.slice AQ nQ kQ)) {G : Nat} (e0 : w2.heap.size < G) (e1 : w4.heap.size < G) (e2 : w7.heap.size < G) (e3 : w8.heap.size < G) (e4 : w9.heap.size < G) (e5 : w12.heap.size < G) (e6 : w13.heap.size < G) (e : w.heap.size ≤ G) (hg : G ≤ g) : RingS w w2 w4 w7 w8 w9 w12 w13 z1 z3 za zc d2 d4 d7 d8 d9 d12 d13 A2 A4 A7 A8 A9 A12 A13 n2 c2 n4 c4 n7 c7 n8 c8 n9 c9 n12 c12 n13 c13 ((W.setCell ⟨g, 0, none⟩ u).setCell ⟨g, 1, none⟩ u') := ⟨h.1.off hk (by omega), h.2.1.off hk (by omega), h.2.2.1.off hk (by omega), h.2.2.2.1.off hk (by omega), h.2.2.2.2.1.off hk (by omega), h.2.2.2.2.2.1.off hk (by omega), h.2.2.2.2.2.2.1.off hk (by omega), below_off h.2.2.2.2.2.2.2 (by omega)⟩
set_option maxRecDepth 100000 in
set_option maxHeartbeats 8000000 in
theorem wideRing_law (A0 : Option Addr) (n0 c0 : Nat) (zs : List Int) (w : World) (hI : InI w A0 n0 zs) (hn : n0 ≤ 9223372036854775807) :
    Calls Tryd.prog 10 #[.slice A0 n0 c0] w fun e w' => e = .returned (.bool true) ∧ Below w.heap.size w w' := by
  have HB := Lib.hid (Below.refl w.heap.size w)
  have HI := Lib.hid hI
  clear hI
  go_enter Tryd.func10, Tryd.ntmps10
  go_wp2_with fail
  refine (number_any A0 n0 c0 0 zs _ HI.out hn (by omega) (by omega)).mono ?_
  rintro e w1 ⟨z1, hz, v, rfl, h, b⟩
  obtain ⟨d1, A1, n1, c1, rfl⟩ := h.shape
  replace HB := Lib.hid (bstep HB.out b)
  replace HI := Lib.hid (HI.out.below b)
  have Z1 := Lib.hid (show Num z1 from hz)
  have V1 := Lib.hid h
  clear h b hz
  go_wp2_with fail
  refine (wider_any z1 _ _ V1.out Z1.out.ltl).mono ?_
  rintro e w2 ⟨v, rfl, h, b⟩
  obtain ⟨d2, A2, n2, c2, rfl⟩ := h.shape
  replace HB := Lib.hid (bstep HB.out b)
  replace HI := Lib.hid (HI.out.below b)
  replace V1 := Lib.hid (V1.out.step b)
  have V2 := Lib.hid h
  clear h b
  clear V1
  have h := HoldI.new V2.out
  have b := al_below w2 (.cells #[.bool d2, .slice A2 n2 c2] 34)
  replace HB := Lib.hid (bstep HB.out b)
  replace HI := Lib.hid (HI.out.below b)
  have H2 := Lib.hid h
  clear h b V2
  go_wp2_with fail
  refine (number_any A0 n0 c0 6 zs _ HI.out hn (by omega) (by omega)).mono ?_
  rintro e w3 ⟨z3, hz, v, rfl, h, b⟩
  obtain ⟨d3, A3, n3, c3, rfl⟩ := h.shape
  replace HB := Lib.hid (bstep HB.out b)
  replace HI := Lib.hid (HI.out.below b)
  replace H2 := Lib.hid (H2.out.below b)
  have Z3 := Lib.hid (show Num z3 from hz)
  have V3 := Lib.hid h
  clear h b hz
  go_wp2_with fail
  refine (wider_any z3 _ _ V3.out Z3.out.ltl).mono ?_
  rintro e w4 ⟨v, rfl, h, b⟩
  obtain ⟨d4, A4, n4, c4, rfl⟩ := h.shape
  replace HB := Lib.hid (bstep HB.out b)
  replace HI := Lib.hid (HI.out.below b)
  replace H2 := Lib.hid (H2.out.below b)
  replace V3 := Lib.hid (V3.out.step b)
  have V4 := Lib.hid h
  clear h b
  clear V3
  have h := HoldI.new V4.out
  have b := al_below w4 (.cells #[.bool d4, .slice A4 n4 c4] 34)
  replace HB := Lib.hid (bstep HB.out b)
  replace HI := Lib.hid (HI.out.below b)
  replace H2 := Lib.hid (H2.out.below b)
  have H4 := Lib.hid h
  clear h b V4
  go_wp2_with fail
  refine (number_any A0 n0 c0 12 zs _ HI.out hn (by omega) (by omega)).mono ?_
  rintro e w5 ⟨z5, hz, v, rfl, h, b⟩
  obtain ⟨d5, A5, n5, c5, rfl⟩ := h.shape
  replace HB := Lib.hid (bstep HB.out b)
  replace HI := Lib.hid (HI.out.below b)
  replace H2 := Lib.hid (H2.out.below b)
  replace H4 := Lib.hid (H4.out.below b)
  have Z5 := Lib.hid (show Num z5 from hz)
  have V5 := Lib.hid h
  clear h b hz
  go_wp2_with fail
  refine (wider_any z5 _ _ V5.out Z5.out.ltl).mono ?_
  rintro e w6 ⟨v, rfl, h, b⟩
  obtain ⟨d6, A6, n6, c6, rfl⟩ := h.shape
  replace HB := Lib.hid (bstep HB.out b)
  replace HI := Lib.hid (HI.out.below b)
  replace H2 := Lib.hid (H2.out.below b)
  replace H4 := Lib.hid (H4.out.below b)
  replace V5 := Lib.hid (V5.out.step b)
  have V6 := Lib.hid h
  clear h b
  clear V5
  have h := HoldI.new V6.out
  have b := al_below w6 (.cells #[.bool d6, .slice A6 n6 c6] 34)
  replace HB := Lib.hid (bstep HB.out b)
  replace HI := Lib.hid (HI.out.below b)
  replace H2 := Lib.hid (H2.out.below b)
  replace H4 := Lib.hid (H4.out.below b)
  have H6 := Lib.hid h
  clear h b V6
  clear HI
  obtain ⟨za, h_za⟩ : ∃ q : Int, z1 + z3 = q := ⟨_, rfl⟩
  have E_za := Lib.hid h_za
  have L_za := Lib.hid (show (za.natAbs : Int) < lim from by rw [← h_za]; exact Z1.out.add_ltl Z3.out)
  clear h_za
  obtain ⟨zc, h_zc⟩ : ∃ q : Int, za * z5 = q := ⟨_, rfl⟩
  have E_zc := Lib.hid h_zc
  have L_zc := Lib.hid (show (zc.natAbs : Int) < lim from by rw [← h_zc]; exact by rw [← E_za.out]; exact bits_lt (ring_c Z1.out Z3.out Z5.out) (by omega))
  clear h_zc
  obtain ⟨zd, h_zd⟩ : ∃ q : Int, z1 * z5 = q := ⟨_, rfl⟩
  have E_zd := Lib.hid h_zd
  have L_zd := Lib.hid (show (zd.natAbs : Int) < lim from by rw [← h_zd]; exact Z1.out.mul_ltl Z5.out)
  clear h_zd
  obtain ⟨zi, h_zi⟩ : ∃ q : Int, z5 * z3 = q := ⟨_, rfl⟩
  have E_zi := Lib.hid h_zi
  have L_zi := Lib.hid (show (zi.natAbs : Int) < lim from by rw [← h_zi]; exact Z5.out.mul_ltl Z3.out)
  clear h_zi
  have gH20 := H2.out.c0
  have gH21 := H2.out.c1
  have gH40 := H4.out.c0
  have gH41 := H4.out.c1
  go_wp2_with fail
  refine (iadd_fit z1 z3 za _ _ _ H2.out.2 H4.out.2 Z1.out.ltl Z3.out.ltl (E_za.out) L_za.out).mono ?_
  rintro e w7 ⟨v, rfl, h, b⟩
  obtain ⟨d7, A7, n7, c7, rfl⟩ := h.shape
  clear gH20 gH21 gH40 gH41
  replace HB := Lib.hid (bstep HB.out b)
  replace H2 := Lib.hid (H2.out.below b)
  replace H4 := Lib.hid (H4.out.below b)
  replace H6 := Lib.hid (H6.out.below b)
  have V7 := Lib.hid h
  clear h b
  have h := HoldI.new V7.out
  have b := al_below w7 (.cells #[.bool d7, .slice A7 n7 c7] 34)
  replace HB := Lib.hid (bstep HB.out b)
  replace H2 := Lib.hid (H2.out.below b)
  replace H4 := Lib.hid (H4.out.below b)
  replace H6 := Lib.hid (H6.out.below b)
  have H7 := Lib.hid h
  clear h b V7
  have gH40 := H4.out.c0
  have gH41 := H4.out.c1
  have gH20 := H2.out.c0
  have gH21 := H2.out.c1
  go_wp2_with fail
  refine (iadd_fit z3 z1 za _ _ _ H4.out.2 H2.out.2 Z3.out.ltl Z1.out.ltl (by rw [Int.add_comm]; exact E_za.out) L_za.out).mono ?_
  rintro e w8 ⟨v, rfl, h, b⟩
  obtain ⟨d8, A8, n8, c8, rfl⟩ := h.shape
  clear gH40 gH41 gH20 gH21
  replace HB := Lib.hid (bstep HB.out b)
  replace H2 := Lib.hid (H2.out.below b)
  replace H4 := Lib.hid (H4.out.below b)
  replace H6 := Lib.hid (H6.out.below b)
  replace H7 := Lib.hid (H7.out.below b)
  have V8 := Lib.hid h
  clear h b
  have h := HoldI.new V8.out
  have b := al_below w8 (.cells #[.bool d8, .slice A8 n8 c8] 34)
  replace HB := Lib.hid (bstep HB.out b)
  replace H2 := Lib.hid (H2.out.below b)
  replace H4 := Lib.hid (H4.out.below b)
  replace H6 := Lib.hid (H6.out.below b)
  replace H7 := Lib.hid (H7.out.below b)
  have H8 := Lib.hid h
  clear h b V8
  have gH70 := H7.out.c0
  have gH71 := H7.out.c1
  have gH60 := H6.out.c0
  have gH61 := H6.out.c1
  go_wp2_with fail
  refine (imul_fit za z5 zc _ _ _ H7.out.2 H6.out.2 L_za.out Z5.out.ltl (E_zc.out) L_zc.out).mono ?_
  rintro e w9 ⟨v, rfl, h, b⟩
  obtain ⟨d9, A9, n9, c9, rfl⟩ := h.shape
  clear gH70 gH71 gH60 gH61
  replace HB := Lib.hid (bstep HB.out b)
  replace H2 := Lib.hid (H2.out.below b)
  replace H4 := Lib.hid (H4.out.below b)
  replace H6 := Lib.hid (H6.out.below b)
  replace H7 := Lib.hid (H7.out.below b)
  replace H8 := Lib.hid (H8.out.below b)
  have V9 := Lib.hid h
  clear h b
  have h := HoldI.new V9.out
  have b := al_below w9 (.cells #[.bool d9, .slice A9 n9 c9] 34)
  replace HB := Lib.hid (bstep HB.out b)
  replace H2 := Lib.hid (H2.out.below b)
  replace H4 := Lib.hid (H4.out.below b)
  replace H6 := Lib.hid (H6.out.below b)
  replace H7 := Lib.hid (H7.out.below b)
  replace H8 := Lib.hid (H8.out.below b)
  have H9 := Lib.hid h
  clear h b V9
  have gH20 := H2.out.c0
  have gH21 := H2.out.c1
  have gH60 := H6.out.c0
  have gH61 := H6.out.c1
  go_wp2_with fail
  refine (imul_fit z1 z5 zd _ _ _ H2.out.2 H6.out.2 Z1.out.ltl Z5.out.ltl (E_zd.out) L_zd.out).mono ?_
  rintro e w10 ⟨v, rfl, h, b⟩
  obtain ⟨d10, A10, n10, c10, rfl⟩ := h.shape
  clear gH20 gH21 gH60 gH61
  replace HB := Lib.hid (bstep HB.out b)
  replace H2 := Lib.hid (H2.out.below b)
  replace H4 := Lib.hid (H4.out.below b)
  replace H6 := Lib.hid (H6.out.below b)
  replace H7 := Lib.hid (H7.out.below b)
  replace H8 := Lib.hid (H8.out.below b)
  replace H9 := Lib.hid (H9.out.below b)
  have V10 := Lib.hid h
  clear h b
  have h := HoldI.new V10.out
  have b := al_below w10 (.cells #[.bool d10, .slice A10 n10 c10] 34)
  replace HB := Lib.hid (bstep HB.out b)
  replace H2 := Lib.hid (H2.out.below b)
  replace H4 := Lib.hid (H4.out.below b)
  replace H6 := Lib.hid (H6.out.below b)
  replace H7 := Lib.hid (H7.out.below b)
  replace H8 := Lib.hid (H8.out.below b)
  replace H9 := Lib.hid (H9.out.below b)
  have H10 := Lib.hid h
  clear h b V10
  have gH60 := H6.out.c0
  have gH61 := H6.out.c1
  have gH40 := H4.out.c0
  have gH41 := H4.out.c1
  go_wp2_with fail
  refine (imul_fit z5 z3 zi _ _ _ H6.out.2 H4.out.2 Z5.out.ltl Z3.out.ltl (E_zi.out) L_zi.out).mono ?_
  rintro e w11 ⟨v, rfl, h, b⟩
  obtain ⟨d11, A11, n11, c11, rfl⟩ := h.shape
  clear gH60 gH61 gH40 gH41
  replace HB := Lib.hid (bstep HB.out b)
  replace H2 := Lib.hid (H2.out.below b)
  replace H4 := Lib.hid (H4.out.below b)
  replace H6 := Lib.hid (H6.out.below b)
  replace H7 := Lib.hid (H7.out.below b)
  replace H8 := Lib.hid (H8.out.below b)
  replace H9 := Lib.hid (H9.out.below b)
  replace H10 := Lib.hid (H10.out.below b)
  have V11 := Lib.hid h
  clear h b
  have h := HoldI.new V11.out
  have b := al_below w11 (.cells #[.bool d11, .slice A11 n11 c11] 34)
  replace HB := Lib.hid (bstep HB.out b)
  replace H2 := Lib.hid (H2.out.below b)
  replace H4 := Lib.hid (H4.out.below b)
  replace H6 := Lib.hid (H6.out.below b)
  replace H7 := Lib.hid (H7.out.below b)
  replace H8 := Lib.hid (H8.out.below b)
  replace H9 := Lib.hid (H9.out.below b)
  replace H10 := Lib.hid (H10.out.below b)
  have H11 := Lib.hid h
  clear h b V11
  have gH100 := H10.out.c0
  have gH101 := H10.out.c1
  have gH110 := H11.out.c0
  have gH111 := H11.out.c1
  go_wp2_with fail
  refine (iadd_fit zd zi zc _ _ _ H10.out.2 H11.out.2 L_zd.out L_zi.out (by rw [← E_zd.out, ← E_zi.out, ← E_zc.out, ← E_za.out]; exact ring_k _ _ _) L_zc.out).mono ?_
  rintro e w12 ⟨v, rfl, h, b⟩
  obtain ⟨d12, A12, n12, c12, rfl⟩ := h.shape
  clear gH100 gH101 gH110 gH111
  replace HB := Lib.hid (bstep HB.out b)
  replace H2 := Lib.hid (H2.out.below b)
  replace H4 := Lib.hid (H4.out.below b)
  replace H6 := Lib.hid (H6.out.below b)
  replace H7 := Lib.hid (H7.out.below b)
  replace H8 := Lib.hid (H8.out.below b)
  replace H9 := Lib.hid (H9.out.below b)
  replace H10 := Lib.hid (H10.out.below b)
  replace H11 := Lib.hid (H11.out.below b)
  have V12 := Lib.hid h
  clear h b
  have h := HoldI.new V12.out
  have b := al_below w12 (.cells #[.bool d12, .slice A12 n12 c12] 34)
  replace HB := Lib.hid (bstep HB.out b)
  replace H2 := Lib.hid (H2.out.below b)
  replace H4 := Lib.hid (H4.out.below b)
  replace H6 := Lib.hid (H6.out.below b)
  replace H7 := Lib.hid (H7.out.below b)
  replace H8 := Lib.hid (H8.out.below b)
  replace H9 := Lib.hid (H9.out.below b)
  replace H10 := Lib.hid (H10.out.below b)
  replace H11 := Lib.hid (H11.out.below b)
  have H12 := Lib.hid h
  clear h b V12
  have gH70 := H7.out.c0
  have gH71 := H7.out.c1
  have gH40 := H4.out.c0
  have gH41 := H4.out.c1
  go_wp2_with fail
  refine (isub_fit za z3 z1 _ _ _ H7.out.2 H4.out.2 L_za.out Z3.out.ltl (by have := E_za.out; omega) Z1.out.ltl).mono ?_
  rintro e w13 ⟨v, rfl, h, b⟩
  obtain ⟨d13, A13, n13, c13, rfl⟩ := h.shape
  clear gH70 gH71 gH40 gH41
  replace HB := Lib.hid (bstep HB.out b)
  replace H2 := Lib.hid (H2.out.below b)
  replace H4 := Lib.hid (H4.out.below b)
  replace H6 := Lib.hid (H6.out.below b)
  replace H7 := Lib.hid (H7.out.below b)
  replace H8 := Lib.hid (H8.out.below b)
  replace H9 := Lib.hid (H9.out.below b)
  replace H10 := Lib.hid (H10.out.below b)
  replace H11 := Lib.hid (H11.out.below b)
  replace H12 := Lib.hid (H12.out.below b)
  have V13 := Lib.hid h
  clear h b
  have h := HoldI.new V13.out
  have b := al_below w13 (.cells #[.bool d13, .slice A13 n13 c13] 34)
  replace HB := Lib.hid (bstep HB.out b)
  replace H2 := Lib.hid (H2.out.below b)
  replace H4 := Lib.hid (H4.out.below b)
  replace H6 := Lib.hid (H6.out.below b)
  replace H7 := Lib.hid (H7.out.below b)
  replace H8 := Lib.hid (H8.out.below b)
  replace H9 := Lib.hid (H9.out.below b)
  replace H10 := Lib.hid (H10.out.below b)
  replace H11 := Lib.hid (H11.out.below b)
  replace H12 := Lib.hid (H12.out.below b)
  have H13 := Lib.hid h
  clear h b V13
  clear H6
  clear H10
  clear H11
  obtain ⟨sa, hsa⟩ : ∃ s, strB (decT za) = s := ⟨_, rfl⟩
  have SA := Lib.hid hsa
  clear hsa
  have HS0 := Lib.hid (show RingS w w2 w4 w7 w8 w9 w12 w13 z1 z3 za zc d2 d4 d7 d8 d9 d12 d13 A2 A4 A7 A8 A9 A12 A13 n2 c2 n4 c4 n7 c7 n8 c8 n9 c9 n12 c12 n13 c13 _ from ⟨H2.out, H4.out, H7.out, H8.out, H9.out, H12.out, H13.out, HB.out⟩)
  clear HB H2 H4 H7 H8 H9 H12 H13
  go_wp2_with fail
  go_region_held3 (fun w' => w'.cell? ⟨w2.heap.size, 0, none⟩ = some (.bool d2) ∧ w'.cell? ⟨w2.heap.size, 1, none⟩ = some (.slice A2 n2 c2) ∧ w'.cell? ⟨w4.heap.size, 0, none⟩ = some (.bool d4) ∧ w'.cell? ⟨w4.heap.size, 1, none⟩ = some (.slice A4 n4 c4) ∧ w'.cell? ⟨w7.heap.size, 0, none⟩ = some (.bool d7) ∧ w'.cell? ⟨w7.heap.size, 1, none⟩ = some (.slice A7 n7 c7) ∧ w'.cell? ⟨w8.heap.size, 0, none⟩ = some (.bool d8) ∧ w'.cell? ⟨w8.heap.size, 1, none⟩ = some (.slice A8 n8 c8) ∧ w'.cell? ⟨w9.heap.size, 0, none⟩ = some (.bool d9) ∧ w'.cell? ⟨w9.heap.size, 1, none⟩ = some (.slice A9 n9 c9) ∧ w'.cell? ⟨w12.heap.size, 0, none⟩ = some (.bool d12) ∧ w'.cell? ⟨w12.heap.size, 1, none⟩ = some (.slice A12 n12 c12) ∧ w'.cell? ⟨w13.heap.size, 0, none⟩ = some (.bool d13) ∧ w'.cell? ⟨w13.heap.size, 1, none⟩ = some (.slice A13 n13 c13) ∧ RingS w w2 w4 w7 w8 w9 w12 w13 z1 z3 za zc d2 d4 d7 d8 d9 d12 d13 A2 A4 A7 A8 A9 A12 A13 n2 c2 n4 c4 n7 c7 n8 c8 n9 c9 n12 c12 n13 c13 w')
    (first | exact RingS.all HS0.out | exact RingS.all (by assumption) | exact RingS.all (RingS.drew (by assumption)) | exact RingS.all (RingS.below _ _ (by assumption) (al_below _ _)) | exact RingS.all (RingS.below _ _ (by assumption) (al_set_below _ _ _ _)))
    (first
      | (go_at_call 37
         with_reducible show Calls Tryd.prog 37 #[.agg #[.bool d7, .slice A7 n7 c7], .agg #[.bool d8, .slice A8 n8 c8]] _ _
         refine (cmp_S (S := RingS w w2 w4 w7 w8 w9 w12 w13 z1 z3 za zc d2 d4 d7 d8 d9 d12 d13 A2 A4 A7 A8 A9 A12 A13 n2 c2 n4 c4 n7 c7 n8 c8 n9 c9 n12 c12 n13 c13) RingS.below (by first | assumption | exact And.right (And.right (And.right (And.right (And.right (And.right (And.right (And.right (And.right (And.right (And.right (And.right (And.right (And.right (by assumption))))))))))))))) (fun h => h.2.2.1.2) (fun h => h.2.2.2.1.2) (L_za.out) (L_za.out) 0 (cmp_self _)).mono ?_
         rintro e wr1 ⟨rfl, hS1⟩)
      | (go_at_call 37
         with_reducible show Calls Tryd.prog 37 #[.agg #[.bool d9, .slice A9 n9 c9], .agg #[.bool d12, .slice A12 n12 c12]] _ _
         refine (cmp_S (S := RingS w w2 w4 w7 w8 w9 w12 w13 z1 z3 za zc d2 d4 d7 d8 d9 d12 d13 A2 A4 A7 A8 A9 A12 A13 n2 c2 n4 c4 n7 c7 n8 c8 n9 c9 n12 c12 n13 c13) RingS.below (by first | assumption | exact And.right (And.right (And.right (And.right (And.right (And.right (And.right (And.right (And.right (And.right (And.right (And.right (And.right (And.right (by assumption))))))))))))))) (fun h => h.2.2.2.2.1.2) (fun h => h.2.2.2.2.2.1.2) (L_zc.out) (L_zc.out) 0 (cmp_self _)).mono ?_
         rintro e wr2 ⟨rfl, hS2⟩)
      | (go_at_call 37
         with_reducible show Calls Tryd.prog 37 #[.agg #[.bool d13, .slice A13 n13 c13], .agg #[.bool d2, .slice A2 n2 c2]] _ _
         refine (cmp_S (S := RingS w w2 w4 w7 w8 w9 w12 w13 z1 z3 za zc d2 d4 d7 d8 d9 d12 d13 A2 A4 A7 A8 A9 A12 A13 n2 c2 n4 c4 n7 c7 n8 c8 n9 c9 n12 c12 n13 c13) RingS.below (by first | assumption | exact And.right (And.right (And.right (And.right (And.right (And.right (And.right (And.right (And.right (And.right (And.right (And.right (And.right (And.right (by assumption))))))))))))))) (fun h => h.2.2.2.2.2.2.1.2) (fun h => h.1.2) (Z1.out.ltl) (Z1.out.ltl) 0 (cmp_self _)).mono ?_
         rintro e wr3 ⟨rfl, hS3⟩)
      | (go_at_call 19
         with_reducible show Calls Tryd.prog 19 #[.agg #[.bool d7, .slice A7 n7 c7]] _ _
         refine (str_S (S := RingS w w2 w4 w7 w8 w9 w12 w13 z1 z3 za zc d2 d4 d7 d8 d9 d12 d13 A2 A4 A7 A8 A9 A12 A13 n2 c2 n4 c4 n7 c7 n8 c8 n9 c9 n12 c12 n13 c13) RingS.below (by first | assumption | exact And.right (And.right (And.right (And.right (And.right (And.right (And.right (And.right (And.right (And.right (And.right (And.right (And.right (And.right (by assumption))))))))))))))) (fun h => h.2.2.1.2) L_za.out sa SA.out).mono ?_
         rintro e wr4 ⟨rfl, hS4⟩)
      | (go_at_call 19
         with_reducible show Calls Tryd.prog 19 #[.agg #[.bool d8, .slice A8 n8 c8]] _ _
         refine (str_S (S := RingS w w2 w4 w7 w8 w9 w12 w13 z1 z3 za zc d2 d4 d7 d8 d9 d12 d13 A2 A4 A7 A8 A9 A12 A13 n2 c2 n4 c4 n7 c7 n8 c8 n9 c9 n12 c12 n13 c13) RingS.below (by first | assumption | exact And.right (And.right (And.right (And.right (And.right (And.right (And.right (And.right (And.right (And.right (And.right (And.right (And.right (And.right (by assumption))))))))))))))) (fun h => h.2.2.2.1.2) L_za.out sa SA.out).mono ?_
         rintro e wr5 ⟨rfl, hS5⟩))
  clear HS0
  have H2 := Lib.hid hS5.1
  have H4 := Lib.hid hS5.2.1
  have H7 := Lib.hid hS5.2.2.1
  have H8 := Lib.hid hS5.2.2.2.1
  have H9 := Lib.hid hS5.2.2.2.2.1
  have H12 := Lib.hid hS5.2.2.2.2.2.1
  have H13 := Lib.hid hS5.2.2.2.2.2.2.1
  have HB := Lib.hid hS5.2.2.2.2.2.2.2
  clear hS1 hS2 hS3 hS4 hS5
  clear H8
  clear H12
  clear H13
  clear H2
  clear H7
  by_cases hy0 : z3 = 0
  · have HY0 := Lib.hid hy0
    clear hy0
    have HYR := Lib.hid (show RepI wr5 wr5.heap.size 0 _ from by have h := H4.out.2; rw [HY0.out] at h; exact h)
    have gH90 := H9.out.c0
    have gH91 := H9.out.c1
    have gH40 := H4.out.c0
    have gH41 := H4.out.c1
    go_wp2_with fail
    refine (idiv_zero zc _ _ _ H9.out.2 HYR.out).mono ?_
    rintro e w14 ⟨u, v, rfl, h, h', b⟩
    obtain ⟨d14, A14, n14, c14, rfl⟩ := h.shape
    obtain ⟨d15, A15, n15, c15, rfl⟩ := h'.shape
    clear gH90 gH91 gH40 gH41
    replace H4 := Lib.hid (H4.out.below b)
    replace H9 := Lib.hid (H9.out.below b)
    replace HB := Lib.hid (bstep HB.out b)
    clear b
    have b1 := al_below w14 (.cells #[.bool d14, .slice A14 n14 c14] 34)
    have b2 := al_below (w14.alloc (.cells #[.bool d14, .slice A14 n14 c14] 34)) (.cells #[.bool d15, .slice A15 n15 c15] 34)
    have b := bstep b1 b2
    have K := (HoldI.new h).below b2
    have J := HoldI.new (h'.step b1)
    rw [World.size_alloc] at J
    replace H4 := Lib.hid (H4.out.below b)
    replace H9 := Lib.hid (H9.out.below b)
    replace HB := Lib.hid (bstep HB.out b)
    have H14 := Lib.hid K
    have H15 := Lib.hid J
    clear h h' b1 b2 b K J
    clear HYR
    have gH40 := H4.out.c0
    have gH41 := H4.out.c1
    go_wp2_with fail
    refine (isign_lim z3 _ _ H4.out.2 Z3.out.ltl 0 (by rw [HY0.out]; rfl)).mono ?_
    rintro e w16 ⟨rfl, b⟩
    clear gH40 gH41
    replace H4 := Lib.hid (H4.out.below b)
    replace H9 := Lib.hid (H9.out.below b)
    replace HB := Lib.hid (bstep HB.out b)
    replace H14 := Lib.hid (H14.out.below b)
    replace H15 := Lib.hid (H15.out.below b)
    clear b
    go_wp2_with fail
    refine (lives_any _).mono ?_
    rintro e w17 ⟨rfl, b⟩
    replace H4 := Lib.hid (H4.out.below b)
    replace H9 := Lib.hid (H9.out.below b)
    replace HB := Lib.hid (bstep HB.out b)
    replace H14 := Lib.hid (H14.out.below b)
    replace H15 := Lib.hid (H15.out.below b)
    clear b
    go_wp2_with fail
    go_ret
    exact ⟨rfl, HB.out⟩
  · have HY0 := Lib.hid hy0
    clear hy0
    have gH90 := H9.out.c0
    have gH91 := H9.out.c1
    have gH40 := H4.out.c0
    have gH41 := H4.out.c1
    go_wp2_with fail
    refine (idiv_any zc z3 _ _ _ H9.out.2 H4.out.2 L_zc.out Z3.out.ltl HY0.out).mono ?_
    rintro e w18 ⟨u, v, rfl, h, h', b⟩
    obtain ⟨d18, A18, n18, c18, rfl⟩ := h.shape
    obtain ⟨d19, A19, n19, c19, rfl⟩ := h'.shape
    clear gH90 gH91 gH40 gH41
    replace H4 := Lib.hid (H4.out.below b)
    replace H9 := Lib.hid (H9.out.below b)
    replace HB := Lib.hid (bstep HB.out b)
    clear b
    have b1 := al_below w18 (.cells #[.bool d18, .slice A18 n18 c18] 34)
    have b2 := al_below (w18.alloc (.cells #[.bool d18, .slice A18 n18 c18] 34)) (.cells #[.bool d19, .slice A19 n19 c19] 34)
    have b := bstep b1 b2
    have K := (HoldI.new h).below b2
    have J := HoldI.new (h'.step b1)
    rw [World.size_alloc] at J
    replace H4 := Lib.hid (H4.out.below b)
    replace H9 := Lib.hid (H9.out.below b)
    replace HB := Lib.hid (bstep HB.out b)
    have H18 := Lib.hid K
    have H19 := Lib.hid J
    clear h h' b1 b2 b K J
    have HC6 := Lib.hid (show Bits 621 zc from by rw [← E_zc.out, ← E_za.out]; exact ring_c Z1.out Z3.out Z5.out)
    have gH180 := H18.out.c0
    have gH181 := H18.out.c1
    have gH40 := H4.out.c0
    have gH41 := H4.out.c1
    go_wp2_with fail
    refine (imul_fit (zc / z3) z3 (zc / z3 * z3) _ _ _ H18.out.2 H4.out.2 (ediv_ltl L_zc.out _) Z3.out.ltl rfl (bits_lt (ring_q HC6.out Z3.out) (by omega))).mono ?_
    rintro e w20 ⟨v, rfl, h, b⟩
    obtain ⟨d20, A20, n20, c20, rfl⟩ := h.shape
    clear gH180 gH181 gH40 gH41
    replace H4 := Lib.hid (H4.out.below b)
    replace H9 := Lib.hid (H9.out.below b)
    replace HB := Lib.hid (bstep HB.out b)
    replace H18 := Lib.hid (H18.out.below b)
    replace H19 := Lib.hid (H19.out.below b)
    have V20 := Lib.hid h
    clear h b
    have h := HoldI.new V20.out
    have b := al_below w20 (.cells #[.bool d20, .slice A20 n20 c20] 34)
    replace H4 := Lib.hid (H4.out.below b)
    replace H9 := Lib.hid (H9.out.below b)
    replace HB := Lib.hid (bstep HB.out b)
    replace H18 := Lib.hid (H18.out.below b)
    replace H19 := Lib.hid (H19.out.below b)
    have H20 := Lib.hid h
    clear h b V20
    have gH200 := H20.out.c0
    have gH201 := H20.out.c1
    have gH190 := H19.out.c0
    have gH191 := H19.out.c1
    go_wp2_with fail
    refine (iadd_fit (zc / z3 * z3) (zc % z3) zc _ _ _ H20.out.2 H19.out.2 (bits_lt (ring_q HC6.out Z3.out) (by omega)) (emod_ltl Z3.out.ltl HY0.out) (ring_u _ _) L_zc.out).mono ?_
    rintro e w21 ⟨v, rfl, h, b⟩
    obtain ⟨d21, A21, n21, c21, rfl⟩ := h.shape
    clear gH200 gH201 gH190 gH191
    replace H4 := Lib.hid (H4.out.below b)
    replace H9 := Lib.hid (H9.out.below b)
    replace HB := Lib.hid (bstep HB.out b)
    replace H18 := Lib.hid (H18.out.below b)
    replace H19 := Lib.hid (H19.out.below b)
    replace H20 := Lib.hid (H20.out.below b)
    have V21 := Lib.hid h
    clear h b
    have h := HoldI.new V21.out
    have b := al_below w21 (.cells #[.bool d21, .slice A21 n21 c21] 34)
    replace H4 := Lib.hid (H4.out.below b)
    replace H9 := Lib.hid (H9.out.below b)
    replace HB := Lib.hid (bstep HB.out b)
    replace H18 := Lib.hid (H18.out.below b)
    replace H19 := Lib.hid (H19.out.below b)
    replace H20 := Lib.hid (H20.out.below b)
    have H21 := Lib.hid h
    clear h b V21
    have T0B := Lib.hid (show w.heap.size ≤ w21.heap.size + 1 from by have h := HB.out.size; simp only [World.size_alloc] at h; omega)
    have LTC := H9.out.lt
    have LTR := H19.out.lt
    have LTU := H21.out.lt
    
    have LTS := Lib.hid (And.intro LTC (And.intro LTR LTU))
    clear LTC LTR LTU
    have h := HoldI.new H4.out.2
    have b := al_below (w21.alloc (.cells #[.bool d21, .slice A21 n21 c21] 34)) (.cells #[.bool d4, .slice A4 n4 c4] 34)
    have gH40 := H4.out.c0
    have gH41 := H4.out.c1
    replace H4 := Lib.hid (H4.out.below b)
    replace H9 := Lib.hid (H9.out.below b)
    replace HB := Lib.hid (bstep HB.out b)
    replace H18 := Lib.hid (H18.out.below b)
    replace H19 := Lib.hid (H19.out.below b)
    replace H20 := Lib.hid (H20.out.below b)
    replace H21 := Lib.hid (H21.out.below b)
    rw [World.size_alloc] at h
    have HZ := Lib.hid h
    clear h b
    have gY2 := H4.out.c0
    have gY3 := H4.out.c1
    clear H18
    clear H20
    obtain ⟨rr, hrr⟩ : ∃ q, cmpI' (zc % z3) 0 = q := ⟨_, rfl⟩
    have hr0 : (0 : Int) ≤ rr := by rw [← hrr]; have h := Int.emod_nonneg zc HY0.out; unfold cmpI'; split; omega; split <;> omega
    have RR := Lib.hid hrr
    have HR0 := Lib.hid hr0
    clear hrr hr0
    by_cases hn0 : z3 < 0
    · have HN := Lib.hid hn0
      clear hn0
      go_wp2_with fail
      refine (isign_lim z3 _ _ H4.out.2 Z3.out.ltl (-1) (cmpI'_lt HN.out)).mono ?_
      rintro e w22 ⟨rfl, b⟩
      replace H4 := Lib.hid (H4.out.below b)
      replace H9 := Lib.hid (H9.out.below b)
      replace HB := Lib.hid (bstep HB.out b)
      replace H19 := Lib.hid (H19.out.below b)
      replace H21 := Lib.hid (H21.out.below b)
      replace HZ := Lib.hid (HZ.out.below b)
      clear b
      have gH40 := H4.out.c0
      have gH41 := H4.out.c1
      go_wp2_with fail
      refine (ineg_lim z3 _ _ H4.out.2 Z3.out.ltl).mono ?_
      rintro e w23 ⟨v, rfl, h, b⟩
      obtain ⟨d23, A23, n23, c23, rfl⟩ := h.shape
      clear gH40 gH41
      replace H4 := Lib.hid (H4.out.below b)
      replace H9 := Lib.hid (H9.out.below b)
      replace HB := Lib.hid (bstep HB.out b)
      replace H19 := Lib.hid (H19.out.below b)
      replace H21 := Lib.hid (H21.out.below b)
      replace HZ := Lib.hid (HZ.out.below b)
      have V23 := Lib.hid h
      clear h b
      have hk := HZ.out.1
      have f0 := hk.f0
      have f1 := hk.f1
      have c0 := hk.c0
      have c1 := hk.c1
      have LQ := LTS.out
      simp only [World.size_alloc] at LQ
      obtain ⟨q1, q2, q3⟩ := LQ
      have q0 := T0B.out
      replace H9 := Lib.hid (HoldI.off (u := .bool d23) (u' := .slice A23 n23 c23) H9.out hk (by omega))
      replace H19 := Lib.hid (HoldI.off (u := .bool d23) (u' := .slice A23 n23 c23) H19.out hk (by omega))
      replace H21 := Lib.hid (HoldI.off (u := .bool d23) (u' := .slice A23 n23 c23) H21.out hk (by omega))
      replace HB := Lib.hid (below_off (u := .bool d23) (u' := .slice A23 n23 c23) HB.out (g := w21.heap.size + 1) (by omega))
      replace HZ := Lib.hid (HoldI.made V23.out hk)
      clear hk q0 q1 q2 q3 V23
      clear H4
      have gH210 := H21.out.c0
      have gH211 := H21.out.c1
      have gH90 := H9.out.c0
      have gH91 := H9.out.c1
      go_wp2_with fail
      refine (icompare_lim zc zc _ _ _ H21.out.2 H9.out.2 L_zc.out L_zc.out 0 (cmp_self _)).mono ?_
      rintro e w24 ⟨rfl, b⟩
      clear gH210 gH211 gH90 gH91
      replace H9 := Lib.hid (H9.out.below b)
      replace HB := Lib.hid (bstep HB.out b)
      replace H19 := Lib.hid (H19.out.below b)
      replace H21 := Lib.hid (H21.out.below b)
      replace HZ := Lib.hid (HZ.out.below b)
      clear b
      have gH190 := H19.out.c0
      have gH191 := H19.out.c1
      go_wp2_with fail
      refine (isign_lim (zc % z3) _ _ H19.out.2 (emod_ltl Z3.out.ltl HY0.out) rr RR.out).mono ?_
      rintro e w25 ⟨rfl, b⟩
      clear gH190 gH191
      replace H9 := Lib.hid (H9.out.below b)
      replace HB := Lib.hid (bstep HB.out b)
      replace H19 := Lib.hid (H19.out.below b)
      replace H21 := Lib.hid (H21.out.below b)
      replace HZ := Lib.hid (HZ.out.below b)
      clear b
      have hr0 := HR0.out
      have gH190 := H19.out.c0
      have gH191 := H19.out.c1
      have gHZ0 := HZ.out.c0
      have gHZ1 := HZ.out.c1
      go_wp2_with fail
      refine (icompare_lim (zc % z3) (-z3) _ _ _ H19.out.2 HZ.out.2 (emod_ltl Z3.out.ltl HY0.out) (by have := Z3.out.ltl; omega) (-1) (cmpI'_lt (by have h := Int.emod_lt zc HY0.out; have h2 := HN.out; omega))).mono ?_
      rintro e w26 ⟨rfl, b⟩
      clear gH190 gH191 gHZ0 gHZ1
      replace H9 := Lib.hid (H9.out.below b)
      replace HB := Lib.hid (bstep HB.out b)
      replace H19 := Lib.hid (H19.out.below b)
      replace H21 := Lib.hid (H21.out.below b)
      replace HZ := Lib.hid (HZ.out.below b)
      clear b
      go_wp2_with fail
      refine (lives_any _).mono ?_
      rintro e w27 ⟨rfl, b⟩
      replace H9 := Lib.hid (H9.out.below b)
      replace HB := Lib.hid (bstep HB.out b)
      replace H19 := Lib.hid (H19.out.below b)
      replace H21 := Lib.hid (H21.out.below b)
      replace HZ := Lib.hid (HZ.out.below b)
      clear b
      go_wp2_with fail
      go_ret
      exact ⟨rfl, HB.out⟩
    · have HN := Lib.hid hn0
      clear hn0
      go_wp2_with fail
      refine (isign_lim z3 _ _ H4.out.2 Z3.out.ltl 1 (cmpI'_gt (by have h1 := HN.out; have h2 := HY0.out; omega))).mono ?_
      rintro e w28 ⟨rfl, b⟩
      replace H4 := Lib.hid (H4.out.below b)
      replace H9 := Lib.hid (H9.out.below b)
      replace HB := Lib.hid (bstep HB.out b)
      replace H19 := Lib.hid (H19.out.below b)
      replace H21 := Lib.hid (H21.out.below b)
      replace HZ := Lib.hid (HZ.out.below b)
      clear b
      have gH210 := H21.out.c0
      have gH211 := H21.out.c1
      have gH90 := H9.out.c0
      have gH91 := H9.out.c1
      go_wp2_with fail
      refine (icompare_lim zc zc _ _ _ H21.out.2 H9.out.2 L_zc.out L_zc.out 0 (cmp_self _)).mono ?_
      rintro e w29 ⟨rfl, b⟩
      clear gH210 gH211 gH90 gH91
      replace H4 := Lib.hid (H4.out.below b)
      replace H9 := Lib.hid (H9.out.below b)
      replace HB := Lib.hid (bstep HB.out b)
      replace H19 := Lib.hid (H19.out.below b)
      replace H21 := Lib.hid (H21.out.below b)
      replace HZ := Lib.hid (HZ.out.below b)
      clear b
      have gH190 := H19.out.c0
      have gH191 := H19.out.c1
      go_wp2_with fail
      refine (isign_lim (zc % z3) _ _ H19.out.2 (emod_ltl Z3.out.ltl HY0.out) rr RR.out).mono ?_
      rintro e w30 ⟨rfl, b⟩
      clear gH190 gH191
      replace H4 := Lib.hid (H4.out.below b)
      replace H9 := Lib.hid (H9.out.below b)
      replace HB := Lib.hid (bstep HB.out b)
      replace H19 := Lib.hid (H19.out.below b)
      replace H21 := Lib.hid (H21.out.below b)
      replace HZ := Lib.hid (HZ.out.below b)
      clear b
      have hr0 := HR0.out
      have gH190 := H19.out.c0
      have gH191 := H19.out.c1
      have gHZ0 := HZ.out.c0
      have gHZ1 := HZ.out.c1
      go_wp2_with fail
      refine (icompare_lim (zc % z3) (z3) _ _ _ H19.out.2 HZ.out.2 (emod_ltl Z3.out.ltl HY0.out) (by have := Z3.out.ltl; omega) (-1) (cmpI'_lt (by have h := Int.emod_lt zc HY0.out; have h2 := HN.out; omega))).mono ?_
      rintro e w31 ⟨rfl, b⟩
      clear gH190 gH191 gHZ0 gHZ1
      replace H4 := Lib.hid (H4.out.below b)
      replace H9 := Lib.hid (H9.out.below b)
      replace HB := Lib.hid (bstep HB.out b)
      replace H19 := Lib.hid (H19.out.below b)
      replace H21 := Lib.hid (H21.out.below b)
      replace HZ := Lib.hid (HZ.out.below b)
      clear b
      go_wp2_with fail
      refine (lives_any _).mono ?_
      rintro e w32 ⟨rfl, b⟩
      replace H4 := Lib.hid (H4.out.below b)
      replace H9 := Lib.hid (H9.out.below b)
      replace HB := Lib.hid (bstep HB.out b)
      replace H19 := Lib.hid (H19.out.below b)
      replace H21 := Lib.hid (H21.out.below b)
      replace HZ := Lib.hid (HZ.out.below b)
      clear b
      go_wp2_with fail
      go_ret
      exact ⟨rfl, HB.out⟩
end Go.Proofs.YtpilpceclmppgaaDoor
