/- Layer 3's laws: WideSums. -/
import Derived.Test.YtpilpceclmppgaaDoorLaws
namespace Go.Proofs.YtpilpceclmppgaaDoor
open Go.RowKit
set_option linter.unusedVariables false

def SumsS (w w1 w2 w3 w4 w5 w6 : World) (z1 z2 : Int) (d1 d2 d3 d4 d5 d6 : Bool) (A1 A2 A3 A4 A5 A6 : Option Addr) (n1 c1 n2 c2 n3 c3 n4 c4 n5 c5 n6 c6 : Nat) (W : World) : Prop := (HoldN W w1.heap.size z1 d1 A1 n1 c1) ∧ (HoldN W w2.heap.size z2 d2 A2 n2 c2) ∧ (HoldI W w3.heap.size z1 d3 A3 n3 c3) ∧ (HoldI W w4.heap.size z2 d4 A4 n4 c4) ∧ (HoldI W w5.heap.size (z1 + z2) d5 A5 n5 c5) ∧ (HoldI W w6.heap.size (z1 - z2) d6 A6 n6 c6) ∧ Below w.heap.size w W
theorem SumsS.drew {w w1 w2 w3 w4 w5 w6 : World} {z1 z2 : Int} {d1 d2 d3 d4 d5 d6 : Bool} {A1 A2 A3 A4 A5 A6 : Option Addr} {n1 c1 n2 c2 n3 c3 n4 c4 n5 c5 n6 c6 : Nat} {W : World} (h : SumsS w w1 w2 w3 w4 w5 w6 z1 z2 d1 d2 d3 d4 d5 d6 A1 A2 A3 A4 A5 A6 n1 c1 n2 c2 n3 c3 n4 c4 n5 c5 n6 c6 W) : SumsS w w1 w2 w3 w4 w5 w6 z1 z2 d1 d2 d3 d4 d5 d6 A1 A2 A3 A4 A5 A6 n1 c1 n2 c2 n3 c3 n4 c4 n5 c5 n6 c6 W.drew := ⟨h.1, h.2.1, h.2.2.1, h.2.2.2.1, h.2.2.2.2.1, h.2.2.2.2.2.1, below_drew h.2.2.2.2.2.2⟩
theorem SumsS.below {w w1 w2 w3 w4 w5 w6 : World} {z1 z2 : Int} {d1 d2 d3 d4 d5 d6 : Bool} {A1 A2 A3 A4 A5 A6 : Option Addr} {n1 c1 n2 c2 n3 c3 n4 c4 n5 c5 n6 c6 : Nat} : Stab (SumsS w w1 w2 w3 w4 w5 w6 z1 z2 d1 d2 d3 d4 d5 d6 A1 A2 A3 A4 A5 A6 n1 c1 n2 c2 n3 c3 n4 c4 n5 c5 n6 c6) := fun W W' h hb => ⟨h.1.below hb, h.2.1.below hb, h.2.2.1.below hb, h.2.2.2.1.below hb, h.2.2.2.2.1.below hb, h.2.2.2.2.2.1.below hb, bstep h.2.2.2.2.2.2 hb⟩
theorem SumsS.all {w w1 w2 w3 w4 w5 w6 : World} {z1 z2 : Int} {d1 d2 d3 d4 d5 d6 : Bool} {A1 A2 A3 A4 A5 A6 : Option Addr} {n1 c1 n2 c2 n3 c3 n4 c4 n5 c5 n6 c6 : Nat} {W : World} (h : SumsS w w1 w2 w3 w4 w5 w6 z1 z2 d1 d2 d3 d4 d5 d6 A1 A2 A3 A4 A5 A6 n1 c1 n2 c2 n3 c3 n4 c4 n5 c5 n6 c6 W) : W.cell? ⟨w1.heap.size, 0, none⟩ = some (.bool d1) ∧ W.cell? ⟨w1.heap.size, 1, none⟩ = some (.slice A1 n1 c1) ∧ W.cell? ⟨w2.heap.size, 0, none⟩ = some (.bool d2) ∧ W.cell? ⟨w2.heap.size, 1, none⟩ = some (.slice A2 n2 c2) ∧ W.cell? ⟨w3.heap.size, 0, none⟩ = some (.bool d3) ∧ W.cell? ⟨w3.heap.size, 1, none⟩ = some (.slice A3 n3 c3) ∧ W.cell? ⟨w4.heap.size, 0, none⟩ = some (.bool d4) ∧ W.cell? ⟨w4.heap.size, 1, none⟩ = some (.slice A4 n4 c4) ∧ W.cell? ⟨w5.heap.size, 0, none⟩ = some (.bool d5) ∧ W.cell? ⟨w5.heap.size, 1, none⟩ = some (.slice A5 n5 c5) ∧ W.cell? ⟨w6.heap.size, 0, none⟩ = some (.bool d6) ∧ W.cell? ⟨w6.heap.size, 1, none⟩ = some (.slice A6 n6 c6) ∧ SumsS w w1 w2 w3 w4 w5 w6 z1 z2 d1 d2 d3 d4 d5 d6 A1 A2 A3 A4 A5 A6 n1 c1 n2 c2 n3 c3 n4 c4 n5 c5 n6 c6 W := ⟨h.1.c0, h.1.c1, h.2.1.c0, h.2.1.c1, h.2.2.1.c0, h.2.2.1.c1, h.2.2.2.1.c0, h.2.2.2.1.c1, h.2.2.2.2.1.c0, h.2.2.2.2.1.c1, h.2.2.2.2.2.1.c0, h.2.2.2.2.2.1.c1, h⟩
theorem SumsS.off {w w1 w2 w3 w4 w5 w6 : World} {z1 z2 : Int} {d1 d2 d3 d4 d5 d6 : Bool} {A1 A2 A3 A4 A5 A6 : Option Addr} {n1 c1 n2 c2 n3 c3 n4 c4 n5 c5 n6 c6 : Nat} {W : World} (h : SumsS w w1 w2 w3 w4 w5 w6 z1 z2 d1 d2 d3 d4 d5 d6 A1 A2 A3 A4 A5 A6 n1 c1 n2 c2 n3 c3 n4 c4 n5 c5 n6 c6 W) {g : Nat} {tt : TypeId} {b9 : Bool} {A9 : Option Addr} {n9 k9 : Nat} {u u' : Value} (hk : Blk2 W g tt (.bool b9) (.slice A9 n9 k9)) {G : Nat} (e0 : w1.heap.size < G) (e1 : w2.heap.size < G) (e2 : w3.heap.size < G) (e3 : w4.heap.size < G) (e4 : w5.heap.size < G) (e5 : w6.heap.size < G) (e : w.heap.size ≤ G) (hg : G ≤ g) : SumsS w w1 w2 w3 w4 w5 w6 z1 z2 d1 d2 d3 d4 d5 d6 A1 A2 A3 A4 A5 A6 n1 c1 n2 c2 n3 c3 n4 c4 n5 c5 n6 c6 ((W.setCell ⟨g, 0, none⟩ u).setCell ⟨g, 1, none⟩ u') := ⟨h.1.off hk (by omega), h.2.1.off hk (by omega), h.2.2.1.off hk (by omega), h.2.2.2.1.off hk (by omega), h.2.2.2.2.1.off hk (by omega), h.2.2.2.2.2.1.off hk (by omega), below_off h.2.2.2.2.2.2 (by omega)⟩
set_option maxRecDepth 100000 in
set_option maxHeartbeats 8000000 in
theorem wideSums_law (A0 : Option Addr) (n0 c0 : Nat) (zs : List Int) (w : World) (hI : InI w A0 n0 zs) (hn : n0 ≤ 9223372036854775807) :
    Calls Tryd.prog 5 #[.slice A0 n0 c0] w fun e w' => e = .returned (.bool true) ∧ Below w.heap.size w w' := by
  have HB := Lib.hid (Below.refl w.heap.size w)
  have HI := Lib.hid hI
  clear hI
  go_enter Tryd.func5, Tryd.ntmps5
  go_wp2_with fail
  refine (number_any A0 n0 c0 0 zs _ HI.out hn (by omega) (by omega)).mono ?_
  rintro e w1 ⟨z1, hz, v, rfl, h, b⟩
  obtain ⟨d1, A1, n1, c1, rfl⟩ := h.shape
  replace HB := Lib.hid (bstep HB.out b)
  replace HI := Lib.hid (HI.out.below b)
  have Z1 := Lib.hid (show Num z1 from hz)
  have V1 := Lib.hid h
  clear h b hz
  have h := HoldN.new V1.out
  have b := al_below w1 (.cells #[.bool d1, .slice A1 n1 c1] 25)
  replace HB := Lib.hid (bstep HB.out b)
  replace HI := Lib.hid (HI.out.below b)
  have H1 := Lib.hid h
  clear h b V1
  go_wp2_with fail
  refine (number_any A0 n0 c0 6 zs _ HI.out hn (by omega) (by omega)).mono ?_
  rintro e w2 ⟨z2, hz, v, rfl, h, b⟩
  obtain ⟨d2, A2, n2, c2, rfl⟩ := h.shape
  replace HB := Lib.hid (bstep HB.out b)
  replace HI := Lib.hid (HI.out.below b)
  replace H1 := Lib.hid (H1.out.below b)
  have Z2 := Lib.hid (show Num z2 from hz)
  have V2 := Lib.hid h
  clear h b hz
  have h := HoldN.new V2.out
  have b := al_below w2 (.cells #[.bool d2, .slice A2 n2 c2] 25)
  replace HB := Lib.hid (bstep HB.out b)
  replace HI := Lib.hid (HI.out.below b)
  replace H1 := Lib.hid (H1.out.below b)
  have H2 := Lib.hid h
  clear h b V2
  have gH10 := H1.out.c0
  have gH11 := H1.out.c1
  go_wp2_with fail
  refine (wider_any z1 _ _ H1.out.2 Z1.out.ltl).mono ?_
  rintro e w3 ⟨v, rfl, h, b⟩
  obtain ⟨d3, A3, n3, c3, rfl⟩ := h.shape
  clear gH10 gH11
  replace HB := Lib.hid (bstep HB.out b)
  replace HI := Lib.hid (HI.out.below b)
  replace H1 := Lib.hid (H1.out.below b)
  replace H2 := Lib.hid (H2.out.below b)
  have V3 := Lib.hid h
  clear h b
  have h := HoldI.new V3.out
  have b := al_below w3 (.cells #[.bool d3, .slice A3 n3 c3] 34)
  replace HB := Lib.hid (bstep HB.out b)
  replace HI := Lib.hid (HI.out.below b)
  replace H1 := Lib.hid (H1.out.below b)
  replace H2 := Lib.hid (H2.out.below b)
  have H3 := Lib.hid h
  clear h b V3
  have gH20 := H2.out.c0
  have gH21 := H2.out.c1
  go_wp2_with fail
  refine (wider_any z2 _ _ H2.out.2 Z2.out.ltl).mono ?_
  rintro e w4 ⟨v, rfl, h, b⟩
  obtain ⟨d4, A4, n4, c4, rfl⟩ := h.shape
  clear gH20 gH21
  replace HB := Lib.hid (bstep HB.out b)
  replace HI := Lib.hid (HI.out.below b)
  replace H1 := Lib.hid (H1.out.below b)
  replace H2 := Lib.hid (H2.out.below b)
  replace H3 := Lib.hid (H3.out.below b)
  have V4 := Lib.hid h
  clear h b
  have h := HoldI.new V4.out
  have b := al_below w4 (.cells #[.bool d4, .slice A4 n4 c4] 34)
  replace HB := Lib.hid (bstep HB.out b)
  replace HI := Lib.hid (HI.out.below b)
  replace H1 := Lib.hid (H1.out.below b)
  replace H2 := Lib.hid (H2.out.below b)
  replace H3 := Lib.hid (H3.out.below b)
  have H4 := Lib.hid h
  clear h b V4
  have gH30 := H3.out.c0
  have gH31 := H3.out.c1
  have gH40 := H4.out.c0
  have gH41 := H4.out.c1
  go_wp2_with fail
  refine (iadd_fit z1 z2 _ _ _ _ H3.out.2 H4.out.2 Z1.out.ltl Z2.out.ltl rfl (Z1.out.add_ltl Z2.out)).mono ?_
  rintro e w5 ⟨v, rfl, h, b⟩
  obtain ⟨d5, A5, n5, c5, rfl⟩ := h.shape
  clear gH30 gH31 gH40 gH41
  replace HB := Lib.hid (bstep HB.out b)
  replace HI := Lib.hid (HI.out.below b)
  replace H1 := Lib.hid (H1.out.below b)
  replace H2 := Lib.hid (H2.out.below b)
  replace H3 := Lib.hid (H3.out.below b)
  replace H4 := Lib.hid (H4.out.below b)
  have V5 := Lib.hid h
  clear h b
  have h := HoldI.new V5.out
  have b := al_below w5 (.cells #[.bool d5, .slice A5 n5 c5] 34)
  replace HB := Lib.hid (bstep HB.out b)
  replace HI := Lib.hid (HI.out.below b)
  replace H1 := Lib.hid (H1.out.below b)
  replace H2 := Lib.hid (H2.out.below b)
  replace H3 := Lib.hid (H3.out.below b)
  replace H4 := Lib.hid (H4.out.below b)
  have H5 := Lib.hid h
  clear h b V5
  have gH30 := H3.out.c0
  have gH31 := H3.out.c1
  have gH40 := H4.out.c0
  have gH41 := H4.out.c1
  go_wp2_with fail
  refine (isub_fit z1 z2 _ _ _ _ H3.out.2 H4.out.2 Z1.out.ltl Z2.out.ltl rfl (Z1.out.sub_ltl Z2.out)).mono ?_
  rintro e w6 ⟨v, rfl, h, b⟩
  obtain ⟨d6, A6, n6, c6, rfl⟩ := h.shape
  clear gH30 gH31 gH40 gH41
  replace HB := Lib.hid (bstep HB.out b)
  replace HI := Lib.hid (HI.out.below b)
  replace H1 := Lib.hid (H1.out.below b)
  replace H2 := Lib.hid (H2.out.below b)
  replace H3 := Lib.hid (H3.out.below b)
  replace H4 := Lib.hid (H4.out.below b)
  replace H5 := Lib.hid (H5.out.below b)
  have V6 := Lib.hid h
  clear h b
  have h := HoldI.new V6.out
  have b := al_below w6 (.cells #[.bool d6, .slice A6 n6 c6] 34)
  replace HB := Lib.hid (bstep HB.out b)
  replace HI := Lib.hid (HI.out.below b)
  replace H1 := Lib.hid (H1.out.below b)
  replace H2 := Lib.hid (H2.out.below b)
  replace H3 := Lib.hid (H3.out.below b)
  replace H4 := Lib.hid (H4.out.below b)
  replace H5 := Lib.hid (H5.out.below b)
  have H6 := Lib.hid h
  clear h b V6
  have HS0 := Lib.hid (show SumsS w w1 w2 w3 w4 w5 w6 z1 z2 d1 d2 d3 d4 d5 d6 A1 A2 A3 A4 A5 A6 n1 c1 n2 c2 n3 c3 n4 c4 n5 c5 n6 c6 _ from ⟨H1.out, H2.out, H3.out, H4.out, H5.out, H6.out, HB.out⟩)
  clear HB HI H1 H2 H3 H4 H5 H6
  go_wp2_with fail
  go_region_held3 (fun w' => w'.cell? ⟨w1.heap.size, 0, none⟩ = some (.bool d1) ∧ w'.cell? ⟨w1.heap.size, 1, none⟩ = some (.slice A1 n1 c1) ∧ w'.cell? ⟨w2.heap.size, 0, none⟩ = some (.bool d2) ∧ w'.cell? ⟨w2.heap.size, 1, none⟩ = some (.slice A2 n2 c2) ∧ w'.cell? ⟨w3.heap.size, 0, none⟩ = some (.bool d3) ∧ w'.cell? ⟨w3.heap.size, 1, none⟩ = some (.slice A3 n3 c3) ∧ w'.cell? ⟨w4.heap.size, 0, none⟩ = some (.bool d4) ∧ w'.cell? ⟨w4.heap.size, 1, none⟩ = some (.slice A4 n4 c4) ∧ w'.cell? ⟨w5.heap.size, 0, none⟩ = some (.bool d5) ∧ w'.cell? ⟨w5.heap.size, 1, none⟩ = some (.slice A5 n5 c5) ∧ w'.cell? ⟨w6.heap.size, 0, none⟩ = some (.bool d6) ∧ w'.cell? ⟨w6.heap.size, 1, none⟩ = some (.slice A6 n6 c6) ∧ SumsS w w1 w2 w3 w4 w5 w6 z1 z2 d1 d2 d3 d4 d5 d6 A1 A2 A3 A4 A5 A6 n1 c1 n2 c2 n3 c3 n4 c4 n5 c5 n6 c6 w')
    (first | exact SumsS.all HS0.out | exact SumsS.all (by assumption) | exact SumsS.all (SumsS.drew (by assumption)) | exact SumsS.all (SumsS.below _ _ (by assumption) (al_below _ _)) | exact SumsS.all (SumsS.below _ _ (by assumption) (al_set_below _ _ _ _)))
    (first
      | (go_at_call 29
         refine (add_S (S := SumsS w w1 w2 w3 w4 w5 w6 z1 z2 d1 d2 d3 d4 d5 d6 A1 A2 A3 A4 A5 A6 n1 c1 n2 c2 n3 c3 n4 c4 n5 c5 n6 c6) SumsS.below (by first | assumption | exact And.right (And.right (And.right (And.right (And.right (And.right (And.right (And.right (And.right (And.right (And.right (And.right (by assumption))))))))))))) (fun h => h.1.2) (fun h => h.2.1.2) (Z1.out.bits _ (by omega)) (Z2.out.bits _ (by omega))).mono ?_
         rintro e wr1 ⟨v, rfl, hv, b, hS1⟩)
      | (go_at_call 30
         refine (sub_S (S := SumsS w w1 w2 w3 w4 w5 w6 z1 z2 d1 d2 d3 d4 d5 d6 A1 A2 A3 A4 A5 A6 n1 c1 n2 c2 n3 c3 n4 c4 n5 c5 n6 c6) SumsS.below (by first | assumption | exact And.right (And.right (And.right (And.right (And.right (And.right (And.right (And.right (And.right (And.right (And.right (And.right (by assumption))))))))))))) (fun h => h.1.2) (fun h => h.2.1.2) (Z1.out.bits _ (by omega)) (Z2.out.bits _ (by omega))).mono ?_
         rintro e wr2 ⟨v, rfl, hv, b, hS2⟩)
      | (go_at_call 18
         with_reducible show Calls Tryd.prog 18 #[.agg #[.bool d5, .slice A5 n5 c5], _] _ _
         refine (eq_S (S := SumsS w w1 w2 w3 w4 w5 w6 z1 z2 d1 d2 d3 d4 d5 d6 A1 A2 A3 A4 A5 A6 n1 c1 n2 c2 n3 c3 n4 c4 n5 c5 n6 c6) SumsS.below (by first | assumption | exact And.right (And.right (And.right (And.right (And.right (And.right (And.right (And.right (And.right (And.right (And.right (And.right (by assumption))))))))))))) (fun h => h.2.2.2.2.1.2) (fun _ => by first | assumption | exact RepN.step (by assumption) (al_below _ _)) rfl (Z1.out.add_ltl Z2.out)).mono ?_
         rintro e wr3 ⟨rfl, hS3⟩)
      | (go_at_call 18
         with_reducible show Calls Tryd.prog 18 #[.agg #[.bool d6, .slice A6 n6 c6], _] _ _
         refine (eq_S (S := SumsS w w1 w2 w3 w4 w5 w6 z1 z2 d1 d2 d3 d4 d5 d6 A1 A2 A3 A4 A5 A6 n1 c1 n2 c2 n3 c3 n4 c4 n5 c5 n6 c6) SumsS.below (by first | assumption | exact And.right (And.right (And.right (And.right (And.right (And.right (And.right (And.right (And.right (And.right (And.right (And.right (by assumption))))))))))))) (fun h => h.2.2.2.2.2.1.2) (fun _ => by first | assumption | exact RepN.step (by assumption) (al_below _ _)) rfl (Z1.out.sub_ltl Z2.out)).mono ?_
         rintro e wr4 ⟨rfl, hS4⟩)
      | (go_at_call 18
         with_reducible show Calls Tryd.prog 18 #[.agg #[.bool d3, .slice A3 n3 c3], .agg #[.bool d1, .slice A1 n1 c1]] _ _
         refine (eq_S (S := SumsS w w1 w2 w3 w4 w5 w6 z1 z2 d1 d2 d3 d4 d5 d6 A1 A2 A3 A4 A5 A6 n1 c1 n2 c2 n3 c3 n4 c4 n5 c5 n6 c6) SumsS.below (by first | assumption | exact And.right (And.right (And.right (And.right (And.right (And.right (And.right (And.right (And.right (And.right (And.right (And.right (by assumption))))))))))))) (fun h => h.2.2.1.2) (fun h => h.1.2) rfl (Z1.out.ltl)).mono ?_
         rintro e wr5 ⟨rfl, hS5⟩)
      | (go_at_call 18
         with_reducible show Calls Tryd.prog 18 #[.agg #[.bool d4, .slice A4 n4 c4], .agg #[.bool d2, .slice A2 n2 c2]] _ _
         refine (eq_S (S := SumsS w w1 w2 w3 w4 w5 w6 z1 z2 d1 d2 d3 d4 d5 d6 A1 A2 A3 A4 A5 A6 n1 c1 n2 c2 n3 c3 n4 c4 n5 c5 n6 c6) SumsS.below (by first | assumption | exact And.right (And.right (And.right (And.right (And.right (And.right (And.right (And.right (And.right (And.right (And.right (And.right (by assumption))))))))))))) (fun h => h.2.2.2.1.2) (fun h => h.2.1.2) rfl (Z2.out.ltl)).mono ?_
         rintro e wr6 ⟨rfl, hS6⟩)
      | (go_at_call 20
         refine (lives_S (S := SumsS w w1 w2 w3 w4 w5 w6 z1 z2 d1 d2 d3 d4 d5 d6 A1 A2 A3 A4 A5 A6 n1 c1 n2 c2 n3 c3 n4 c4 n5 c5 n6 c6) SumsS.below (by first | assumption | exact And.right (And.right (And.right (And.right (And.right (And.right (And.right (And.right (And.right (And.right (And.right (And.right (by assumption))))))))))))) ).mono ?_
         rintro e wr7 ⟨rfl, hS7⟩))
  have HF := Lib.hid hS7.2.2.2.2.2.2
  go_wp2_with fail
  go_ret
  exact ⟨rfl, HF.out⟩
end Go.Proofs.YtpilpceclmppgaaDoor
