/- Layer 3's laws: WideOrder. -/
import Derived.Test.YtpilpceclmppgaaDoorLaw3J
namespace Go.Proofs.YtpilpceclmppgaaDoor
open Go.RowKit
set_option linter.unusedVariables false

def OrdS (w w1 : World) (z1 : Int) (d1 : Bool) (A1 : Option Addr) (n1 c1 : Nat) (A0 : Option Addr) (n0 : Nat) (zs : List Int) (W : World) : Prop := (HoldN W w1.heap.size z1 d1 A1 n1 c1) ∧ (InI W A0 n0 zs) ∧ Below w.heap.size w W
theorem OrdS.drew {w w1 : World} {z1 : Int} {d1 : Bool} {A1 : Option Addr} {n1 c1 : Nat} {A0 : Option Addr} {n0 : Nat} {zs : List Int} {W : World} (h : OrdS w w1 z1 d1 A1 n1 c1 A0 n0 zs W) : OrdS w w1 z1 d1 A1 n1 c1 A0 n0 zs W.drew := ⟨h.1, h.2.1, below_drew h.2.2⟩
theorem OrdS.below {w w1 : World} {z1 : Int} {d1 : Bool} {A1 : Option Addr} {n1 c1 : Nat} {A0 : Option Addr} {n0 : Nat} {zs : List Int} : Stab (OrdS w w1 z1 d1 A1 n1 c1 A0 n0 zs) := fun W W' h hb => ⟨h.1.below hb, h.2.1.below hb, bstep h.2.2 hb⟩
theorem OrdS.all {w w1 : World} {z1 : Int} {d1 : Bool} {A1 : Option Addr} {n1 c1 : Nat} {A0 : Option Addr} {n0 : Nat} {zs : List Int} {W : World} (h : OrdS w w1 z1 d1 A1 n1 c1 A0 n0 zs W) : W.cell? ⟨w1.heap.size, 0, none⟩ = some (.bool d1) ∧ W.cell? ⟨w1.heap.size, 1, none⟩ = some (.slice A1 n1 c1) ∧ OrdS w w1 z1 d1 A1 n1 c1 A0 n0 zs W := ⟨h.1.c0, h.1.c1, h⟩
theorem OrdS.off {w w1 : World} {z1 : Int} {d1 : Bool} {A1 : Option Addr} {n1 c1 : Nat} {A0 : Option Addr} {n0 : Nat} {zs : List Int} {W : World} (h : OrdS w w1 z1 d1 A1 n1 c1 A0 n0 zs W) {g : Nat} {tt : TypeId} {bQ : Bool} {AQ : Option Addr} {nQ kQ : Nat} {u u' : Value} (hk : Blk2 W g tt (.bool bQ) (.slice AQ nQ kQ)) {G : Nat} (e0 : w1.heap.size < G) (e : w.heap.size ≤ G) (hg : G ≤ g) : OrdS w w1 z1 d1 A1 n1 c1 A0 n0 zs ((W.setCell ⟨g, 0, none⟩ u).setCell ⟨g, 1, none⟩ u') := ⟨h.1.off hk (by omega), h.2.1.off hk, below_off h.2.2 (by omega)⟩
def OrdT (w w1 w2 w4 wr5 : World) (z1 z : Int) (i : Nat) (d1 d2 d4 d3 : Bool) (A1 A2 A4 A3 : Option Addr) (n1 c1 n2 c2 n4 c4 n3 c3 : Nat) (L : List Int) (W : World) : Prop := (HoldN W w1.heap.size z1 d1 A1 n1 c1) ∧ (HoldI W w2.heap.size z1 d2 A2 n2 c2) ∧ (HoldI W w4.heap.size z d4 A4 n4 c4) ∧ (HoldE W wr5.heap.size i z d3 A3 n3 c3) ∧ (ArrN W wr5.heap.size L) ∧ Below w.heap.size w W
theorem OrdT.drew {w w1 w2 w4 wr5 : World} {z1 z : Int} {i : Nat} {d1 d2 d4 d3 : Bool} {A1 A2 A4 A3 : Option Addr} {n1 c1 n2 c2 n4 c4 n3 c3 : Nat} {L : List Int} {W : World} (h : OrdT w w1 w2 w4 wr5 z1 z i d1 d2 d4 d3 A1 A2 A4 A3 n1 c1 n2 c2 n4 c4 n3 c3 L W) : OrdT w w1 w2 w4 wr5 z1 z i d1 d2 d4 d3 A1 A2 A4 A3 n1 c1 n2 c2 n4 c4 n3 c3 L W.drew := ⟨h.1, h.2.1, h.2.2.1, h.2.2.2.1, h.2.2.2.2.1, below_drew h.2.2.2.2.2⟩
theorem OrdT.below {w w1 w2 w4 wr5 : World} {z1 z : Int} {i : Nat} {d1 d2 d4 d3 : Bool} {A1 A2 A4 A3 : Option Addr} {n1 c1 n2 c2 n4 c4 n3 c3 : Nat} {L : List Int} : Stab (OrdT w w1 w2 w4 wr5 z1 z i d1 d2 d4 d3 A1 A2 A4 A3 n1 c1 n2 c2 n4 c4 n3 c3 L) := fun W W' h hb => ⟨h.1.below hb, h.2.1.below hb, h.2.2.1.below hb, h.2.2.2.1.below hb, h.2.2.2.2.1.below hb, bstep h.2.2.2.2.2 hb⟩
theorem OrdT.all {w w1 w2 w4 wr5 : World} {z1 z : Int} {i : Nat} {d1 d2 d4 d3 : Bool} {A1 A2 A4 A3 : Option Addr} {n1 c1 n2 c2 n4 c4 n3 c3 : Nat} {L : List Int} {W : World} (h : OrdT w w1 w2 w4 wr5 z1 z i d1 d2 d4 d3 A1 A2 A4 A3 n1 c1 n2 c2 n4 c4 n3 c3 L W) : W.cell? ⟨w1.heap.size, 0, none⟩ = some (.bool d1) ∧ W.cell? ⟨w1.heap.size, 1, none⟩ = some (.slice A1 n1 c1) ∧ W.cell? ⟨w2.heap.size, 0, none⟩ = some (.bool d2) ∧ W.cell? ⟨w2.heap.size, 1, none⟩ = some (.slice A2 n2 c2) ∧ W.cell? ⟨w4.heap.size, 0, none⟩ = some (.bool d4) ∧ W.cell? ⟨w4.heap.size, 1, none⟩ = some (.slice A4 n4 c4) ∧ W.cell? ⟨wr5.heap.size, i * 2, none⟩ = some (.bool d3) ∧ W.cell? ⟨wr5.heap.size, i * 2 + 1, none⟩ = some (.slice A3 n3 c3) ∧ OrdT w w1 w2 w4 wr5 z1 z i d1 d2 d4 d3 A1 A2 A4 A3 n1 c1 n2 c2 n4 c4 n3 c3 L W := ⟨h.1.c0, h.1.c1, h.2.1.c0, h.2.1.c1, h.2.2.1.c0, h.2.2.1.c1, h.2.2.2.1.c0, h.2.2.2.1.c1, h⟩
def OrdU (w w1 w2 : World) (z1 : Int) (d1 d2 : Bool) (A1 A2 : Option Addr) (n1 c1 n2 c2 : Nat) (W : World) : Prop := (HoldN W w1.heap.size z1 d1 A1 n1 c1) ∧ (HoldI W w2.heap.size z1 d2 A2 n2 c2) ∧ Below w.heap.size w W
theorem OrdU.drew {w w1 w2 : World} {z1 : Int} {d1 d2 : Bool} {A1 A2 : Option Addr} {n1 c1 n2 c2 : Nat} {W : World} (h : OrdU w w1 w2 z1 d1 d2 A1 A2 n1 c1 n2 c2 W) : OrdU w w1 w2 z1 d1 d2 A1 A2 n1 c1 n2 c2 W.drew := ⟨h.1, h.2.1, below_drew h.2.2⟩
theorem OrdU.below {w w1 w2 : World} {z1 : Int} {d1 d2 : Bool} {A1 A2 : Option Addr} {n1 c1 n2 c2 : Nat} : Stab (OrdU w w1 w2 z1 d1 d2 A1 A2 n1 c1 n2 c2) := fun W W' h hb => ⟨h.1.below hb, h.2.1.below hb, bstep h.2.2 hb⟩
theorem OrdU.all {w w1 w2 : World} {z1 : Int} {d1 d2 : Bool} {A1 A2 : Option Addr} {n1 c1 n2 c2 : Nat} {W : World} (h : OrdU w w1 w2 z1 d1 d2 A1 A2 n1 c1 n2 c2 W) : W.cell? ⟨w1.heap.size, 0, none⟩ = some (.bool d1) ∧ W.cell? ⟨w1.heap.size, 1, none⟩ = some (.slice A1 n1 c1) ∧ W.cell? ⟨w2.heap.size, 0, none⟩ = some (.bool d2) ∧ W.cell? ⟨w2.heap.size, 1, none⟩ = some (.slice A2 n2 c2) ∧ OrdU w w1 w2 z1 d1 d2 A1 A2 n1 c1 n2 c2 W := ⟨h.1.c0, h.1.c1, h.2.1.c0, h.2.1.c1, h⟩
theorem OrdU.off {w w1 w2 : World} {z1 : Int} {d1 d2 : Bool} {A1 A2 : Option Addr} {n1 c1 n2 c2 : Nat} {W : World} (h : OrdU w w1 w2 z1 d1 d2 A1 A2 n1 c1 n2 c2 W) {g : Nat} {tt : TypeId} {bQ : Bool} {AQ : Option Addr} {nQ kQ : Nat} {u u' : Value} (hk : Blk2 W g tt (.bool bQ) (.slice AQ nQ kQ)) {G : Nat} (e0 : w1.heap.size < G) (e1 : w2.heap.size < G) (e : w.heap.size ≤ G) (hg : G ≤ g) : OrdU w w1 w2 z1 d1 d2 A1 A2 n1 c1 n2 c2 ((W.setCell ⟨g, 0, none⟩ u).setCell ⟨g, 1, none⟩ u') := ⟨h.1.off hk (by omega), h.2.1.off hk (by omega), below_off h.2.2 (by omega)⟩
set_option maxRecDepth 100000 in
set_option maxHeartbeats 8000000 in
theorem wideOrder_law (A0 : Option Addr) (n0 c0 : Nat) (zs : List Int) (w : World) (hI : InI w A0 n0 zs) (hn : n0 ≤ 9223372036854775807) (n : Int) (hi : -9223372036854775808 ≤ n ∧ n ≤ 9223372036854775807) :
    Calls Tryd.prog 8 #[.slice A0 n0 c0, .int .i64 n] w fun e w' => e = .returned (.bool true) ∧ Below w.heap.size w w' := by
  obtain ⟨i0, i1⟩ := hi
  have HB := Lib.hid (Below.refl w.heap.size w)
  have HI := Lib.hid hI
  clear hI
  go_enter Tryd.func8, Tryd.ntmps8
  go_wp2_with fail
  refine (number_any A0 n0 c0 0 zs _ HI.out hn (by omega) (by omega)).mono ?_
  rintro e w1 ⟨z1, hz, v, rfl, h, b⟩
  obtain ⟨d1, A1, n1, c1, rfl⟩ := h.shape
  replace HB := Lib.hid (bstep HB.out b)
  replace HI := Lib.hid (HI.out.below b)
  have Z1 := Lib.hid (show Num z1 from hz)
  have V1 := Lib.hid h
  clear h b hz
  have h := HoldN.new V1.out
  have b := al_below w1 (.cells #[.bool d1, .slice A1 n1 c1] 25)
  replace HB := Lib.hid (bstep HB.out b)
  replace HI := Lib.hid (HI.out.below b)
  have H1 := Lib.hid h
  clear h b V1
  have hbb := aroundI_bd n (2 * 1 + 1) (by omega)
  obtain ⟨rb, hrb⟩ : ∃ r, aroundI n (2 * 1 + 1) - 1 = r := ⟨_, rfl⟩
  have HRB := Lib.hid (fun w' => bound_any n 1 w' i0 i1 (by omega) (by omega))
  rw [hrb] at HRB
  have hrb0 : -1 ≤ rb ∧ rb ≤ 1 := by omega
  have HBD := Lib.hid hrb0
  clear hbb hrb hrb0
  have HS0 := Lib.hid (show OrdS w w1 z1 d1 A1 n1 c1 A0 n0 zs _ from ⟨H1.out, HI.out, HB.out⟩)
  clear HB HI H1
  go_wp2_with fail
  go_region_held3 (fun w' => w'.cell? ⟨w1.heap.size, 0, none⟩ = some (.bool d1) ∧ w'.cell? ⟨w1.heap.size, 1, none⟩ = some (.slice A1 n1 c1) ∧ OrdS w w1 z1 d1 A1 n1 c1 A0 n0 zs w')
    (first | exact OrdS.all HS0.out | exact OrdS.all (by assumption) | exact OrdS.all (OrdS.drew (by assumption)) | exact OrdS.all (OrdS.below _ _ (by assumption) (al_below _ _)) | exact OrdS.all (OrdS.below _ _ (by assumption) (al_set_below _ _ _ _)))
    (first
      | (go_at_call 13
         refine (number_S (S := OrdS w w1 z1 d1 A1 n1 c1 A0 n0 zs) OrdS.below (by first | assumption | exact And.right (And.right (by assumption))) (fun h => h.2.1) hn (by omega) (by omega)).mono ?_
         rintro e wr1 ⟨z101, hz1, v, rfl, hv1, b1, hS1⟩
         obtain ⟨d101, A101, n101, c101, rfl⟩ := hv1.shape)
      | (go_at_call 35
         refine (HRB.out _).mono ?_
         rintro e w' ⟨rfl, rfl⟩)
      | (go_at_call 23
         refine (of_S (S := OrdS w w1 z1 d1 A1 n1 c1 A0 n0 zs) OrdS.below (by first | assumption | exact And.right (And.right (by assumption))) rb (by have h := HBD.out; omega) (by have h := HBD.out; omega)).mono ?_
         rintro e wr3 ⟨v, rfl, hv3, b3, hS3⟩
         have hv13 := hv1.step b3)
      | (go_at_call 29
         refine (add_S (S := OrdS w w1 z1 d1 A1 n1 c1 A0 n0 zs) OrdS.below (by first | assumption | exact And.right (And.right (by assumption))) (fun h => h.1.2) (fun _ => by first | assumption | exact RepN.step (by assumption) (al_below _ _)) (Z1.out.bits _ (by omega)) (Bits.mono (Bits.i64 (by have h := HBD.out; omega) (by have h := HBD.out; omega)) (by omega))).mono ?_
         rintro e wr4 ⟨v, rfl, hv4, b4, hS4⟩
         obtain ⟨d102, A102, n102, c102, rfl⟩ := hv4.shape
         have hv14 := hv13.step b4)
      | (go_at_call 36
         refine (neg_S (S := OrdS w w1 z1 d1 A1 n1 c1 A0 n0 zs) OrdS.below (by first | assumption | exact And.right (And.right (by assumption))) (fun h => h.1.2)).mono ?_
         rintro e wr5 ⟨v, rfl, hv5, b5, hS5⟩
         obtain ⟨d103, A103, n103, c103, rfl⟩ := hv5.shape
         have hv15 := hv14.step b5
         have hv45 := hv4.step b5))
  clear HS0
  have hal := al_below wr5 (.cells #[.bool d101, .slice A101 n101 c101, .bool d102, .slice A102 n102 c102, .bool d103, .slice A103 n103 c103] 25)
  have HR := Lib.hid (ArrN.new3 25 hv15 hv45 hv5)
  have H1 := Lib.hid (hS5.1.below hal)
  have HB := Lib.hid (bstep hS5.2.2 hal)
  have HL := Lib.hid (show ∀ i < 3, InL ([z101, z1 + rb, -z1][i]?.getD 0) from fun i hi => all_three (P := InL) (show InL z101 from hz1.out.ltl) (show InL (z1 + rb) from bits_lt (Bits.add (Z1.out.bits 400 (by omega)) (Bits.mono (Bits.i64 (by have h := HBD.out; omega) (by have h := HBD.out; omega)) (by omega))) (by omega)) (show InL (-z1) from bits_lt (Bits.neg (Z1.out.bits 400 (by omega))) (by omega)) i hi)
  obtain ⟨L, hL⟩ : ∃ L, L = [z101, z1 + rb, -z1] := ⟨_, rfl⟩
  have hLL : L.length = 3 := by rw [hL]; rfl
  rw [← hL] at HR HL
  have HLL := Lib.hid hLL
  clear hL hLL hal hz1 hv1 hv13 hv14 hv15 hv3 hv4 hv45 hv5 b1 b3 b4 b5 hS1 hS3 hS4 hS5 HRB HBD
  have gH10 := H1.out.c0
  have gH11 := H1.out.c1
  go_wp2_with fail
  refine (wider_any z1 _ _ H1.out.2 Z1.out.ltl).mono ?_
  rintro e w2 ⟨v, rfl, h, b⟩
  obtain ⟨d2, A2, n2, c2, rfl⟩ := h.shape
  clear gH10 gH11
  replace HR := Lib.hid (HR.out.below b)
  replace H1 := Lib.hid (H1.out.below b)
  replace HB := Lib.hid (bstep HB.out b)
  have V2 := Lib.hid h
  clear h b
  have h := HoldI.new V2.out
  have b := al_below w2 (.cells #[.bool d2, .slice A2 n2 c2] 34)
  replace HR := Lib.hid (HR.out.below b)
  replace H1 := Lib.hid (H1.out.below b)
  replace HB := Lib.hid (bstep HB.out b)
  have H2 := Lib.hid h
  clear h b V2
  go_wp2_with fail
  go_loopw [9] (fun iv wr => ∃ i : Nat, i ≤ 3 ∧ iv = .int .i64 i ∧ Hid (ArrN wr wr5.heap.size L) ∧ Hid (HoldN wr w1.heap.size z1 d1 A1 n1 c1) ∧ Hid (HoldI wr w2.heap.size z1 d2 A2 n2 c2) ∧ Hid (Below w.heap.size w wr)) (fun iv _ => 3 - (intOf iv).toNat)
  case atStart => exact ⟨0, by omega, rfl, HR, H1, H2, HB⟩
  case round =>
    clear HB HR H1 H2
    obtain ⟨i, hi2, rfl, HR, H1, H2, HB⟩ := hrel
    by_cases hlt : (i : Int) < 3
    · obtain ⟨d3, A3, n3, c3, h⟩ := HR.out.get i (by rw [HLL.out]; omega)
      have hip : (0 : Int) ≤ (i : Int) := Int.natCast_nonneg _
      have ZL := HL.out i (by omega)
      obtain ⟨z, hz⟩ : ∃ z, L[i]?.getD 0 = z := ⟨_, rfl⟩
      rw [hz] at h ZL
      have Z := Lib.hid ZL
      have H3 := Lib.hid h
      clear hz ZL h
      have gH30 := H3.out.c0
      have gH31 := H3.out.c1
      go_wp2_with fail
      refine (wider_any z _ _ H3.out.2.2.2 Z.out).mono ?_
      rintro e w4 ⟨v, rfl, h, b⟩
      obtain ⟨d4, A4, n4, c4, rfl⟩ := h.shape
      clear gH30 gH31
      replace HR := Lib.hid (HR.out.below b)
      replace HB := Lib.hid (bstep HB.out b)
      replace H1 := Lib.hid (H1.out.below b)
      replace H2 := Lib.hid (H2.out.below b)
      replace H3 := Lib.hid (H3.out.below b)
      have V4 := Lib.hid h
      clear h b
      have h := HoldI.new V4.out
      have b := al_below w4 (.cells #[.bool d4, .slice A4 n4 c4] 34)
      replace HR := Lib.hid (HR.out.below b)
      replace HB := Lib.hid (bstep HB.out b)
      replace H1 := Lib.hid (H1.out.below b)
      replace H2 := Lib.hid (H2.out.below b)
      replace H3 := Lib.hid (H3.out.below b)
      have H4 := Lib.hid h
      clear h b V4
      obtain ⟨r1, hr1⟩ : ∃ r, cmpI' z1 z = r := ⟨_, rfl⟩
      obtain ⟨r2, hr2⟩ : ∃ r, cmpI' z z1 = r := ⟨_, rfl⟩
      have R1 := Lib.hid hr1
      have R2 := Lib.hid hr2
      clear hr1 hr2
      have HS0 := Lib.hid (show OrdT w w1 w2 w4 wr5 z1 z i d1 d2 d4 d3 A1 A2 A4 A3 n1 c1 n2 c2 n4 c4 n3 c3 L _ from ⟨H1.out, H2.out, H4.out, H3.out, HR.out, HB.out⟩)
      clear HB HR H1 H2 H4 H3
      go_wp2_with fail
      go_region_held3 (fun w' => w'.cell? ⟨w1.heap.size, 0, none⟩ = some (.bool d1) ∧ w'.cell? ⟨w1.heap.size, 1, none⟩ = some (.slice A1 n1 c1) ∧ w'.cell? ⟨w2.heap.size, 0, none⟩ = some (.bool d2) ∧ w'.cell? ⟨w2.heap.size, 1, none⟩ = some (.slice A2 n2 c2) ∧ w'.cell? ⟨w4.heap.size, 0, none⟩ = some (.bool d4) ∧ w'.cell? ⟨w4.heap.size, 1, none⟩ = some (.slice A4 n4 c4) ∧ w'.cell? ⟨wr5.heap.size, i * 2, none⟩ = some (.bool d3) ∧ w'.cell? ⟨wr5.heap.size, i * 2 + 1, none⟩ = some (.slice A3 n3 c3) ∧ OrdT w w1 w2 w4 wr5 z1 z i d1 d2 d4 d3 A1 A2 A4 A3 n1 c1 n2 c2 n4 c4 n3 c3 L w')
        (first | exact OrdT.all HS0.out | exact OrdT.all (by assumption) | exact OrdT.all (OrdT.drew (by assumption)) | exact OrdT.all (OrdT.below _ _ (by assumption) (al_below _ _)) | exact OrdT.all (OrdT.below _ _ (by assumption) (al_set_below _ _ _ _)))
        (first
          | (go_at_call 37
             with_reducible show Calls Tryd.prog 37 #[.agg #[.bool d2, .slice A2 n2 c2], .agg #[.bool d4, .slice A4 n4 c4]] _ _
             refine (cmp_S (S := OrdT w w1 w2 w4 wr5 z1 z i d1 d2 d4 d3 A1 A2 A4 A3 n1 c1 n2 c2 n4 c4 n3 c3 L) OrdT.below (by first | assumption | exact And.right (And.right (And.right (And.right (And.right (And.right (And.right (And.right (by assumption))))))))) (fun h => h.2.1.2) (fun h => h.2.2.1.2) Z1.out.ltl Z.out _ R1.out).mono ?_
             rintro e wr201 ⟨rfl, hS201⟩)
          | (go_at_call 38
             with_reducible show Calls Tryd.prog 38 #[.agg #[.bool d1, .slice A1 n1 c1], .agg #[.bool d3, .slice A3 n3 c3]] _ _
             refine (rcmp_S (S := OrdT w w1 w2 w4 wr5 z1 z i d1 d2 d4 d3 A1 A2 A4 A3 n1 c1 n2 c2 n4 c4 n3 c3 L) OrdT.below (by first | assumption | exact And.right (And.right (And.right (And.right (And.right (And.right (And.right (And.right (by assumption))))))))) (fun h => h.1.2) (fun h => h.2.2.2.1.2.2.2) (Z1.out.bits _ (by omega)) (Bits.mono (fit_bits Z.out) (by omega)) _ R1.out).mono ?_
             rintro e wr202 ⟨rfl, hS202⟩)
          | (go_at_call 37
             with_reducible show Calls Tryd.prog 37 #[.agg #[.bool d4, .slice A4 n4 c4], .agg #[.bool d2, .slice A2 n2 c2]] _ _
             refine (cmp_S (S := OrdT w w1 w2 w4 wr5 z1 z i d1 d2 d4 d3 A1 A2 A4 A3 n1 c1 n2 c2 n4 c4 n3 c3 L) OrdT.below (by first | assumption | exact And.right (And.right (And.right (And.right (And.right (And.right (And.right (And.right (by assumption))))))))) (fun h => h.2.2.1.2) (fun h => h.2.1.2) Z.out Z1.out.ltl _ R2.out).mono ?_
             rintro e wr203 ⟨rfl, hS203⟩)
          | (go_at_call 38
             with_reducible show Calls Tryd.prog 38 #[.agg #[.bool d3, .slice A3 n3 c3], .agg #[.bool d1, .slice A1 n1 c1]] _ _
             refine (rcmp_S (S := OrdT w w1 w2 w4 wr5 z1 z i d1 d2 d4 d3 A1 A2 A4 A3 n1 c1 n2 c2 n4 c4 n3 c3 L) OrdT.below (by first | assumption | exact And.right (And.right (And.right (And.right (And.right (And.right (And.right (And.right (by assumption))))))))) (fun h => h.2.2.2.1.2.2.2) (fun h => h.1.2) (Bits.mono (fit_bits Z.out) (by omega)) (Z1.out.bits _ (by omega)) _ R2.out).mono ?_
             rintro e wr204 ⟨rfl, hS204⟩))
      clear HS0
      have HR := Lib.hid hS204.2.2.2.2.1
      have H1 := Lib.hid hS204.1
      have H2 := Lib.hid hS204.2.1
      have HB := Lib.hid hS204.2.2.2.2.2
      clear hS201 hS202 hS203 hS204
      clear Z R1 R2 HL
      have ew : IntKind.i64.wrap ((i : Int) + 1) = (i : Int) + 1 := IntWalk.i64_in _ (by omega)
      go_wp2_with fail
      first
        | (go_roundw
           case rel => exact ⟨i + 1, by omega, by go_num, HR, H1, H2, HB⟩
           case measure => simp [intOf]; omega)
        | exact ⟨⟨i + 1, by omega, by go_num, HR, H1, H2, HB⟩, by simp [intOf]; omega⟩
    · clear HR HL HLL
      obtain ⟨r1, hr1⟩ : ∃ r, cmpI' z1 0 = r := ⟨_, rfl⟩
      have R1 := Lib.hid hr1
      clear hr1
      have HS0 := Lib.hid (show OrdU w w1 w2 z1 d1 d2 A1 A2 n1 c1 n2 c2 _ from ⟨H1.out, H2.out, HB.out⟩)
      clear HB H1 H2
      go_wp2_with fail
      go_region_held3 (fun w' => w'.cell? ⟨w1.heap.size, 0, none⟩ = some (.bool d1) ∧ w'.cell? ⟨w1.heap.size, 1, none⟩ = some (.slice A1 n1 c1) ∧ w'.cell? ⟨w2.heap.size, 0, none⟩ = some (.bool d2) ∧ w'.cell? ⟨w2.heap.size, 1, none⟩ = some (.slice A2 n2 c2) ∧ OrdU w w1 w2 z1 d1 d2 A1 A2 n1 c1 n2 c2 w')
        (first | exact OrdU.all HS0.out | exact OrdU.all (by assumption) | exact OrdU.all (OrdU.drew (by assumption)) | exact OrdU.all (OrdU.below _ _ (by assumption) (al_below _ _)) | exact OrdU.all (OrdU.below _ _ (by assumption) (al_set_below _ _ _ _)))
        (first
          | (go_at_call 39
             refine (sign_S (S := OrdU w w1 w2 z1 d1 d2 A1 A2 n1 c1 n2 c2) OrdU.below (by first | assumption | exact And.right (And.right (And.right (And.right (by assumption))))) (fun h => h.2.1.2) Z1.out.ltl _ R1.out).mono ?_
             rintro e wr301 ⟨rfl, hS301⟩)
          | (go_at_call 38
             refine (rcmp_S (S := OrdU w w1 w2 z1 d1 d2 A1 A2 n1 c1 n2 c2) OrdU.below (by first | assumption | exact And.right (And.right (And.right (And.right (by assumption))))) (fun h => h.1.2) (fun _ => RepN.nil _ _) (Z1.out.bits _ (by omega)) (Bits.zero _) _ R1.out).mono ?_
             rintro e wr302 ⟨rfl, hS302⟩)
          | (go_at_call 40
             refine (ineg_S (S := OrdU w w1 w2 z1 d1 d2 A1 A2 n1 c1 n2 c2) OrdU.below (by first | assumption | exact And.right (And.right (And.right (And.right (by assumption))))) (fun h => h.2.1.2) Z1.out.ltl).mono ?_
             rintro e wr303 ⟨v, rfl, hv303, b303, hS303⟩)
          | (go_at_call 36
             refine (neg_S (S := OrdU w w1 w2 z1 d1 d2 A1 A2 n1 c1 n2 c2) OrdU.below (by first | assumption | exact And.right (And.right (And.right (And.right (by assumption))))) (fun h => h.1.2)).mono ?_
             rintro e wr304 ⟨v, rfl, hv304, b304, hS304⟩
             have hv303304 := hv303.step b304)
          | (go_at_call 18
             refine (eq_S (S := OrdU w w1 w2 z1 d1 d2 A1 A2 n1 c1 n2 c2) OrdU.below (by first | assumption | exact And.right (And.right (And.right (And.right (by assumption))))) (fun _ => by first | assumption | exact RepN.step (by assumption) (al_below _ _)) (fun _ => by first | assumption | exact RepN.step (by assumption) (al_below _ _)) rfl (bits_lt (Bits.neg (Z1.out.bits 400 (by omega))) (by omega))).mono ?_
             rintro e wr305 ⟨rfl, hS305⟩)
          | (go_at_call 20
             refine (lives_S (S := OrdU w w1 w2 z1 d1 d2 A1 A2 n1 c1 n2 c2) OrdU.below (by first | assumption | exact And.right (And.right (And.right (And.right (by assumption))))) ).mono ?_
             rintro e wr306 ⟨rfl, hS306⟩))
      have HF := Lib.hid hS306.2.2
      go_wp2_with fail
      go_ret
      exact ⟨rfl, HF.out⟩
end Go.Proofs.YtpilpceclmppgaaDoor
