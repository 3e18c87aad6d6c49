/- Layer 3's laws: WideDivisors. -/
import Derived.Deep.DeepCutAuto
import Derived.Test.YtpilpceclmppgaaDoorLaws
namespace Go.Proofs.YtpilpceclmppgaaDoor
open Go.RowKit
set_option linter.unusedVariables false

def DivrS (w w1 : World) (z1 : Int) (d1 : Bool) (A1 : Option Addr) (n1 c1 : Nat) (A0 : Option Addr) (n0 : Nat) (zs : List Int) (W : World) : Prop := (HoldN W w1.heap.size z1 d1 A1 n1 c1) ∧ (InI W A0 n0 zs) ∧ Below w.heap.size w W
theorem DivrS.drew {w w1 : World} {z1 : Int} {d1 : Bool} {A1 : Option Addr} {n1 c1 : Nat} {A0 : Option Addr} {n0 : Nat} {zs : List Int} {W : World} (h : DivrS w w1 z1 d1 A1 n1 c1 A0 n0 zs W) : DivrS w w1 z1 d1 A1 n1 c1 A0 n0 zs W.drew := ⟨h.1, h.2.1, below_drew h.2.2⟩
theorem DivrS.below {w w1 : World} {z1 : Int} {d1 : Bool} {A1 : Option Addr} {n1 c1 : Nat} {A0 : Option Addr} {n0 : Nat} {zs : List Int} : Stab (DivrS w w1 z1 d1 A1 n1 c1 A0 n0 zs) := fun W W' h hb => ⟨h.1.below hb, h.2.1.below hb, bstep h.2.2 hb⟩
theorem DivrS.all {w w1 : World} {z1 : Int} {d1 : Bool} {A1 : Option Addr} {n1 c1 : Nat} {A0 : Option Addr} {n0 : Nat} {zs : List Int} {W : World} (h : DivrS w w1 z1 d1 A1 n1 c1 A0 n0 zs W) : W.cell? ⟨w1.heap.size, 0, none⟩ = some (.bool d1) ∧ W.cell? ⟨w1.heap.size, 1, none⟩ = some (.slice A1 n1 c1) ∧ DivrS w w1 z1 d1 A1 n1 c1 A0 n0 zs W := ⟨h.1.c0, h.1.c1, h⟩
theorem DivrS.off {w w1 : World} {z1 : Int} {d1 : Bool} {A1 : Option Addr} {n1 c1 : Nat} {A0 : Option Addr} {n0 : Nat} {zs : List Int} {W : World} (h : DivrS w w1 z1 d1 A1 n1 c1 A0 n0 zs W) {g : Nat} {tt : TypeId} {bQ : Bool} {AQ : Option Addr} {nQ kQ : Nat} {u u' : Value} (hk : Blk2 W g tt (.bool bQ) (.slice AQ nQ kQ)) {G : Nat} (e0 : w1.heap.size < G) (e : w.heap.size ≤ G) (hg : G ≤ g) : DivrS w w1 z1 d1 A1 n1 c1 A0 n0 zs ((W.setCell ⟨g, 0, none⟩ u).setCell ⟨g, 1, none⟩ u') := ⟨h.1.off hk (by omega), h.2.1.off hk, below_off h.2.2 (by omega)⟩
def DivrT (w w1 : World) (z1 z4 : Int) (g4 : Nat) (d1 d4 : Bool) (A1 A4 : Option Addr) (n1 c1 n4 c4 : Nat) (A0 : Option Addr) (n0 : Nat) (zs : List Int) (W : World) : Prop := (HoldN W w1.heap.size z1 d1 A1 n1 c1) ∧ (HoldN W g4 z4 d4 A4 n4 c4) ∧ (InI W A0 n0 zs) ∧ Below w.heap.size w W
theorem DivrT.drew {w w1 : World} {z1 z4 : Int} {g4 : Nat} {d1 d4 : Bool} {A1 A4 : Option Addr} {n1 c1 n4 c4 : Nat} {A0 : Option Addr} {n0 : Nat} {zs : List Int} {W : World} (h : DivrT w w1 z1 z4 g4 d1 d4 A1 A4 n1 c1 n4 c4 A0 n0 zs W) : DivrT w w1 z1 z4 g4 d1 d4 A1 A4 n1 c1 n4 c4 A0 n0 zs W.drew := ⟨h.1, h.2.1, h.2.2.1, below_drew h.2.2.2⟩
theorem DivrT.below {w w1 : World} {z1 z4 : Int} {g4 : Nat} {d1 d4 : Bool} {A1 A4 : Option Addr} {n1 c1 n4 c4 : Nat} {A0 : Option Addr} {n0 : Nat} {zs : List Int} : Stab (DivrT w w1 z1 z4 g4 d1 d4 A1 A4 n1 c1 n4 c4 A0 n0 zs) := fun W W' h hb => ⟨h.1.below hb, h.2.1.below hb, h.2.2.1.below hb, bstep h.2.2.2 hb⟩
theorem DivrT.all {w w1 : World} {z1 z4 : Int} {g4 : Nat} {d1 d4 : Bool} {A1 A4 : Option Addr} {n1 c1 n4 c4 : Nat} {A0 : Option Addr} {n0 : Nat} {zs : List Int} {W : World} (h : DivrT w w1 z1 z4 g4 d1 d4 A1 A4 n1 c1 n4 c4 A0 n0 zs W) : W.cell? ⟨w1.heap.size, 0, none⟩ = some (.bool d1) ∧ W.cell? ⟨w1.heap.size, 1, none⟩ = some (.slice A1 n1 c1) ∧ W.cell? ⟨g4, 0, none⟩ = some (.bool d4) ∧ W.cell? ⟨g4, 1, none⟩ = some (.slice A4 n4 c4) ∧ DivrT w w1 z1 z4 g4 d1 d4 A1 A4 n1 c1 n4 c4 A0 n0 zs W := ⟨h.1.c0, h.1.c1, h.2.1.c0, h.2.1.c1, h⟩
theorem DivrT.off {w w1 : World} {z1 z4 : Int} {g4 : Nat} {d1 d4 : Bool} {A1 A4 : Option Addr} {n1 c1 n4 c4 : Nat} {A0 : Option Addr} {n0 : Nat} {zs : List Int} {W : World} (h : DivrT w w1 z1 z4 g4 d1 d4 A1 A4 n1 c1 n4 c4 A0 n0 zs W) {g : Nat} {tt : TypeId} {bQ : Bool} {AQ : Option Addr} {nQ kQ : Nat} {u u' : Value} (hk : Blk2 W g tt (.bool bQ) (.slice AQ nQ kQ)) {G : Nat} (e0 : w1.heap.size < G) (e1 : g4 < G) (e : w.heap.size ≤ G) (hg : G ≤ g) : DivrT w w1 z1 z4 g4 d1 d4 A1 A4 n1 c1 n4 c4 A0 n0 zs ((W.setCell ⟨g, 0, none⟩ u).setCell ⟨g, 1, none⟩ u') := ⟨h.1.off hk (by omega), h.2.1.off hk (by omega), h.2.2.1.off hk, below_off h.2.2.2 (by omega)⟩
def DivrU (w w8 w9 w10 : World) (z4 z7 zg : Int) (g4 g7 : Nat) (d4 d7 d8 d9 d10 : Bool) (A4 A7 A8 A9 A10 : Option Addr) (n4 c4 n7 c7 n8 c8 n9 c9 n10 c10 : Nat) (W : World) : Prop := (HoldN W g4 z4 d4 A4 n4 c4) ∧ (HoldN W g7 z7 d7 A7 n7 c7) ∧ (HoldI W w8.heap.size z4 d8 A8 n8 c8) ∧ (HoldI W w9.heap.size z7 d9 A9 n9 c9) ∧ (HoldI W w10.heap.size zg d10 A10 n10 c10) ∧ Below w.heap.size w W
theorem DivrU.drew {w w8 w9 w10 : World} {z4 z7 zg : Int} {g4 g7 : Nat} {d4 d7 d8 d9 d10 : Bool} {A4 A7 A8 A9 A10 : Option Addr} {n4 c4 n7 c7 n8 c8 n9 c9 n10 c10 : Nat} {W : World} (h : DivrU w w8 w9 w10 z4 z7 zg g4 g7 d4 d7 d8 d9 d10 A4 A7 A8 A9 A10 n4 c4 n7 c7 n8 c8 n9 c9 n10 c10 W) : DivrU w w8 w9 w10 z4 z7 zg g4 g7 d4 d7 d8 d9 d10 A4 A7 A8 A9 A10 n4 c4 n7 c7 n8 c8 n9 c9 n10 c10 W.drew := ⟨h.1, h.2.1, h.2.2.1, h.2.2.2.1, h.2.2.2.2.1, below_drew h.2.2.2.2.2⟩
theorem DivrU.below {w w8 w9 w10 : World} {z4 z7 zg : Int} {g4 g7 : Nat} {d4 d7 d8 d9 d10 : Bool} {A4 A7 A8 A9 A10 : Option Addr} {n4 c4 n7 c7 n8 c8 n9 c9 n10 c10 : Nat} : Stab (DivrU w w8 w9 w10 z4 z7 zg g4 g7 d4 d7 d8 d9 d10 A4 A7 A8 A9 A10 n4 c4 n7 c7 n8 c8 n9 c9 n10 c10) := fun W W' h hb => ⟨h.1.below hb, h.2.1.below hb, h.2.2.1.below hb, h.2.2.2.1.below hb, h.2.2.2.2.1.below hb, bstep h.2.2.2.2.2 hb⟩
theorem DivrU.all {w w8 w9 w10 : World} {z4 z7 zg : Int} {g4 g7 : Nat} {d4 d7 d8 d9 d10 : Bool} {A4 A7 A8 A9 A10 : Option Addr} {n4 c4 n7 c7 n8 c8 n9 c9 n10 c10 : Nat} {W : World} (h : DivrU w w8 w9 w10 z4 z7 zg g4 g7 d4 d7 d8 d9 d10 A4 A7 A8 A9 A10 n4 c4 n7 c7 n8 c8 n9 c9 n10 c10 W) : W.cell? ⟨g4, 0, none⟩ = some (.bool d4) ∧ W.cell? ⟨g4, 1, none⟩ = some (.slice A4 n4 c4) ∧ W.cell? ⟨g7, 0, none⟩ = some (.bool d7) ∧ W.cell? ⟨g7, 1, none⟩ = some (.slice A7 n7 c7) ∧ W.cell? ⟨w8.heap.size, 0, none⟩ = some (.bool d8) ∧ W.cell? ⟨w8.heap.size, 1, none⟩ = some (.slice A8 n8 c8) ∧ W.cell? ⟨w9.heap.size, 0, none⟩ = some (.bool d9) ∧ W.cell? ⟨w9.heap.size, 1, none⟩ = some (.slice A9 n9 c9) ∧ W.cell? ⟨w10.heap.size, 0, none⟩ = some (.bool d10) ∧ W.cell? ⟨w10.heap.size, 1, none⟩ = some (.slice A10 n10 c10) ∧ DivrU w w8 w9 w10 z4 z7 zg g4 g7 d4 d7 d8 d9 d10 A4 A7 A8 A9 A10 n4 c4 n7 c7 n8 c8 n9 c9 n10 c10 W := ⟨h.1.c0, h.1.c1, h.2.1.c0, h.2.1.c1, h.2.2.1.c0, h.2.2.1.c1, h.2.2.2.1.c0, h.2.2.2.1.c1, h.2.2.2.2.1.c0, h.2.2.2.2.1.c1, h⟩
theorem DivrU.off {w w8 w9 w10 : World} {z4 z7 zg : Int} {g4 g7 : Nat} {d4 d7 d8 d9 d10 : Bool} {A4 A7 A8 A9 A10 : Option Addr} {n4 c4 n7 c7 n8 c8 n9 c9 n10 c10 : Nat} {W : World} (h : DivrU w w8 w9 w10 z4 z7 zg g4 g7 d4 d7 d8 d9 d10 A4 A7 A8 A9 A10 n4 c4 n7 c7 n8 c8 n9 c9 n10 c10 W) {g : Nat} {tt : TypeId} {bQ : Bool} {AQ : Option Addr} {nQ kQ : Nat} {u u' : Value} (hk : Blk2 W g tt (.bool bQ) (.slice AQ nQ kQ)) {G : Nat} (e0 : g4 < G) (e1 : g7 < G) (e2 : w8.heap.size < G) (e3 : w9.heap.size < G) (e4 : w10.heap.size < G) (e : w.heap.size ≤ G) (hg : G ≤ g) : DivrU w w8 w9 w10 z4 z7 zg g4 g7 d4 d7 d8 d9 d10 A4 A7 A8 A9 A10 n4 c4 n7 c7 n8 c8 n9 c9 n10 c10 ((W.setCell ⟨g, 0, none⟩ u).setCell ⟨g, 1, none⟩ u') := ⟨h.1.off hk (by omega), h.2.1.off hk (by omega), h.2.2.1.off hk (by omega), h.2.2.2.1.off hk (by omega), h.2.2.2.2.1.off hk (by omega), below_off h.2.2.2.2.2 (by omega)⟩
set_option maxRecDepth 100000 in
set_option maxHeartbeats 8000000 in
theorem wideDivisors_law (A0 : Option Addr) (n0 c0 : Nat) (zs : List Int) (w : World) (hI : InI w A0 n0 zs) (hn : n0 ≤ 9223372036854775807) :
    Calls Tryd.prog 9 #[.slice A0 n0 c0] w fun e w' => e = .returned (.bool true) ∧ Below w.heap.size w w' := by
  have HB := Lib.hid (Below.refl w.heap.size w)
  have HI := Lib.hid hI
  clear hI
  go_enter Tryd.func9, Tryd.ntmps9
  go_wp2_with fail
  refine (number_any A0 n0 c0 12 zs _ HI.out hn (by omega) (by omega)).mono ?_
  rintro e w1 ⟨z1, hz, v, rfl, h, b⟩
  obtain ⟨d1, A1, n1, c1, rfl⟩ := h.shape
  replace HB := Lib.hid (bstep HB.out b)
  replace HI := Lib.hid (HI.out.below b)
  have Z1 := Lib.hid (show Num z1 from hz)
  have V1 := Lib.hid h
  clear h b hz
  have h := HoldN.new V1.out
  have b := al_below w1 (.cells #[.bool d1, .slice A1 n1 c1] 25)
  replace HB := Lib.hid (bstep HB.out b)
  replace HI := Lib.hid (HI.out.below b)
  have H1 := Lib.hid h
  clear h b V1
  obtain ⟨W2, hW⟩ : ∃ W, W = (w1.alloc (.cells #[.bool d1, .slice A1 n1 c1] 25)) := ⟨_, rfl⟩
  have HW := Lib.hid hW
  have HS0 := Lib.hid (show DivrS w w1 z1 d1 A1 n1 c1 A0 n0 zs W2 from by rw [hW]; exact ⟨H1.out, HI.out, HB.out⟩)
  clear HB H1 HI hW
  go_upto_region 2 with (fail)
  rw [← HW.out]
  clear HW
  have HE0 := Lib.hid HS0.out.1.lt
  have HE := Lib.hid (HS0.out.2.2).size
  go_cut [4] (fun p wx => ∃ (g : Nat) (a : Int) (d : Bool) (A : Option Addr) (n c : Nat), p = .pointer (some ⟨g, 0, none⟩) ∧ Hid (Num2 a) ∧ Hid (HoldN wx g a d A n c) ∧ Hid (DivrS w w1 z1 d1 A1 n1 c1 A0 n0 zs wx))
  case first =>
    go_region_held3 (fun w' => w'.cell? ⟨w1.heap.size, 0, none⟩ = some (.bool d1) ∧ w'.cell? ⟨w1.heap.size, 1, none⟩ = some (.slice A1 n1 c1) ∧ DivrS w w1 z1 d1 A1 n1 c1 A0 n0 zs w')
      (first | exact DivrS.all HS0.out | exact DivrS.all (by assumption) | exact DivrS.all (DivrS.drew (by assumption)) | exact DivrS.all (DivrS.below _ _ (by assumption) (al_below _ _)) | exact DivrS.all (DivrS.below _ _ (by assumption) (al_set_below _ _ _ _)) | exact DivrS.all (DivrS.off (by assumption) (by assumption) (G := W2.heap.size) HE0.out HE.out (by omega)) | exact DivrS.all (DivrS.drew (DivrS.below _ _ HS0.out (al_below _ _))))
      (first
        | (go_at_call 13
           refine (number_S (S := DivrS w w1 z1 d1 A1 n1 c1 A0 n0 zs) DivrS.below (by first | assumption | exact And.right (And.right (by assumption))) (fun h => h.2.1) hn (by omega) (by omega)).mono ?_
           rintro e w2 ⟨z2, hz2, v, rfl, hv2, b2, hS2⟩
           have hs2 : W2.heap.size ≤ w2.heap.size := by first | (have h := below_sz' b2; exact Nat.le_of_succ_le h) | (have h := below_sz' (below_undrew b2); exact Nat.le_of_succ_le h) | (have h := below_sz b2; exact h)
           try (first | (have hp2 : Blk2 w2 _ 25 (.bool false) (.slice none 0 0) := (Blk2.new _ _ _ _).below b2; have q20 := hp2.c0; have q21 := hp2.c1; have q22 := hp2.f0; have q23 := hp2.f1) | (have hp2 : Blk2 w2 _ 25 (.bool false) (.slice none 0 0) := (Blk2.new _ _ _ _).below (below_undrew b2); have q20 := hp2.c0; have q21 := hp2.c1; have q22 := hp2.f0; have q23 := hp2.f1) | (have hp2 : Blk2 w2 _ 25 (.bool false) (.slice none 0 0) := Blk2.below (by assumption) b2; have q20 := hp2.c0; have q21 := hp2.c1; have q22 := hp2.f0; have q23 := hp2.f1) | (have hp2 : Blk2 w2 _ 25 (.bool false) (.slice none 0 0) := Blk2.below (by assumption) (below_undrew b2); have q20 := hp2.c0; have q21 := hp2.c1; have q22 := hp2.f0; have q23 := hp2.f1)))
        | (go_at_call 32
           refine (mul_S (S := DivrS w w1 z1 d1 A1 n1 c1 A0 n0 zs) DivrS.below (by first | assumption | exact And.right (And.right (by assumption))) (fun _ => by first | assumption | exact RepN.step (by assumption) (al_below _ _)) (fun h => h.1.2) (hz2.out.bits _ (by omega)) (Z1.out.bits _ (by omega))).mono ?_
           rintro e w3 ⟨v, rfl, hv3, b3, hS3⟩
           obtain ⟨d3, A3, n3, c3, rfl⟩ := hv3.shape
           have hs3 : w2.heap.size ≤ w3.heap.size := by first | (have h := below_sz' b3; exact Nat.le_of_succ_le h) | (have h := below_sz' (below_undrew b3); exact Nat.le_of_succ_le h) | (have h := below_sz b3; exact h)
           try (first | (have hp3 : Blk2 w3 _ 25 (.bool false) (.slice none 0 0) := (Blk2.new _ _ _ _).below b3; have q30 := hp3.c0; have q31 := hp3.c1; have q32 := hp3.f0; have q33 := hp3.f1) | (have hp3 : Blk2 w3 _ 25 (.bool false) (.slice none 0 0) := (Blk2.new _ _ _ _).below (below_undrew b3); have q30 := hp3.c0; have q31 := hp3.c1; have q32 := hp3.f0; have q33 := hp3.f1) | (have hp3 : Blk2 w3 _ 25 (.bool false) (.slice none 0 0) := Blk2.below (by assumption) b3; have q30 := hp3.c0; have q31 := hp3.c1; have q32 := hp3.f0; have q33 := hp3.f1) | (have hp3 : Blk2 w3 _ 25 (.bool false) (.slice none 0 0) := Blk2.below (by assumption) (below_undrew b3); have q30 := hp3.c0; have q31 := hp3.c1; have q32 := hp3.f0; have q33 := hp3.f1))))
    all_goals (go_wp2_with fail; go_meet; case rel => first | exact ⟨_, _, _, _, _, _, rfl, Lib.hid (hz2.out.two Z1.out), Lib.hid (HoldN.new hv3), Lib.hid (DivrS.below _ _ hS3 (al_below _ _))⟩ | exact ⟨_, _, _, _, _, _, rfl, Lib.hid (hz2.out.two Z1.out), Lib.hid (HoldN.made hv3 hp3), Lib.hid (DivrS.off hS3 hp3 (G := W2.heap.size) HE0.out HE.out (by omega))⟩)
  case rest =>
    obtain ⟨g4, z4, d4, A4, n4, c4, rfl, Z4, H4, HS⟩ := hcut
    clear HS0 HE HE0
    have H1 := Lib.hid HS.out.1
    have HI := Lib.hid HS.out.2.1
    have HB := Lib.hid HS.out.2.2
    clear HS
    have HS0 := Lib.hid (show DivrT w w1 z1 z4 g4 d1 d4 A1 A4 n1 c1 n4 c4 A0 n0 zs _ from ⟨H1.out, H4.out, HI.out, HB.out⟩)
    clear HB H1 H4 HI
    go_upto_region 3 with (fail)
    have HE0 := Lib.hid HS0.out.1.lt
    have HE1 := Lib.hid HS0.out.2.1.lt
    have HE := Lib.hid (HS0.out.2.2.2).size
    go_cut [5] (fun p wx => ∃ (g : Nat) (a : Int) (d : Bool) (A : Option Addr) (n c : Nat), p = .pointer (some ⟨g, 0, none⟩) ∧ Hid (Num2 a) ∧ Hid (HoldN wx g a d A n c) ∧ Hid (DivrT w w1 z1 z4 g4 d1 d4 A1 A4 n1 c1 n4 c4 A0 n0 zs wx))
    case first =>
      go_region_held3 (fun w' => w'.cell? ⟨w1.heap.size, 0, none⟩ = some (.bool d1) ∧ w'.cell? ⟨w1.heap.size, 1, none⟩ = some (.slice A1 n1 c1) ∧ w'.cell? ⟨g4, 0, none⟩ = some (.bool d4) ∧ w'.cell? ⟨g4, 1, none⟩ = some (.slice A4 n4 c4) ∧ DivrT w w1 z1 z4 g4 d1 d4 A1 A4 n1 c1 n4 c4 A0 n0 zs w')
        (first | exact DivrT.all HS0.out | exact DivrT.all (by assumption) | exact DivrT.all (DivrT.drew (by assumption)) | exact DivrT.all (DivrT.below _ _ (by assumption) (al_below _ _)) | exact DivrT.all (DivrT.below _ _ (by assumption) (al_set_below _ _ _ _)) | exact DivrT.all (DivrT.off (by assumption) (by assumption) (G := wc.heap.size) HE0.out HE1.out HE.out (by omega)) | exact DivrT.all (DivrT.drew (DivrT.below _ _ HS0.out (al_below _ _))))
        (first
          | (go_at_call 13
             refine (number_S (S := DivrT w w1 z1 z4 g4 d1 d4 A1 A4 n1 c1 n4 c4 A0 n0 zs) DivrT.below (by first | assumption | exact And.right (And.right (And.right (And.right (by assumption))))) (fun h => h.2.2.1) hn (by omega) (by omega)).mono ?_
             rintro e w5 ⟨z5, hz5, v, rfl, hv5, b5, hS5⟩
             have hs5 : wc.heap.size ≤ w5.heap.size := by first | (have h := below_sz' b5; exact Nat.le_of_succ_le h) | (have h := below_sz' (below_undrew b5); exact Nat.le_of_succ_le h) | (have h := below_sz b5; exact h)
             try (first | (have hp5 : Blk2 w5 _ 25 (.bool false) (.slice none 0 0) := (Blk2.new _ _ _ _).below b5; have q50 := hp5.c0; have q51 := hp5.c1; have q52 := hp5.f0; have q53 := hp5.f1) | (have hp5 : Blk2 w5 _ 25 (.bool false) (.slice none 0 0) := (Blk2.new _ _ _ _).below (below_undrew b5); have q50 := hp5.c0; have q51 := hp5.c1; have q52 := hp5.f0; have q53 := hp5.f1) | (have hp5 : Blk2 w5 _ 25 (.bool false) (.slice none 0 0) := Blk2.below (by assumption) b5; have q50 := hp5.c0; have q51 := hp5.c1; have q52 := hp5.f0; have q53 := hp5.f1) | (have hp5 : Blk2 w5 _ 25 (.bool false) (.slice none 0 0) := Blk2.below (by assumption) (below_undrew b5); have q50 := hp5.c0; have q51 := hp5.c1; have q52 := hp5.f0; have q53 := hp5.f1)))
          | (go_at_call 32
             refine (mul_S (S := DivrT w w1 z1 z4 g4 d1 d4 A1 A4 n1 c1 n4 c4 A0 n0 zs) DivrT.below (by first | assumption | exact And.right (And.right (And.right (And.right (by assumption))))) (fun _ => by first | assumption | exact RepN.step (by assumption) (al_below _ _)) (fun h => h.1.2) (hz5.out.bits _ (by omega)) (Z1.out.bits _ (by omega))).mono ?_
             rintro e w6 ⟨v, rfl, hv6, b6, hS6⟩
             obtain ⟨d6, A6, n6, c6, rfl⟩ := hv6.shape
             have hs6 : w5.heap.size ≤ w6.heap.size := by first | (have h := below_sz' b6; exact Nat.le_of_succ_le h) | (have h := below_sz' (below_undrew b6); exact Nat.le_of_succ_le h) | (have h := below_sz b6; exact h)
             try (first | (have hp6 : Blk2 w6 _ 25 (.bool false) (.slice none 0 0) := (Blk2.new _ _ _ _).below b6; have q60 := hp6.c0; have q61 := hp6.c1; have q62 := hp6.f0; have q63 := hp6.f1) | (have hp6 : Blk2 w6 _ 25 (.bool false) (.slice none 0 0) := (Blk2.new _ _ _ _).below (below_undrew b6); have q60 := hp6.c0; have q61 := hp6.c1; have q62 := hp6.f0; have q63 := hp6.f1) | (have hp6 : Blk2 w6 _ 25 (.bool false) (.slice none 0 0) := Blk2.below (by assumption) b6; have q60 := hp6.c0; have q61 := hp6.c1; have q62 := hp6.f0; have q63 := hp6.f1) | (have hp6 : Blk2 w6 _ 25 (.bool false) (.slice none 0 0) := Blk2.below (by assumption) (below_undrew b6); have q60 := hp6.c0; have q61 := hp6.c1; have q62 := hp6.f0; have q63 := hp6.f1))))
      all_goals (go_wp2_with fail; go_meet; case rel => first | exact ⟨_, _, _, _, _, _, rfl, Lib.hid (hz5.out.two Z1.out), Lib.hid (HoldN.new hv6), Lib.hid (DivrT.below _ _ hS6 (al_below _ _))⟩ | exact ⟨_, _, _, _, _, _, rfl, Lib.hid (hz5.out.two Z1.out), Lib.hid (HoldN.made hv6 hp6), Lib.hid (DivrT.off hS6 hp6 (G := wc.heap.size) HE0.out HE1.out HE.out (by omega))⟩)
    case rest =>
      obtain ⟨g7, z7, d7, A7, n7, c7, rfl, Z7, H7, HS⟩ := hcut
      clear HS0 HE HE0 HE1
      have H1 := Lib.hid HS.out.1
      have H4 := Lib.hid HS.out.2.1
      have HI := Lib.hid HS.out.2.2.1
      have HB := Lib.hid HS.out.2.2.2
      clear HS
      clear H1
      clear HI
      have gH40 := H4.out.c0
      have gH41 := H4.out.c1
      go_wp2_with fail
      refine (wider_any z4 _ _ H4.out.2 Z4.out.ltl).mono ?_
      rintro e w8 ⟨v, rfl, h, b⟩
      obtain ⟨d8, A8, n8, c8, rfl⟩ := h.shape
      clear gH40 gH41
      replace H4 := Lib.hid (H4.out.below b)
      replace HB := Lib.hid (bstep HB.out b)
      replace H7 := Lib.hid (H7.out.below b)
      have V8 := Lib.hid h
      clear h b
      have h := HoldI.new V8.out
      have b := al_below w8 (.cells #[.bool d8, .slice A8 n8 c8] 34)
      replace H4 := Lib.hid (H4.out.below b)
      replace HB := Lib.hid (bstep HB.out b)
      replace H7 := Lib.hid (H7.out.below b)
      have H8 := Lib.hid h
      clear h b V8
      have gH70 := H7.out.c0
      have gH71 := H7.out.c1
      go_wp2_with fail
      refine (wider_any z7 _ _ H7.out.2 Z7.out.ltl).mono ?_
      rintro e w9 ⟨v, rfl, h, b⟩
      obtain ⟨d9, A9, n9, c9, rfl⟩ := h.shape
      clear gH70 gH71
      replace H4 := Lib.hid (H4.out.below b)
      replace HB := Lib.hid (bstep HB.out b)
      replace H7 := Lib.hid (H7.out.below b)
      replace H8 := Lib.hid (H8.out.below b)
      have V9 := Lib.hid h
      clear h b
      have h := HoldI.new V9.out
      have b := al_below w9 (.cells #[.bool d9, .slice A9 n9 c9] 34)
      replace H4 := Lib.hid (H4.out.below b)
      replace HB := Lib.hid (bstep HB.out b)
      replace H7 := Lib.hid (H7.out.below b)
      replace H8 := Lib.hid (H8.out.below b)
      have H9 := Lib.hid h
      clear h b V9
      obtain ⟨zg, hzg⟩ : ∃ zg : Int, (Nat.gcd z4.natAbs z7.natAbs : Int) = zg := ⟨_, rfl⟩
      have ZG := Lib.hid hzg
      have ZL := Lib.hid (show (zg.natAbs : Int) < lim from by rw [← hzg]; exact gcd_ltl Z4.out.ltl Z7.out.ltl)
      clear hzg
      have gH80 := H8.out.c0
      have gH81 := H8.out.c1
      have gH90 := H9.out.c0
      have gH91 := H9.out.c1
      go_wp2_with fail
      refine (igcd_lim z4 z7 _ _ _ H8.out.2 H9.out.2 Z4.out.ltl Z7.out.ltl zg ZG.out).mono ?_
      rintro e w10 ⟨v, rfl, h, b⟩
      obtain ⟨d10, A10, n10, c10, rfl⟩ := h.shape
      clear gH80 gH81 gH90 gH91
      replace H4 := Lib.hid (H4.out.below b)
      replace HB := Lib.hid (bstep HB.out b)
      replace H7 := Lib.hid (H7.out.below b)
      replace H8 := Lib.hid (H8.out.below b)
      replace H9 := Lib.hid (H9.out.below b)
      have V10 := Lib.hid h
      clear h b
      have h := HoldI.new V10.out
      have b := al_below w10 (.cells #[.bool d10, .slice A10 n10 c10] 34)
      replace H4 := Lib.hid (H4.out.below b)
      replace HB := Lib.hid (bstep HB.out b)
      replace H7 := Lib.hid (H7.out.below b)
      replace H8 := Lib.hid (H8.out.below b)
      replace H9 := Lib.hid (H9.out.below b)
      have H10 := Lib.hid h
      clear h b V10
      have HS0 := Lib.hid (show DivrU w w8 w9 w10 z4 z7 zg g4 g7 d4 d7 d8 d9 d10 A4 A7 A8 A9 A10 n4 c4 n7 c7 n8 c8 n9 c9 n10 c10 _ from ⟨H4.out, H7.out, H8.out, H9.out, H10.out, HB.out⟩)
      clear HB H4 H7 H8 H9 H10
      go_wp2_with fail
      go_region_held3 (fun w' => w'.cell? ⟨g4, 0, none⟩ = some (.bool d4) ∧ w'.cell? ⟨g4, 1, none⟩ = some (.slice A4 n4 c4) ∧ w'.cell? ⟨g7, 0, none⟩ = some (.bool d7) ∧ w'.cell? ⟨g7, 1, none⟩ = some (.slice A7 n7 c7) ∧ w'.cell? ⟨w8.heap.size, 0, none⟩ = some (.bool d8) ∧ w'.cell? ⟨w8.heap.size, 1, none⟩ = some (.slice A8 n8 c8) ∧ w'.cell? ⟨w9.heap.size, 0, none⟩ = some (.bool d9) ∧ w'.cell? ⟨w9.heap.size, 1, none⟩ = some (.slice A9 n9 c9) ∧ w'.cell? ⟨w10.heap.size, 0, none⟩ = some (.bool d10) ∧ w'.cell? ⟨w10.heap.size, 1, none⟩ = some (.slice A10 n10 c10) ∧ DivrU w w8 w9 w10 z4 z7 zg g4 g7 d4 d7 d8 d9 d10 A4 A7 A8 A9 A10 n4 c4 n7 c7 n8 c8 n9 c9 n10 c10 w')
        (first | exact DivrU.all HS0.out | exact DivrU.all (by assumption) | exact DivrU.all (DivrU.drew (by assumption)) | exact DivrU.all (DivrU.below _ _ (by assumption) (al_below _ _)) | exact DivrU.all (DivrU.below _ _ (by assumption) (al_set_below _ _ _ _)))
        (first
          | (go_at_call 42
             refine (gcd_S (S := DivrU w w8 w9 w10 z4 z7 zg g4 g7 d4 d7 d8 d9 d10 A4 A7 A8 A9 A10 n4 c4 n7 c7 n8 c8 n9 c9 n10 c10) DivrU.below (by first | assumption | exact And.right (And.right (And.right (And.right (And.right (And.right (And.right (And.right (And.right (And.right (by assumption))))))))))) (fun h => h.1.2) (fun h => h.2.1.2) (Z4.out.bits _ (by omega)) (Z7.out.bits _ (by omega))).mono ?_
             rintro e wr1 ⟨v, rfl, hv, b, hS1⟩
             rw [ZG.out] at hv)
          | (go_at_call 18
             with_reducible show Calls Tryd.prog 18 #[.agg #[.bool d10, .slice A10 n10 c10], _] _ _
             refine (eq_S (S := DivrU w w8 w9 w10 z4 z7 zg g4 g7 d4 d7 d8 d9 d10 A4 A7 A8 A9 A10 n4 c4 n7 c7 n8 c8 n9 c9 n10 c10) DivrU.below (by first | assumption | exact And.right (And.right (And.right (And.right (And.right (And.right (And.right (And.right (And.right (And.right (by assumption))))))))))) (fun h => h.2.2.2.2.1.2) (fun _ => by first | assumption | exact RepN.step (by assumption) (al_below _ _)) rfl (ZL.out)).mono ?_
             rintro e wr2 ⟨rfl, hS2⟩))
      clear HS0
      have H4 := Lib.hid hS2.1
      have H7 := Lib.hid hS2.2.1
      have H8 := Lib.hid hS2.2.2.1
      have H9 := Lib.hid hS2.2.2.2.1
      have H10 := Lib.hid hS2.2.2.2.2.1
      have HB := Lib.hid hS2.2.2.2.2.2
      clear hS2 hS1 hv b
      by_cases hg0 : zg = 0
      · have HG := Lib.hid hg0
        clear hg0
        have gH100 := H10.out.c0
        have gH101 := H10.out.c1
        go_wp2_with fail
        refine (isign_lim zg _ _ H10.out.2 ZL.out 0 (by rw [HG.out]; rfl)).mono ?_
        rintro e w11 ⟨rfl, b⟩
        clear gH100 gH101
        replace H4 := Lib.hid (H4.out.below b)
        replace H7 := Lib.hid (H7.out.below b)
        replace H8 := Lib.hid (H8.out.below b)
        replace H9 := Lib.hid (H9.out.below b)
        replace H10 := Lib.hid (H10.out.below b)
        replace HB := Lib.hid (bstep HB.out b)
        clear b
        obtain rfl : n4 = 0 := H4.out.2.zero.2 (by have h1 := ZG.out; have h2 := HG.out; have h3 := Nat.gcd_eq_zero_iff.1 (show Nat.gcd z4.natAbs z7.natAbs = 0 by omega); omega)
        obtain rfl : n7 = 0 := H7.out.2.zero.2 (by have h1 := ZG.out; have h2 := HG.out; have h3 := Nat.gcd_eq_zero_iff.1 (show Nat.gcd z4.natAbs z7.natAbs = 0 by omega); omega)
        have gH40 := H4.out.c0
        have gH41 := H4.out.c1
        have gH70 := H7.out.c0
        have gH71 := H7.out.c1
        go_wp2_with fail
        refine (lives_any _).mono ?_
        rintro e w12 ⟨rfl, b⟩
        clear gH40 gH41 gH70 gH71
        replace H4 := Lib.hid (H4.out.below b)
        replace H7 := Lib.hid (H7.out.below b)
        replace H8 := Lib.hid (H8.out.below b)
        replace H9 := Lib.hid (H9.out.below b)
        replace H10 := Lib.hid (H10.out.below b)
        replace HB := Lib.hid (bstep HB.out b)
        clear b
        go_wp2_with fail
        go_ret
        exact ⟨rfl, HB.out⟩
      · have HG := Lib.hid (show ∃ r : Int, cmpI' zg 0 = r ∧ r ≠ 0 from by unfold cmpI'; split; exact ⟨_, rfl, by omega⟩; split; exact ⟨_, rfl, by omega⟩; omega)
        obtain ⟨rg, hrg⟩ := HG.out
        have hr0 := hrg.2
        have hr1 : (rg == 0) = false := by simp [hr0]
        have hr2 : decide (rg = 0) = false := by simp [hr0]
        have HR := Lib.hid hrg.1
        have H0 := Lib.hid hg0
        clear HG hrg hg0
        have gH100 := H10.out.c0
        have gH101 := H10.out.c1
        go_wp2_with fail
        refine (isign_lim zg _ _ H10.out.2 ZL.out rg HR.out).mono ?_
        rintro e w13 ⟨rfl, b⟩
        clear gH100 gH101
        replace H4 := Lib.hid (H4.out.below b)
        replace H7 := Lib.hid (H7.out.below b)
        replace H8 := Lib.hid (H8.out.below b)
        replace H9 := Lib.hid (H9.out.below b)
        replace H10 := Lib.hid (H10.out.below b)
        replace HB := Lib.hid (bstep HB.out b)
        clear b
        have HF := Lib.hid (gcd_facts (a := z4) (b := z7) (by rw [ZG.out]; exact H0.out))
        rw [ZG.out] at HF
        have gH80 := H8.out.c0
        have gH81 := H8.out.c1
        have gH100 := H10.out.c0
        have gH101 := H10.out.c1
        go_wp2_with fail
        refine (idiv_any z4 zg _ _ _ H8.out.2 H10.out.2 Z4.out.ltl ZL.out H0.out).mono ?_
        rintro e w14 ⟨u, v, rfl, h, h', b⟩
        obtain ⟨d14, A14, n14, c14, rfl⟩ := h.shape
        obtain ⟨d15, A15, n15, c15, rfl⟩ := h'.shape
        clear gH80 gH81 gH100 gH101
        replace H4 := Lib.hid (H4.out.below b)
        replace H7 := Lib.hid (H7.out.below b)
        replace H8 := Lib.hid (H8.out.below b)
        replace H9 := Lib.hid (H9.out.below b)
        replace H10 := Lib.hid (H10.out.below b)
        replace HB := Lib.hid (bstep HB.out b)
        clear b
        have b1 := al_below w14 (.cells #[.bool d14, .slice A14 n14 c14] 34)
        have b2 := al_below (w14.alloc (.cells #[.bool d14, .slice A14 n14 c14] 34)) (.cells #[.bool d15, .slice A15 n15 c15] 34)
        have b := bstep b1 b2
        have K := (HoldI.new h).below b2
        have J := HoldI.new (h'.step b1)
        rw [World.size_alloc] at J
        replace H4 := Lib.hid (H4.out.below b)
        replace H7 := Lib.hid (H7.out.below b)
        replace H8 := Lib.hid (H8.out.below b)
        replace H9 := Lib.hid (H9.out.below b)
        replace H10 := Lib.hid (H10.out.below b)
        replace HB := Lib.hid (bstep HB.out b)
        have H14 := Lib.hid K
        have H15 := Lib.hid J
        clear h h' b1 b2 b K J
        rw [HF.out.1] at H15
        have gH90 := H9.out.c0
        have gH91 := H9.out.c1
        have gH100 := H10.out.c0
        have gH101 := H10.out.c1
        go_wp2_with fail
        refine (idiv_any z7 zg _ _ _ H9.out.2 H10.out.2 Z7.out.ltl ZL.out H0.out).mono ?_
        rintro e w16 ⟨u, v, rfl, h, h', b⟩
        obtain ⟨d16, A16, n16, c16, rfl⟩ := h.shape
        obtain ⟨d17, A17, n17, c17, rfl⟩ := h'.shape
        clear gH90 gH91 gH100 gH101
        replace H4 := Lib.hid (H4.out.below b)
        replace H7 := Lib.hid (H7.out.below b)
        replace H8 := Lib.hid (H8.out.below b)
        replace H9 := Lib.hid (H9.out.below b)
        replace H10 := Lib.hid (H10.out.below b)
        replace HB := Lib.hid (bstep HB.out b)
        replace H14 := Lib.hid (H14.out.below b)
        replace H15 := Lib.hid (H15.out.below b)
        clear b
        have b1 := al_below w16 (.cells #[.bool d16, .slice A16 n16 c16] 34)
        have b2 := al_below (w16.alloc (.cells #[.bool d16, .slice A16 n16 c16] 34)) (.cells #[.bool d17, .slice A17 n17 c17] 34)
        have b := bstep b1 b2
        have K := (HoldI.new h).below b2
        have J := HoldI.new (h'.step b1)
        rw [World.size_alloc] at J
        replace H4 := Lib.hid (H4.out.below b)
        replace H7 := Lib.hid (H7.out.below b)
        replace H8 := Lib.hid (H8.out.below b)
        replace H9 := Lib.hid (H9.out.below b)
        replace H10 := Lib.hid (H10.out.below b)
        replace HB := Lib.hid (bstep HB.out b)
        replace H14 := Lib.hid (H14.out.below b)
        replace H15 := Lib.hid (H15.out.below b)
        have H16 := Lib.hid K
        have H17 := Lib.hid J
        clear h h' b1 b2 b K J
        rw [HF.out.2.1] at H17
        have gH150 := H15.out.c0
        have gH151 := H15.out.c1
        go_wp2_with fail
        refine (isign_lim 0 _ _ H15.out.2 (tiny (by decide)) 0 rfl).mono ?_
        rintro e w18 ⟨rfl, b⟩
        clear gH150 gH151
        replace H4 := Lib.hid (H4.out.below b)
        replace H7 := Lib.hid (H7.out.below b)
        replace H8 := Lib.hid (H8.out.below b)
        replace H9 := Lib.hid (H9.out.below b)
        replace H10 := Lib.hid (H10.out.below b)
        replace HB := Lib.hid (bstep HB.out b)
        replace H14 := Lib.hid (H14.out.below b)
        replace H15 := Lib.hid (H15.out.below b)
        replace H16 := Lib.hid (H16.out.below b)
        replace H17 := Lib.hid (H17.out.below b)
        clear b
        have gH170 := H17.out.c0
        have gH171 := H17.out.c1
        go_wp2_with fail
        refine (isign_lim 0 _ _ H17.out.2 (tiny (by decide)) 0 rfl).mono ?_
        rintro e w19 ⟨rfl, b⟩
        clear gH170 gH171
        replace H4 := Lib.hid (H4.out.below b)
        replace H7 := Lib.hid (H7.out.below b)
        replace H8 := Lib.hid (H8.out.below b)
        replace H9 := Lib.hid (H9.out.below b)
        replace H10 := Lib.hid (H10.out.below b)
        replace HB := Lib.hid (bstep HB.out b)
        replace H14 := Lib.hid (H14.out.below b)
        replace H15 := Lib.hid (H15.out.below b)
        replace H16 := Lib.hid (H16.out.below b)
        replace H17 := Lib.hid (H17.out.below b)
        clear b
        have gH140 := H14.out.c0
        have gH141 := H14.out.c1
        have gH160 := H16.out.c0
        have gH161 := H16.out.c1
        go_wp2_with fail
        refine (igcd_lim _ _ _ _ _ H14.out.2 H16.out.2 (ediv_ltl Z4.out.ltl _) (ediv_ltl Z7.out.ltl _) 1 HF.out.2.2).mono ?_
        rintro e w20 ⟨v, rfl, h, b⟩
        obtain ⟨d20, A20, n20, c20, rfl⟩ := h.shape
        clear gH140 gH141 gH160 gH161
        replace H4 := Lib.hid (H4.out.below b)
        replace H7 := Lib.hid (H7.out.below b)
        replace H8 := Lib.hid (H8.out.below b)
        replace H9 := Lib.hid (H9.out.below b)
        replace H10 := Lib.hid (H10.out.below b)
        replace HB := Lib.hid (bstep HB.out b)
        replace H14 := Lib.hid (H14.out.below b)
        replace H15 := Lib.hid (H15.out.below b)
        replace H16 := Lib.hid (H16.out.below b)
        replace H17 := Lib.hid (H17.out.below b)
        have V20 := Lib.hid h
        clear h b
        go_wp2_with fail
        refine (from_any 1 _ (by omega) (by omega)).mono ?_
        rintro e w21 ⟨v, rfl, h, b⟩
        obtain ⟨d21, A21, n21, c21, rfl⟩ := h.shape
        replace H4 := Lib.hid (H4.out.below b)
        replace H7 := Lib.hid (H7.out.below b)
        replace H8 := Lib.hid (H8.out.below b)
        replace H9 := Lib.hid (H9.out.below b)
        replace H10 := Lib.hid (H10.out.below b)
        replace HB := Lib.hid (bstep HB.out b)
        replace H14 := Lib.hid (H14.out.below b)
        replace H15 := Lib.hid (H15.out.below b)
        replace H16 := Lib.hid (H16.out.below b)
        replace H17 := Lib.hid (H17.out.below b)
        replace V20 := Lib.hid (V20.out.step b)
        have V21 := Lib.hid h
        clear h b
        go_wp2_with fail
        refine (icompare_lim 1 1 _ _ _ V20.out V21.out (tiny (by decide)) (tiny (by decide)) 0 rfl).mono ?_
        rintro e w22 ⟨rfl, b⟩
        replace H4 := Lib.hid (H4.out.below b)
        replace H7 := Lib.hid (H7.out.below b)
        replace H8 := Lib.hid (H8.out.below b)
        replace H9 := Lib.hid (H9.out.below b)
        replace H10 := Lib.hid (H10.out.below b)
        replace HB := Lib.hid (bstep HB.out b)
        replace H14 := Lib.hid (H14.out.below b)
        replace H15 := Lib.hid (H15.out.below b)
        replace H16 := Lib.hid (H16.out.below b)
        replace H17 := Lib.hid (H17.out.below b)
        replace V20 := Lib.hid (V20.out.step b)
        replace V21 := Lib.hid (V21.out.step b)
        clear b
        go_wp2_with fail
        refine (lives_any _).mono ?_
        rintro e w23 ⟨rfl, b⟩
        replace H4 := Lib.hid (H4.out.below b)
        replace H7 := Lib.hid (H7.out.below b)
        replace H8 := Lib.hid (H8.out.below b)
        replace H9 := Lib.hid (H9.out.below b)
        replace H10 := Lib.hid (H10.out.below b)
        replace HB := Lib.hid (bstep HB.out b)
        replace H14 := Lib.hid (H14.out.below b)
        replace H15 := Lib.hid (H15.out.below b)
        replace H16 := Lib.hid (H16.out.below b)
        replace H17 := Lib.hid (H17.out.below b)
        replace V20 := Lib.hid (V20.out.step b)
        replace V21 := Lib.hid (V21.out.step b)
        clear b
        go_wp2_with fail
        go_ret
        exact ⟨rfl, HB.out⟩
end Go.Proofs.YtpilpceclmppgaaDoor
