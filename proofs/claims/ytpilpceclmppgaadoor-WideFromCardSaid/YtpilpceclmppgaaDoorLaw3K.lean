/- Layer 3's laws: WideFrom. -/
import Derived.Test.YtpilpceclmppgaaDoorLaw3J
namespace Go.Proofs.YtpilpceclmppgaaDoor
open Go.RowKit
set_option linter.unusedVariables false

def FromSt (w w1 : World) (n : Int) (d1 : Bool) (A1 : Option Addr) (n1 c1 : Nat) (A0 : Option Addr) (n0 : Nat) (zs : List Int) (W : World) : Prop := (HoldI W w1.heap.size n d1 A1 n1 c1) ∧ (InI W A0 n0 zs) ∧ Below w.heap.size w W
theorem FromSt.drew {w w1 : World} {n : Int} {d1 : Bool} {A1 : Option Addr} {n1 c1 : Nat} {A0 : Option Addr} {n0 : Nat} {zs : List Int} {W : World} (h : FromSt w w1 n d1 A1 n1 c1 A0 n0 zs W) : FromSt w w1 n d1 A1 n1 c1 A0 n0 zs W.drew := ⟨h.1, h.2.1, below_drew h.2.2⟩
theorem FromSt.below {w w1 : World} {n : Int} {d1 : Bool} {A1 : Option Addr} {n1 c1 : Nat} {A0 : Option Addr} {n0 : Nat} {zs : List Int} : Stab (FromSt w w1 n d1 A1 n1 c1 A0 n0 zs) := fun W W' h hb => ⟨h.1.below hb, h.2.1.below hb, bstep h.2.2 hb⟩
theorem FromSt.all {w w1 : World} {n : Int} {d1 : Bool} {A1 : Option Addr} {n1 c1 : Nat} {A0 : Option Addr} {n0 : Nat} {zs : List Int} {W : World} (h : FromSt w w1 n d1 A1 n1 c1 A0 n0 zs W) : W.cell? ⟨w1.heap.size, 0, none⟩ = some (.bool d1) ∧ W.cell? ⟨w1.heap.size, 1, none⟩ = some (.slice A1 n1 c1) ∧ FromSt w w1 n d1 A1 n1 c1 A0 n0 zs W := ⟨h.1.c0, h.1.c1, h⟩
theorem FromSt.off {w w1 : World} {n : Int} {d1 : Bool} {A1 : Option Addr} {n1 c1 : Nat} {A0 : Option Addr} {n0 : Nat} {zs : List Int} {W : World} (h : FromSt w w1 n d1 A1 n1 c1 A0 n0 zs W) {g : Nat} {tt : TypeId} {bQ : Bool} {AQ : Option Addr} {nQ kQ : Nat} {u u' : Value} (hk : Blk2 W g tt (.bool bQ) (.slice AQ nQ kQ)) {G : Nat} (e0 : w1.heap.size < G) (e : w.heap.size ≤ G) (hg : G ≤ g) : FromSt w w1 n d1 A1 n1 c1 A0 n0 zs ((W.setCell ⟨g, 0, none⟩ u).setCell ⟨g, 1, none⟩ u') := ⟨h.1.off hk (by omega), h.2.1.off hk, below_off h.2.2 (by omega)⟩
set_option maxRecDepth 100000 in
set_option maxHeartbeats 8000000 in
theorem wideFrom_law (A0 : Option Addr) (n0 c0 : Nat) (zs : List Int) (w : World) (hI : InI w A0 n0 zs) (hn : n0 ≤ 9223372036854775807) (n k : Int) (hi : -9223372036854775808 ≤ n ∧ n ≤ 9223372036854775807) (hk : -9223372036854775808 ≤ k ∧ k ≤ 9223372036854775807) :
    Calls Tryd.prog 4 #[.int .i64 n, .slice A0 n0 c0, .int .i64 k] w fun e w' => e = .returned (.bool true) ∧ Below w.heap.size w w' := by
  obtain ⟨i0, i1⟩ := hi
  obtain ⟨k0, k1⟩ := hk
  have HB := Lib.hid (Below.refl w.heap.size w)
  have HI := Lib.hid hI
  clear hI
  go_enter Tryd.func4, Tryd.ntmps4
  have NL := Lib.hid (show (n.natAbs : Int) < lim from bits_lt (Bits.i64 i0 i1) (by omega))
  have NI := Lib.hid (show isI n = true from decide_eq_true ⟨i0, i1⟩)
  go_wp2_with fail
  refine (from_any n _ i0 i1).mono ?_
  rintro e w1 ⟨v, rfl, h, b⟩
  obtain ⟨d1, A1, n1, c1, rfl⟩ := h.shape
  replace HB := Lib.hid (bstep HB.out b)
  replace HI := Lib.hid (HI.out.below b)
  have V1 := Lib.hid h
  clear h b
  have h := HoldI.new V1.out
  have b := al_below w1 (.cells #[.bool d1, .slice A1 n1 c1] 34)
  replace HB := Lib.hid (bstep HB.out b)
  replace HI := Lib.hid (HI.out.below b)
  have H1 := Lib.hid h
  clear h b V1
  have gH10 := H1.out.c0
  have gH11 := H1.out.c1
  go_wp2_with fail
  refine (ismall_lim n _ _ H1.out.2 NL.out n true (by rw [NI.out]; rfl) NI.out).mono ?_
  rintro e w2 ⟨rfl, b⟩
  clear gH10 gH11
  replace HB := Lib.hid (bstep HB.out b)
  replace HI := Lib.hid (HI.out.below b)
  replace H1 := Lib.hid (H1.out.below b)
  clear b
  have HS0 := Lib.hid (show FromSt w w1 n d1 A1 n1 c1 A0 n0 zs _ from ⟨H1.out, HI.out, HB.out⟩)
  clear HB HI H1
  go_wp2_with fail
  go_region_held3 (fun w' => w'.cell? ⟨w1.heap.size, 0, none⟩ = some (.bool d1) ∧ w'.cell? ⟨w1.heap.size, 1, none⟩ = some (.slice A1 n1 c1) ∧ FromSt w w1 n d1 A1 n1 c1 A0 n0 zs w')
    (first | exact FromSt.all HS0.out | exact FromSt.all (by assumption) | exact FromSt.all (FromSt.drew (by assumption)) | exact FromSt.all (FromSt.below _ _ (by assumption) (al_below _ _)) | exact FromSt.all (FromSt.below _ _ (by assumption) (al_set_below _ _ _ _)))
    (first
      | (go_at_call 23
         refine (of_S (S := FromSt w w1 n d1 A1 n1 c1 A0 n0 zs) FromSt.below (by first | assumption | exact And.right (And.right (by assumption))) n i0 i1).mono ?_
         rintro e wr1 ⟨v, rfl, hv, b, hS1⟩)
      | (go_at_call 18
         with_reducible show Calls Tryd.prog 18 #[.agg #[.bool d1, .slice A1 n1 c1], _] _ _
         refine (eq_S (S := FromSt w w1 n d1 A1 n1 c1 A0 n0 zs) FromSt.below (by first | assumption | exact And.right (And.right (by assumption))) (fun h => h.1.2) (fun _ => by first | assumption | exact RepN.step (by assumption) (al_below _ _)) rfl (NL.out)).mono ?_
         rintro e wr2 ⟨rfl, hS2⟩))
  clear HS0
  have H1 := Lib.hid hS2.1
  have HI := Lib.hid hS2.2.1
  have HB := Lib.hid hS2.2.2
  clear hS2 hS1 hv b
  clear H1
  go_wp2_with fail
  refine (number_any A0 n0 c0 0 zs _ HI.out hn (by omega) (by omega)).mono ?_
  rintro e w3 ⟨z3, hz, v, rfl, h, b⟩
  obtain ⟨d3, A3, n3, c3, rfl⟩ := h.shape
  replace HI := Lib.hid (HI.out.below b)
  replace HB := Lib.hid (bstep HB.out b)
  have Z3 := Lib.hid (show Num z3 from hz)
  have V3 := Lib.hid h
  clear h b hz
  have hb4 := aroundI_bd (k) 7 (by omega)
  obtain ⟨r4, hr4⟩ : ∃ r, aroundI (k) 7 = r := ⟨_, rfl⟩
  rw [hr4] at hb4
  have HA := around_any (k) 7 w3 k0 k1 (by omega) (by omega)
  rw [hr4] at HA
  obtain ⟨hb40, hb41⟩ := hb4
  clear hr4
  go_wp2_with fail
  refine HA.mono ?_
  rintro e w' ⟨rfl, rfl⟩
  clear HA
  have hq7 := tdiv7 k0 k1
  obtain ⟨q7, e7⟩ : ∃ q, k.tdiv 7 = q := ⟨_, rfl⟩
  rw [e7] at hq7
  obtain ⟨q0, q1⟩ := hq7
  have ew7 : IntKind.i64.wrap (k.tdiv 7) = q7 := by rw [e7]; exact IntWalk.i64_in _ (by omega)
  have hb5 := aroundI_bd (q7) 2 (by omega)
  obtain ⟨r5, hr5⟩ : ∃ r, aroundI (q7) 2 = r := ⟨_, rfl⟩
  rw [hr5] at hb5
  have HA := around_any (q7) 2 w3 q0 q1 (by omega) (by omega)
  rw [hr5] at HA
  obtain ⟨hb50, hb51⟩ := hb5
  clear hr5
  go_wp2_with fail
  refine HA.mono ?_
  rintro e w' ⟨rfl, rfl⟩
  clear HA
  clear e7 ew7
  go_wp2_with fail
  refine (near_at (4 * r4 + 3 + 28 * r5) _ (by omega) (by omega) 3 (by omega) 63 rfl (by omega)).mono ?_
  rintro e w6 ⟨z6, hz, v, rfl, h, b⟩
  obtain ⟨d6, A6, n6, c6, rfl⟩ := h.shape
  replace HI := Lib.hid (HI.out.below b)
  replace HB := Lib.hid (bstep HB.out b)
  replace V3 := Lib.hid (V3.out.step b)
  have Z6 := Lib.hid (show InL z6 from bits_lt hz.out (by omega))
  have V6 := Lib.hid h
  clear h b hz
  have HR := Lib.hid (ArrN.new2 25 V3.out V6.out)
  replace HB := Lib.hid (bstep HB.out (al_below w6 (.cells #[.bool d3, .slice A3 n3 c3, .bool d6, .slice A6 n6 c6] 25)))
  have HL := Lib.hid (show ∀ i < 2, InL ([z3, z6][i]?.getD 0) from fun i hi => all_two (P := InL) (show InL z3 from Z3.out.ltl) Z6.out i hi)
  obtain ⟨L, hL⟩ : ∃ L, L = [z3, z6] := ⟨_, rfl⟩
  have hLL : L.length = 2 := by rw [hL]; rfl
  rw [← hL] at HR HL
  have HLL := Lib.hid hLL
  clear hL hLL V3 V6 HI
  go_wp2_with fail
  go_loopw [11] (fun iv wr => ∃ i : Nat, i ≤ 2 ∧ iv = .int .i64 i ∧ Hid (ArrN wr w6.heap.size L) ∧ Hid (Below w.heap.size w wr)) (fun iv _ => 2 - (intOf iv).toNat)
  case atStart => exact ⟨0, by omega, rfl, HR, HB⟩
  case round =>
    clear HB HR
    obtain ⟨i, hi2, rfl, HR, HB⟩ := hrel
    by_cases hlt : (i : Int) < 2
    · obtain ⟨d7, A7, n7, c7, h⟩ := HR.out.get i (by rw [HLL.out]; omega)
      have hip : (0 : Int) ≤ (i : Int) := Int.natCast_nonneg _
      have ZL := HL.out i (by omega)
      obtain ⟨z, hz⟩ : ∃ z, L[i]?.getD 0 = z := ⟨_, rfl⟩
      rw [hz] at h ZL
      have Z := Lib.hid ZL
      have H7 := Lib.hid h
      clear hz ZL h
      have gH70 := H7.out.c0
      have gH71 := H7.out.c1
      go_wp2_with fail
      refine (wider_any z _ _ H7.out.2.2.2 Z.out).mono ?_
      rintro e w8 ⟨v, rfl, h, b⟩
      obtain ⟨d8, A8, n8, c8, rfl⟩ := h.shape
      clear gH70 gH71
      replace HR := Lib.hid (HR.out.below b)
      replace HB := Lib.hid (bstep HB.out b)
      replace H7 := Lib.hid (H7.out.below b)
      have V8 := Lib.hid h
      clear h b
      have h := HoldI.new V8.out
      have b := al_below w8 (.cells #[.bool d8, .slice A8 n8 c8] 34)
      replace HR := Lib.hid (HR.out.below b)
      replace HB := Lib.hid (bstep HB.out b)
      replace H7 := Lib.hid (H7.out.below b)
      have H8 := Lib.hid h
      clear h b V8
      obtain ⟨r, hr⟩ : ∃ r, (if isI z then z else 0) = r := ⟨_, rfl⟩
      obtain ⟨ok, hok⟩ : ∃ b, isI z = b := ⟨_, rfl⟩
      have RR := Lib.hid hr
      have OK := Lib.hid hok
      clear hr hok
      have gH80 := H8.out.c0
      have gH81 := H8.out.c1
      go_wp2_with fail
      refine (ismall_lim z _ _ H8.out.2 Z.out r ok RR.out OK.out).mono ?_
      rintro e w9 ⟨rfl, b⟩
      clear gH80 gH81
      replace HR := Lib.hid (HR.out.below b)
      replace HB := Lib.hid (bstep HB.out b)
      replace H7 := Lib.hid (H7.out.below b)
      replace H8 := Lib.hid (H8.out.below b)
      clear b
      clear H8
      have gH70 := H7.out.c0
      have gH71 := H7.out.c1
      go_wp2_with fail
      refine (small_lim z _ _ H7.out.2.2.2 Z.out r ok RR.out OK.out).mono ?_
      rintro e w10 ⟨rfl, b⟩
      clear gH70 gH71
      replace HR := Lib.hid (HR.out.below b)
      replace HB := Lib.hid (bstep HB.out b)
      replace H7 := Lib.hid (H7.out.below b)
      clear b
      clear H7
      clear Z RR OK HL
      have ew : IntKind.i64.wrap ((i : Int) + 1) = (i : Int) + 1 := IntWalk.i64_in _ (by omega)
      go_wp2_with fail
      first
        | (go_roundw
           case rel => exact ⟨i + 1, by omega, by go_num, HR, HB⟩
           case measure => simp [intOf]; omega)
        | exact ⟨⟨i + 1, by omega, by go_num, HR, HB⟩, by simp [intOf]; omega⟩
    · clear HR HL HLL
      go_wp2_with fail
      refine (lives_any _).mono ?_
      rintro e w11 ⟨rfl, b⟩
      replace HB := Lib.hid (bstep HB.out b)
      clear b
      go_wp2_with fail
      go_ret
      exact ⟨rfl, HB.out⟩
end Go.Proofs.YtpilpceclmppgaaDoor
