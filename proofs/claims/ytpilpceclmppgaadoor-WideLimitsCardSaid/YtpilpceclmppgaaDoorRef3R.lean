/- Contracts of the reference: Pick, Bound, Number, Near. -/
import Derived.Test.YtpilpceclmppgaaDoorRef3Q
namespace Go.Proofs.YtpilpceclmppgaaDoor
open Go.RowKit
set_option linter.unusedVariables false

/-- a slice of ints as it came in -/
def InI (w : World) (A : Option Addr) (n : Nat) (zs : List Int) : Prop := Sl .i64 w w.heap.size A n zs ∧ ∀ z ∈ zs, -9223372036854775808 ≤ z ∧ z ≤ 9223372036854775807
theorem InI.below {w w' : World} {A : Option Addr} {n : Nat} {zs : List Int} (h : InI w A n zs) (hb : Below w.heap.size w w') : InI w' A n zs := ⟨(h.1.below hb).more hb.size, h.2⟩
def PickPost (m : Int) (w : World) (e : Ending) (w' : World) : Prop := ∃ r, e = .returned (.int .i64 r) ∧ 0 ≤ r ∧ r < m ∧ w = w'
set_option maxHeartbeats 1000000 in
theorem pick_any (A : Option Addr) (n c : Nat) (i m : Int) (zs : List Int) (w : World) (h : InI w A n zs) (hn : n ≤ 9223372036854775807) (hi0 : 0 ≤ i) (hi1 : i ≤ 1000) (h1 : 1 ≤ m) (h2 : m ≤ 1000000000) :
    Calls Tryd.prog 45 #[.slice A n c, .int .i64 i, .int .i64 m] w (PickPost m w) := by
  obtain ⟨k, rfl⟩ := Int.eq_ofNat_of_zero_le hi0
  have hneg : decide ((k : Int) < 0) = false := decide_eq_false (by omega)
  by_cases hlt : k < n
  · have hge : decide ((n : Int) ≤ (k : Int)) = false := decide_eq_false (by omega)
    obtain ⟨b, off, rfl, _, hc⟩ := h.1.at_ (by omega)
    have ck := hc k hlt
    have hz := h.2 (zs[k]?.getD 0) (by rw [List.getElem?_eq_getElem (by rw [h.1.len]; exact hlt)]; exact List.getElem_mem _)
    obtain ⟨z, hzz⟩ : ∃ z, z = zs[k]?.getD 0 := ⟨_, rfl⟩
    rw [← hzz] at ck hz
    have HA := Lib.hid (around_any z m w hz.1 hz.2 h1 (by omega))
    have hbd := aroundI_bd z m h1
    have HF := Lib.hid (show PickPost m w (.returned (.int .i64 (aroundI z m))) w from ⟨_, rfl, hbd.1, hbd.2, rfl⟩)
    clear h hc hz hzz hbd
    go_enter Tryd.func45, Tryd.ntmps45
    go_wp2_with fail
    refine HA.out.mono ?_
    rintro e w1 ⟨rfl, rfl⟩
    go_wp2_with fail
    go_ret
    exact HF.out
  · have hge : decide ((n : Int) ≤ (k : Int)) = true := decide_eq_true (by omega)
    have HF := Lib.hid (show PickPost m w (.returned (.int .i64 0)) w from ⟨_, rfl, by omega, by omega, rfl⟩)
    clear h
    go_enter Tryd.func45, Tryd.ntmps45
    go_wp2_with fail
    go_ret
    exact HF.out
set_option maxHeartbeats 1000000 in
theorem bound_any (n m : Int) (w : World) (h0 : -9223372036854775808 ≤ n) (h1 : n ≤ 9223372036854775807) (h2 : 0 ≤ m) (h3 : m ≤ 1000000) :
    Calls Tryd.prog 35 #[.int .i64 n, .int .i64 m] w fun e w' => e = .returned (.int .i64 (aroundI n (2 * m + 1) - m)) ∧ w = w' := by
  have hbd := aroundI_bd n (2 * m + 1) (by omega)
  have HA := Lib.hid (around_any n (2 * m + 1) w h0 h1 (by omega) (by omega))
  obtain ⟨r, hr⟩ : ∃ r, r = aroundI n (2 * m + 1) := ⟨_, rfl⟩
  rw [← hr] at HA hbd ⊢
  obtain ⟨b0, b1⟩ := hbd
  clear hr
  go_enter Tryd.func35, Tryd.ntmps35
  go_wp2_with fail
  refine HA.out.mono ?_
  rintro e w1 ⟨rfl, rfl⟩
  go_wp2_with fail
  go_ret
  exact ⟨rfl, rfl⟩

/-! ### Number -/
def NumPost (k : Nat) (w : World) (e : Ending) (w' : World) : Prop := ∃ z, Bits k z ∧ NewN z w e w'
def NumS (w : World) (A : Option Addr) (n : Nat) (zs : List Int) (gO : Nat) (z : Int) (wr : World) : Prop := BoxN wr gO z ∧ Blk2 wr w.heap.size 25 (.bool false) (.slice none 0 0) ∧ Sl .i64 wr w.heap.size A n zs ∧ Below w.heap.size w wr
theorem NumS.below {w wr w' : World} {A : Option Addr} {n gO : Nat} {zs : List Int} {z : Int} (h : NumS w A n zs gO z wr) (hb : Below wr.heap.size wr w') : NumS w A n zs gO z w' :=
  ⟨h.1.below hb, h.2.1.below hb, h.2.2.1.below (hb.mono h.2.2.2.size), h.2.2.2.trans (hb.mono h.2.2.2.size)⟩
set_option maxRecDepth 100000 in
set_option maxHeartbeats 8000000 in
theorem number_any (A : Option Addr) (n c : Nat) (at_ : Int) (zs : List Int) (w : World) (h : InI w A n zs) (hn : n ≤ 9223372036854775807) (ha0 : 0 ≤ at_) (ha1 : at_ ≤ 100) :
    Calls Tryd.prog 13 #[.slice A n c, .int .i64 at_] w (NumPost 310 w) := by
  obtain ⟨KB, hKB⟩ : ∃ KB, KB = 310 := ⟨_, rfl⟩
  rw [← hKB]
  have hkb : 310 ≤ KB := by omega
  have hkb2 : KB ≤ 320 := by omega
  clear hKB
  obtain ⟨W, hW, hB, hS, p1, p2⟩ := boxes2 w 25 (.bool false) (.slice none 0 0) (.bool false) (.slice none 0 0)
  have HW := Lib.hid hW
  obtain ⟨gO, hgO⟩ : ∃ gO, gO = w.heap.size + 1 := ⟨_, rfl⟩
  rw [← hgO] at p2
  have HS := Lib.hid (show NumS w A n zs gO 0 W from ⟨⟨false, none, 0, 0, p2, RepN.nil _ _⟩, p1, h.1.below hB, hB⟩)
  have HRG := Lib.hid h.2
  have hgl : w.heap.size < gO := by omega
  have HGO := Lib.hid hgO
  clear h hW hB hS p1 p2 hgO
  go_enter Tryd.func13, Tryd.ntmps13
  go_upto_region 3 with (fail)
  rw [← HW.out, ← HGO.out]
  go_loopw [6] (fun iv wr => ∃ (i : Nat) (z : Int), i ≤ 5 ∧ iv = .int .i64 i ∧ Hid (Bits (304 + i) z) ∧ Hid (NumS w A n zs gO z wr)) (fun iv _ => 5 - (intOf iv).toNat)
  case atStart => exact ⟨0, 0, by omega, rfl, Bits.zero _, HS.out⟩
  case round =>
    clear HS
    obtain ⟨i, z, hi5, rfl, HZ, HS⟩ := hrel
    have HP1 := Lib.hid (pick_any A n c at_ 5 zs wr ⟨HS.out.2.2.1.more HS.out.2.2.2.size, HRG.out⟩ hn ha0 (by omega) (by omega) (by omega))
    go_wp2_with fail
    refine HP1.out.mono ?_
    rintro e w1 h1
    obtain ⟨r, rfl, hr0, hr1, rfl⟩ := h1
    by_cases hlt : (i : Int) < 1 + r
    · have HP2 := Lib.hid (pick_any A n c (at_ + 1 + i) 1000000 zs wr ⟨HS.out.2.2.1.more HS.out.2.2.2.size, HRG.out⟩ hn (by omega) (by omega) (by omega) (by omega))
      clear HP1
      go_wp2_with fail
      refine HP2.out.mono ?_
      rintro e w1 h1
      obtain ⟨q, rfl, hq0, hq1, rfl⟩ := h1
      have t1 : q.tmod 7 = q % 7 := Int.tmod_eq_emod_of_nonneg hq0
      have t2 : q.tdiv 7 = q / 7 := Int.tdiv_eq_ediv_of_nonneg hq0
      have t3 : (q / 7).tmod 5 = q / 7 % 5 := Int.tmod_eq_emod_of_nonneg (by omega)
      have t4 : q.tdiv 35 = q / 35 := Int.tdiv_eq_ediv_of_nonneg hq0
      have t5 : (q / 35).tmod 9 = q / 35 % 9 := Int.tmod_eq_emod_of_nonneg (by omega)
      clear HP2
      go_wp2_with fail
      obtain ⟨P, hP⟩ : ∃ P : Nat, 32 * (q % 7) + q / 7 % 5 * 8 = (P : Int) := ⟨(32 * (q % 7) + q / 7 % 5 * 8).toNat, by omega⟩
      have hP2 : P ≤ 224 := by omega
      rw [hP]
      refine (power_any P wr (by omega)).mono ?_
      rintro e w2 h2
      obtain ⟨v2, rfl, r2, b2⟩ := h2
      obtain ⟨d2, A2, n2, c2, rfl⟩ := r2.shape
      have HS2 := Lib.hid (HS.out.below b2)
      have HR2 := Lib.hid r2
      have HPP := Lib.hid hP
      clear r2 b2 hP
      go_wp2_with fail
      refine (of_any (q / 35 % 9 - 4) w2 (by omega) (by omega)).mono ?_
      rintro e w3 h3
      obtain ⟨v3, rfl, r3, b3⟩ := h3
      obtain ⟨d3, A3, n3, c3, rfl⟩ := r3.shape
      have HS3 := Lib.hid (HS2.out.below b3)
      have HR3 := Lib.hid r3
      have HR23 := Lib.hid ((HR2.out.below b3).more b3.size)
      clear r3 b3 HR2 HS2
      go_wp2_with fail
      refine (mul_any _ _ _ _ w3 HR23.out HR3.out ((bits_pow P).mono (by omega)) ((Bits.i64 (by omega) (by omega)).mono (by omega))).mono ?_
      rintro e w4 h4
      obtain ⟨v4, rfl, r4, b4⟩ := h4
      obtain ⟨d4, A4, n4, c4, rfl⟩ := r4.shape
      obtain ⟨W5, hW5⟩ : ∃ W5, W5 = w4.alloc (.cells #[.bool d4, .slice A4 n4 c4] 25) := ⟨_, rfl⟩
      obtain ⟨gp, hgp⟩ : ∃ gp, gp = w4.heap.size := ⟨_, rfl⟩
      have hal : Below w4.heap.size w4 W5 := by rw [hW5]; exact (Below.refl _ _).alloc (Nat.le_refl _) _
      obtain ⟨Z, hZ⟩ : ∃ Z, Z = 2 ^ P * (q / 35 % 9 - 4) := ⟨_, rfl⟩
      rw [← hZ] at r4
      have hZB : Bits 303 Z := by rw [hZ]; exact ((bits_pow P).mul (Bits.i64 (by omega) (by omega))).mono (by omega)
      have HP5 : Hid (BoxN W5 gp Z) := by rw [hW5, hgp]; exact BoxN.new r4
      have hgop : gO < gp := by rw [hgp]; exact (HS3.out.below b4).1.lt
      have HS5 := Lib.hid ((HS3.out.below b4).below hal)
      have HZB := Lib.hid hZB
      have HW5 := Lib.hid hW5
      have HGP := Lib.hid hgp
      have s1 : q.tdiv 315 = q / 315 := Int.tdiv_eq_ediv_of_nonneg hq0
      have s2 : (q / 315).tmod 5 = q / 315 % 5 := Int.tmod_eq_emod_of_nonneg (by omega)
      have HO6 := Lib.hid (fun w => of_any (q / 315 % 5 - 2) w (by omega) (by omega))
      have HQB := Lib.hid (show Bits 303 (q / 315 % 5 - 2) from (Bits.i64 (by omega) (by omega)).mono (by omega))
      clear r4 b4 hal hW5 hgp hZ hZB HS3 HR23 HR3 t1 t2 t3 t4 t5
      go_upto_region 7 with (fail)
      rw [← HW5.out, ← HGP.out]
      obtain ⟨dO, AO, nO, cO, pO, rO⟩ := HS5.out.1
      obtain ⟨dP, AP, nP, cP, pP, rP⟩ := HP5.out
      have PO := Lib.hid pO
      have RO := Lib.hid rO
      have PP := Lib.hid pP
      have RP := Lib.hid rP
      have x0 := pO.c0
      have x1 := pO.c1
      have y0 := pP.c0
      have y1 := pP.c1
      have g1 : IntKind.i64.wrap (q / 315) = q / 315 := IntWalk.i64_in _ (by omega)
      have g3 : IntKind.i64.wrap (q / 315 % 5 - 2) = q / 315 % 5 - 2 := IntWalk.i64_in _ (by omega)
      clear pO rO pP rP HP5
      go_region_with (first
        | (go_at_call 23
           (with_reducible refine (HO6.out _).mono ?_)
           rintro e w6 h6
           obtain ⟨v6, rfl, r6, b6⟩ := h6
           obtain ⟨d6, A6, n6, c6, rfl⟩ := r6.shape
           have b6 : Below W5.heap.size W5 w6 := by first | exact b6 | exact below_undrew b6
           have HS6 := Lib.hid (HS5.out.below b6)
           have PO6 := Lib.hid (PO.out.below b6)
           have PP6 := Lib.hid (PP.out.below b6)
           have RO6 := Lib.hid ((RO.out.below b6).more b6.size)
           have RP6 := Lib.hid ((RP.out.below b6).more b6.size)
           have RQ6 := Lib.hid r6
           have x60 := PO6.out.c0
           have x61 := PO6.out.c1
           have y60 := PP6.out.c0
           have y61 := PP6.out.c1
           clear r6 b6)
        | (go_at_call 29
           refine (add_any Z (q / 315 % 5 - 2) _ _ _ (by exact RP6.out) (by exact RQ6.out) (HZB.out.mono (by omega)) (HQB.out.mono (by omega))).mono ?_
           rintro e w7 h7
           obtain ⟨v7, rfl, r7, b7⟩ := h7
           obtain ⟨d7, A7, n7, c7, rfl⟩ := r7.shape
           have b7 : Below w6.heap.size w6 w7 := by first | exact b7 | exact below_undrew b7
           have HS7 := Lib.hid (HS6.out.below b7)
           have PO7 := Lib.hid (PO6.out.below b7)
           have RO7 := Lib.hid ((RO6.out.below b7).more b7.size)
           have RQ7 := Lib.hid r7
           have x70 := PO7.out.c0
           have x71 := PO7.out.c1
           clear r7 b7)
        | (go_at_call 29
           refine (add_any z (Z + (q / 315 % 5 - 2)) _ _ _ (by exact RO7.out) (by exact RQ7.out) (HZ.out.mono (by omega)) ((HZB.out.add HQB.out).mono (by omega))).mono ?_
           rintro e w8 h8
           obtain ⟨v8, rfl, r8, b8⟩ := h8
           obtain ⟨d8, A8, n8, c8, rfl⟩ := r8.shape
           have b8 : Below w7.heap.size w7 w8 := by first | exact b8 | exact below_undrew b8
           have HS8 := Lib.hid (HS7.out.below b8)
           have PO8 := Lib.hid (PO7.out.below b8)
           have RQ8 := Lib.hid r8
           have x80 := PO8.out.c0
           have x81 := PO8.out.c1
           have f80 := PO8.out.f0
           have f81 := PO8.out.f1
           clear r8 b8))
      all_goals
        go_wp2
        exact ⟨⟨i + 1, z + (Z + (q / 315 % 5 - 2)), by omega, by go_num, ((HZ.out.add ((HZB.out.add HQB.out).mono (by omega))).mono (by omega)), ⟨BoxN.self RQ8.out PO8.out, HS8.out.2.1.set2 (by omega), HS8.out.2.2.1.below (below_set2 (Below.refl _ _) (by omega)), below_set2 HS8.out.2.2.2 (by omega)⟩⟩, by simp [intOf]; omega⟩
    · obtain ⟨d, A9, n9, c9, pO, rO⟩ := HS.out.1
      have x0 := pO.c0
      have x1 := pO.c1
      have hk := HS.out.2.1
      have f0 := hk.f0
      have f1 := hk.f1
      have u0 := hk.c0
      have u1 := hk.c1
      have HF := Lib.hid (show NumPost KB w (.returned (.agg #[.bool d, .slice A9 n9 c9])) _ from ⟨z, HZ.out.mono (by omega), newN_ret rO hk HS.out.2.2.2 (Nat.le_refl _)⟩)
      clear pO rO hk HP1
      go_wp2_with fail
      exact bodyPost_ret (v := .agg #[.bool d, .slice A9 n9 c9]) (by simp [results, Tryd.results13, go_sem, u0, u1]) rfl HF.out
end Go.Proofs.YtpilpceclmppgaaDoor
