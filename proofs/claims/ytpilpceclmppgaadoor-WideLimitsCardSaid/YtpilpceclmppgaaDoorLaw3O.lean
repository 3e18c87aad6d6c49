/- Layer 3's laws: WideLimits. -/
import Derived.Deep.DeepCutAuto
import Derived.Deep.LoopGhost
import Derived.Test.YtpilpceclmppgaaDoorLaw3Q
namespace Go.Proofs.YtpilpceclmppgaaDoor
open Go.RowKit
set_option linter.unusedVariables false

set_option linter.unusedSimpArgs false
set_option maxRecDepth 100000 in
set_option maxHeartbeats 8000000 in
theorem wideLimits_law (n m k : Int) (w : World) (hi : -9223372036854775808 ≤ n ∧ n ≤ 9223372036854775807) (hm : -9223372036854775808 ≤ m ∧ m ≤ 9223372036854775807) (hk : -9223372036854775808 ≤ k ∧ k ≤ 9223372036854775807) :
    Calls Tryd.prog 11 #[.int .i64 n, .int .i64 m, .int .i64 k] w fun e w' => e = .returned (.bool true) ∧ Below w.heap.size w w' := by
  obtain ⟨i0, i1⟩ := hi
  obtain ⟨m0, m1⟩ := hm
  obtain ⟨k0, k1⟩ := hk
  have HB := Lib.hid (Below.refl w.heap.size w)
  go_enter Tryd.func11, Tryd.ntmps11
  go_wp2_with fail
  refine (near_big n _ i0 i1).mono ?_
  rintro e w1 ⟨z1, hz, v, rfl, h, b⟩
  obtain ⟨d1, A1, n1, c1, rfl⟩ := h.shape
  replace HB := Lib.hid (bstep HB.out b)
  have V1 := Lib.hid h
  have Z1 := Lib.hid (show Bits 16385 z1 from hz.out)
  clear h b hz
  have h := HoldN.new V1.out
  have b := al_below w1 (.cells #[.bool d1, .slice A1 n1 c1] 25)
  replace HB := Lib.hid (bstep HB.out b)
  have H1 := Lib.hid h
  clear h b V1
  have hbb := aroundI_bd k (2 * 3 + 1) (by omega)
  obtain ⟨rb, hrb⟩ : ∃ r, aroundI k (2 * 3 + 1) - 3 = r := ⟨_, rfl⟩
  have HA := bound_any k 3 (w1.alloc (.cells #[.bool d1, .slice A1 n1 c1] 25)) k0 k1 (by omega) (by omega)
  rw [hrb] at HA
  have hrb0 : -3 ≤ rb ∧ rb ≤ 3 := by omega
  have HBD := Lib.hid hrb0
  clear hbb hrb
  go_wp2_with fail
  refine HA.mono ?_
  rintro e w' ⟨rfl, rfl⟩
  clear HA
  go_wp2_with fail
  refine (of_any rb _ (by omega) (by omega)).mono ?_
  rintro e w2 ⟨v, rfl, h, b⟩
  obtain ⟨d2, A2, n2, c2, rfl⟩ := h.shape
  replace HB := Lib.hid (bstep HB.out b)
  replace H1 := Lib.hid (H1.out.below b)
  have V2 := Lib.hid h
  clear h b
  have h := HoldN.new V2.out
  have b := al_below w2 (.cells #[.bool d2, .slice A2 n2 c2] 25)
  replace HB := Lib.hid (bstep HB.out b)
  replace H1 := Lib.hid (H1.out.below b)
  have H2 := Lib.hid h
  clear h b V2
  clear hrb0
  have hb1 := aroundI_bd m 7 (by omega)
  obtain ⟨rc, hrc⟩ : ∃ r, aroundI m 7 = r := ⟨_, rfl⟩
  rw [hrc] at hb1
  have HA := around_any m 7 (w2.alloc (.cells #[.bool d2, .slice A2 n2 c2] 25)) m0 m1 (by omega) (by omega)
  rw [hrc] at HA
  obtain ⟨hc0, hc1⟩ := hb1
  clear hrc
  go_wp2_with fail
  refine HA.mono ?_
  rintro e w' ⟨rfl, rfl⟩
  clear HA
  go_wp2_with fail
  refine (near_at (4 * rc + 2) _ (by omega) (by omega) 2 (by omega) 8192 rfl (by omega)).mono ?_
  rintro e w3 ⟨z3, hz, v, rfl, h, b⟩
  obtain ⟨d3, A3, n3, c3, rfl⟩ := h.shape
  replace HB := Lib.hid (bstep HB.out b)
  replace H1 := Lib.hid (H1.out.below b)
  replace H2 := Lib.hid (H2.out.below b)
  have V3 := Lib.hid h
  have Z3 := Lib.hid (show Bits 8193 z3 from hz.out)
  clear h b hz
  have h := HoldN.new V3.out
  have b := al_below w3 (.cells #[.bool d3, .slice A3 n3 c3] 25)
  replace HB := Lib.hid (bstep HB.out b)
  replace H1 := Lib.hid (H1.out.below b)
  replace H2 := Lib.hid (H2.out.below b)
  have H3 := Lib.hid h
  clear h b V3
  clear hc0 hc1
  obtain ⟨pa, er, hpz, hcase⟩ := lim_text Z1.out
  obtain ⟨E, hE⟩ : ∃ E : Int, (er : Int) = E := ⟨_, rfl⟩
  have HCS := Lib.hid hcase
  have HEE := Lib.hid hE
  have HPZ := Lib.hid hpz
  obtain ⟨T, hT⟩ : ∃ T, strB (decT z1) = T := ⟨_, rfl⟩
  have HTL := Lib.hid (show T.data.toList = decT z1 from by rw [← hT]; exact strB_list _)
  have HTS := Lib.hid (show T.size ≤ maxLen from by rw [← hT]; exact text_size Z1.out)
  have HTT := Lib.hid hT
  clear hpz hcase hE hT
  have gH10 := H1.out.c0
  have gH11 := H1.out.c1
  go_wp2_with fail
  have HX := text_any z1 _ _ H1.out.2 (Bits.mono Z1.out (by omega))
  unfold TextPost at HX
  rw [HTT.out] at HX
  refine (HX).mono ?_
  rintro e w4 ⟨rfl, b⟩
  clear gH10 gH11
  replace HB := Lib.hid (bstep HB.out b)
  replace H1 := Lib.hid (H1.out.below b)
  replace H2 := Lib.hid (H2.out.below b)
  replace H3 := Lib.hid (H3.out.below b)
  clear b
  clear HX
  have HP := iparse_as T (decT z1) HTL.out w4 pa er HPZ.out
  rw [HEE.out] at HP
  go_wp2_with fail
  refine (HP).mono ?_
  rintro e w5 ⟨v, rfl, h, b⟩
  obtain ⟨d5, A5, n5, c5, rfl⟩ := h.shape
  replace HB := Lib.hid (bstep HB.out b)
  replace H1 := Lib.hid (H1.out.below b)
  replace H2 := Lib.hid (H2.out.below b)
  replace H3 := Lib.hid (H3.out.below b)
  have V5 := Lib.hid h
  clear h b
  clear HP
  have h := HoldI.new V5.out
  have b := al_below w5 (.cells #[.bool d5, .slice A5 n5 c5] 34)
  replace HB := Lib.hid (bstep HB.out b)
  replace H1 := Lib.hid (H1.out.below b)
  replace H2 := Lib.hid (H2.out.below b)
  replace H3 := Lib.hid (H3.out.below b)
  have H5 := Lib.hid h
  clear h b V5
  have gH10 := H1.out.c0
  have gH11 := H1.out.c1
  go_wp2_with fail
  have HX := text_any z1 _ _ H1.out.2 (Bits.mono Z1.out (by omega))
  unfold TextPost at HX
  rw [HTT.out] at HX
  refine (HX).mono ?_
  rintro e w6 ⟨rfl, b⟩
  clear gH10 gH11
  replace HB := Lib.hid (bstep HB.out b)
  replace H1 := Lib.hid (H1.out.below b)
  replace H2 := Lib.hid (H2.out.below b)
  replace H3 := Lib.hid (H3.out.below b)
  replace H5 := Lib.hid (H5.out.below b)
  clear b
  clear HX
  have HP := rparse_as T w6 HTS.out pa er (by rw [HTL.out]; exact HPZ.out)
  rw [HEE.out] at HP
  go_wp2_with fail
  refine (HP).mono ?_
  rintro e w7 ⟨v, rfl, h, b⟩
  obtain ⟨d7, A7, n7, c7, rfl⟩ := h.shape
  replace HB := Lib.hid (bstep HB.out b)
  replace H1 := Lib.hid (H1.out.below b)
  replace H2 := Lib.hid (H2.out.below b)
  replace H3 := Lib.hid (H3.out.below b)
  replace H5 := Lib.hid (H5.out.below b)
  have V7 := Lib.hid h
  clear h b
  clear HP
  have h := HoldN.new V7.out
  have b := al_below w7 (.cells #[.bool d7, .slice A7 n7 c7] 25)
  replace HB := Lib.hid (bstep HB.out b)
  replace H1 := Lib.hid (H1.out.below b)
  replace H2 := Lib.hid (H2.out.below b)
  replace H3 := Lib.hid (H3.out.below b)
  replace H5 := Lib.hid (H5.out.below b)
  have H7 := Lib.hid h
  clear h b V7
  clear H7
  have LB := Lib.hid (show (rb.natAbs : Int) < lim from tiny (by have h := HBD.out; have h2 : (4 : Int) ≤ 2 ^ 100 := (by decide); omega))
  have LC := Lib.hid (show (z3.natAbs : Int) < lim from bits_lt Z3.out (by omega))
  have gH20 := H2.out.c0
  have gH21 := H2.out.c1
  go_wp2_with fail
  refine (wider_any rb _ _ H2.out.2 LB.out).mono ?_
  rintro e w8 ⟨v, rfl, h, b⟩
  obtain ⟨d8, A8, n8, c8, rfl⟩ := h.shape
  clear gH20 gH21
  replace HB := Lib.hid (bstep HB.out b)
  replace H1 := Lib.hid (H1.out.below b)
  replace H2 := Lib.hid (H2.out.below b)
  replace H3 := Lib.hid (H3.out.below b)
  replace H5 := Lib.hid (H5.out.below b)
  have V8 := Lib.hid h
  clear h b
  have h := HoldI.new V8.out
  have b := al_below w8 (.cells #[.bool d8, .slice A8 n8 c8] 34)
  replace HB := Lib.hid (bstep HB.out b)
  replace H1 := Lib.hid (H1.out.below b)
  replace H2 := Lib.hid (H2.out.below b)
  replace H3 := Lib.hid (H3.out.below b)
  replace H5 := Lib.hid (H5.out.below b)
  have H8 := Lib.hid h
  clear h b V8
  have gH30 := H3.out.c0
  have gH31 := H3.out.c1
  go_wp2_with fail
  refine (wider_any z3 _ _ H3.out.2 LC.out).mono ?_
  rintro e w9 ⟨v, rfl, h, b⟩
  obtain ⟨d9, A9, n9, c9, rfl⟩ := h.shape
  clear gH30 gH31
  replace HB := Lib.hid (bstep HB.out b)
  replace H1 := Lib.hid (H1.out.below b)
  replace H2 := Lib.hid (H2.out.below b)
  replace H3 := Lib.hid (H3.out.below b)
  replace H5 := Lib.hid (H5.out.below b)
  replace H8 := Lib.hid (H8.out.below b)
  have V9 := Lib.hid h
  clear h b
  have h := HoldI.new V9.out
  have b := al_below w9 (.cells #[.bool d9, .slice A9 n9 c9] 34)
  replace HB := Lib.hid (bstep HB.out b)
  replace H1 := Lib.hid (H1.out.below b)
  replace H2 := Lib.hid (H2.out.below b)
  replace H3 := Lib.hid (H3.out.below b)
  replace H5 := Lib.hid (H5.out.below b)
  replace H8 := Lib.hid (H8.out.below b)
  have H9 := Lib.hid h
  clear h b V9
  rcases HCS.out with ⟨hl, hp, he⟩ | ⟨hl, hp, he⟩
  · have hp2 := hp.symm
    subst hp2
    obtain rfl : E = 0 := by rw [← HEE.out, he]; rfl
    have LA := Lib.hid hl
    clear hl he HCS HEE HPZ HTL HTS HTT
    have gH50 := H5.out.c0
    have gH51 := H5.out.c1
    have gH80 := H8.out.c0
    have gH81 := H8.out.c1
    go_wp2_with fail
    refine (iadd_any z1 rb _ _ _ H5.out.2 H8.out.2 LA.out LB.out).mono ?_
    rintro e w10 ⟨v, rfl, h, b⟩
    obtain ⟨d10, A10, n10, c10, rfl⟩ := h.shape
    clear gH50 gH51 gH80 gH81
    replace HB := Lib.hid (bstep HB.out b)
    replace H1 := Lib.hid (H1.out.below b)
    replace H2 := Lib.hid (H2.out.below b)
    replace H3 := Lib.hid (H3.out.below b)
    replace H5 := Lib.hid (H5.out.below b)
    replace H8 := Lib.hid (H8.out.below b)
    replace H9 := Lib.hid (H9.out.below b)
    have V10 := Lib.hid h
    clear h b
    have h := HoldI.new V10.out
    have b := al_below w10 (.cells #[.bool d10, .slice A10 n10 c10] 34)
    replace HB := Lib.hid (bstep HB.out b)
    replace H1 := Lib.hid (H1.out.below b)
    replace H2 := Lib.hid (H2.out.below b)
    replace H3 := Lib.hid (H3.out.below b)
    replace H5 := Lib.hid (H5.out.below b)
    replace H8 := Lib.hid (H8.out.below b)
    replace H9 := Lib.hid (H9.out.below b)
    have H10 := Lib.hid h
    clear h b V10
    have gH50 := H5.out.c0
    have gH51 := H5.out.c1
    have gH80 := H8.out.c0
    have gH81 := H8.out.c1
    go_wp2_with fail
    refine (isub_any z1 rb _ _ _ H5.out.2 H8.out.2 LA.out LB.out).mono ?_
    rintro e w11 ⟨v, rfl, h, b⟩
    obtain ⟨d11, A11, n11, c11, rfl⟩ := h.shape
    clear gH50 gH51 gH80 gH81
    replace HB := Lib.hid (bstep HB.out b)
    replace H1 := Lib.hid (H1.out.below b)
    replace H2 := Lib.hid (H2.out.below b)
    replace H3 := Lib.hid (H3.out.below b)
    replace H5 := Lib.hid (H5.out.below b)
    replace H8 := Lib.hid (H8.out.below b)
    replace H9 := Lib.hid (H9.out.below b)
    replace H10 := Lib.hid (H10.out.below b)
    have V11 := Lib.hid h
    clear h b
    have h := HoldI.new V11.out
    have b := al_below w11 (.cells #[.bool d11, .slice A11 n11 c11] 34)
    replace HB := Lib.hid (bstep HB.out b)
    replace H1 := Lib.hid (H1.out.below b)
    replace H2 := Lib.hid (H2.out.below b)
    replace H3 := Lib.hid (H3.out.below b)
    replace H5 := Lib.hid (H5.out.below b)
    replace H8 := Lib.hid (H8.out.below b)
    replace H9 := Lib.hid (H9.out.below b)
    replace H10 := Lib.hid (H10.out.below b)
    have H11 := Lib.hid h
    clear h b V11
    have gH50 := H5.out.c0
    have gH51 := H5.out.c1
    have gH80 := H8.out.c0
    have gH81 := H8.out.c1
    go_wp2_with fail
    refine (imul_any z1 rb _ _ _ H5.out.2 H8.out.2 LA.out LB.out).mono ?_
    rintro e w12 ⟨v, rfl, h, b⟩
    obtain ⟨d12, A12, n12, c12, rfl⟩ := h.shape
    clear gH50 gH51 gH80 gH81
    replace HB := Lib.hid (bstep HB.out b)
    replace H1 := Lib.hid (H1.out.below b)
    replace H2 := Lib.hid (H2.out.below b)
    replace H3 := Lib.hid (H3.out.below b)
    replace H5 := Lib.hid (H5.out.below b)
    replace H8 := Lib.hid (H8.out.below b)
    replace H9 := Lib.hid (H9.out.below b)
    replace H10 := Lib.hid (H10.out.below b)
    replace H11 := Lib.hid (H11.out.below b)
    have V12 := Lib.hid h
    clear h b
    have h := HoldI.new V12.out
    have b := al_below w12 (.cells #[.bool d12, .slice A12 n12 c12] 34)
    replace HB := Lib.hid (bstep HB.out b)
    replace H1 := Lib.hid (H1.out.below b)
    replace H2 := Lib.hid (H2.out.below b)
    replace H3 := Lib.hid (H3.out.below b)
    replace H5 := Lib.hid (H5.out.below b)
    replace H8 := Lib.hid (H8.out.below b)
    replace H9 := Lib.hid (H9.out.below b)
    replace H10 := Lib.hid (H10.out.below b)
    replace H11 := Lib.hid (H11.out.below b)
    have H12 := Lib.hid h
    clear h b V12
    have gH90 := H9.out.c0
    have gH91 := H9.out.c1
    go_wp2_with fail
    refine (imul_any z3 z3 _ _ _ H9.out.2 H9.out.2 LC.out LC.out).mono ?_
    rintro e w13 ⟨v, rfl, h, b⟩
    obtain ⟨d13, A13, n13, c13, rfl⟩ := h.shape
    clear gH90 gH91
    replace HB := Lib.hid (bstep HB.out b)
    replace H1 := Lib.hid (H1.out.below b)
    replace H2 := Lib.hid (H2.out.below b)
    replace H3 := Lib.hid (H3.out.below b)
    replace H5 := Lib.hid (H5.out.below b)
    replace H8 := Lib.hid (H8.out.below b)
    replace H9 := Lib.hid (H9.out.below b)
    replace H10 := Lib.hid (H10.out.below b)
    replace H11 := Lib.hid (H11.out.below b)
    replace H12 := Lib.hid (H12.out.below b)
    have V13 := Lib.hid h
    clear h b
    have h := HoldI.new V13.out
    have b := al_below w13 (.cells #[.bool d13, .slice A13 n13 c13] 34)
    replace HB := Lib.hid (bstep HB.out b)
    replace H1 := Lib.hid (H1.out.below b)
    replace H2 := Lib.hid (H2.out.below b)
    replace H3 := Lib.hid (H3.out.below b)
    replace H5 := Lib.hid (H5.out.below b)
    replace H8 := Lib.hid (H8.out.below b)
    replace H9 := Lib.hid (H9.out.below b)
    replace H10 := Lib.hid (H10.out.below b)
    replace H11 := Lib.hid (H11.out.below b)
    replace H12 := Lib.hid (H12.out.below b)
    have H13 := Lib.hid h
    clear h b V13
    clear H5
    clear H8
    clear H9
    have gH100 := H10.out.c0
    have gH101 := H10.out.c1
    have gH110 := H11.out.c0
    have gH111 := H11.out.c1
    have gH120 := H12.out.c0
    have gH121 := H12.out.c1
    have gH130 := H13.out.c0
    have gH131 := H13.out.c1
    have HG := Lib.hid (ArrI.new4 34 H10.out.2 H11.out.2 H12.out.2 H13.out.2)
    have b := al_below (w13.alloc (.cells #[.bool d13, .slice A13 n13 c13] 34)) (.cells #[.bool d10, .slice A10 n10 c10, .bool d11, .slice A11 n11 c11, .bool d12, .slice A12 n12 c12, .bool d13, .slice A13 n13 c13] 34)
    replace HB := Lib.hid (bstep HB.out b)
    replace H1 := Lib.hid (H1.out.below b)
    replace H2 := Lib.hid (H2.out.below b)
    replace H3 := Lib.hid (H3.out.below b)
    clear b H10 H11 H12 H13
    have HU := Lib.hid (ArrU.new4 ((w13.alloc (.cells #[.bool d13, .slice A13 n13 c13] 34)).alloc (.cells #[.bool d10, .slice A10 n10 c10, .bool d11, .slice A11 n11 c11, .bool d12, .slice A12 n12 c12, .bool d13, .slice A13 n13 c13] 34)) 35 (fitE (z1 + rb)) (fitE (z1 - rb)) (fitE (z1 * rb)) (fitE (z3 * z3)))
    have b := al_below ((w13.alloc (.cells #[.bool d13, .slice A13 n13 c13] 34)).alloc (.cells #[.bool d10, .slice A10 n10 c10, .bool d11, .slice A11 n11 c11, .bool d12, .slice A12 n12 c12, .bool d13, .slice A13 n13 c13] 34)) (.cells #[.int .i64 (fitE (z1 + rb)), .int .i64 (fitE (z1 - rb)), .int .i64 (fitE (z1 * rb)), .int .i64 (fitE (z3 * z3))] 35)
    replace HB := Lib.hid (bstep HB.out b)
    replace H1 := Lib.hid (H1.out.below b)
    replace H2 := Lib.hid (H2.out.below b)
    replace H3 := Lib.hid (H3.out.below b)
    replace HG := Lib.hid (HG.out.below b)
    clear b
    obtain ⟨W18, hW⟩ : ∃ W, W = (((w13.alloc (.cells #[.bool d13, .slice A13 n13 c13] 34)).alloc (.cells #[.bool d10, .slice A10 n10 c10, .bool d11, .slice A11 n11 c11, .bool d12, .slice A12 n12 c12, .bool d13, .slice A13 n13 c13] 34)).alloc (.cells #[.int .i64 (fitE (z1 + rb)), .int .i64 (fitE (z1 - rb)), .int .i64 (fitE (z1 * rb)), .int .i64 (fitE (z3 * z3))] 35)) := ⟨_, rfl⟩
    have HW := Lib.hid hW
    rw [← hW] at HG HU HB H1 H2 H3
    rw [World.size_alloc] at HG
    rw [World.size_alloc, World.size_alloc] at HU
    clear hW
    go_upto_region 18 with (fail)
    rw [← HW.out]
    clear HW
    clear gH100 gH101 gH110 gH111 gH120 gH121 gH130 gH131
    have KP := Lib.hid (show ∀ W, Below W18.heap.size W18 W → W.cell? ⟨w1.heap.size, 0, none⟩ = some (.bool d1) ∧ W.cell? ⟨w1.heap.size, 1, none⟩ = some (.slice A1 n1 c1) ∧ W.cell? ⟨w2.heap.size, 0, none⟩ = some (.bool d2) ∧ W.cell? ⟨w2.heap.size, 1, none⟩ = some (.slice A2 n2 c2) ∧ W.cell? ⟨w3.heap.size, 0, none⟩ = some (.bool d3) ∧ W.cell? ⟨w3.heap.size, 1, none⟩ = some (.slice A3 n3 c3) ∧ Below W18.heap.size W18 W from fun W hb => ⟨cell_below (H1.out.c0) hb, cell_below (H1.out.c1) hb, cell_below (H2.out.c0) hb, cell_below (H2.out.c1) hb, cell_below (H3.out.c0) hb, cell_below (H3.out.c1) hb, hb⟩)
    have BA := Lib.hid (show Bits 20000 z1 from Bits.mono Z1.out (by omega))
    have BR := Lib.hid (show Bits 64 rb from Bits.i64 (by have h := HBD.out; omega) (by have h := HBD.out; omega))
    have BC := Lib.hid (show Bits 8193 z3 from Z3.out)
    go_region_held3 (fun w' => w'.cell? ⟨w1.heap.size, 0, none⟩ = some (.bool d1) ∧ w'.cell? ⟨w1.heap.size, 1, none⟩ = some (.slice A1 n1 c1) ∧ w'.cell? ⟨w2.heap.size, 0, none⟩ = some (.bool d2) ∧ w'.cell? ⟨w2.heap.size, 1, none⟩ = some (.slice A2 n2 c2) ∧ w'.cell? ⟨w3.heap.size, 0, none⟩ = some (.bool d3) ∧ w'.cell? ⟨w3.heap.size, 1, none⟩ = some (.slice A3 n3 c3) ∧ Below W18.heap.size W18 w')
      (first | with_reducible exact KP.out _ (Below.refl _ _) | with_reducible exact KP.out _ (below_drew (Below.refl _ _)) | with_reducible exact KP.out _ ((by first | assumption | exact And.right (And.right (And.right (And.right (And.right (And.right (by assumption)))))))) | with_reducible exact KP.out _ (below_drew (by first | assumption | exact And.right (And.right (And.right (And.right (And.right (And.right (by assumption)))))))) | with_reducible exact KP.out _ (bal (by first | assumption | exact And.right (And.right (And.right (And.right (And.right (And.right (by assumption))))))) _) | with_reducible exact KP.out _ (bal (Below.refl _ _) _) | with_reducible exact KP.out _ (below_drew (bal (Below.refl _ _) _)) | with_reducible exact KP.out _ (bal (bal (Below.refl _ _) _) _) | with_reducible exact KP.out _ (below_drew (bal (bal (Below.refl _ _) _) _)) | with_reducible exact KP.out _ (below_drew (below_drew (bal (bal (Below.refl _ _) _) _))) | with_reducible exact KP.out _ (below_off (by first | assumption | exact And.right (And.right (And.right (And.right (And.right (And.right (by assumption))))))) (by omega)))
      (first
        | (go_at_call 29
           with_reducible show Calls Tryd.prog 29 #[.agg #[.bool d1, .slice A1 n1 c1], .agg #[.bool d2, .slice A2 n2 c2]] _ _
           refine (add_any z1 rb _ _ _ (H1.out.2.step (by first | assumption | exact And.right (And.right (And.right (And.right (And.right (And.right (by assumption)))))))) (H2.out.2.step (by first | assumption | exact And.right (And.right (And.right (And.right (And.right (And.right (by assumption)))))))) (Bits.mono BA.out (by omega)) (Bits.mono BR.out (by omega))).mono ?_
           rintro e wq1 ⟨v, rfl, hv1, b1⟩
           obtain ⟨d901, A901, n901, c901, rfl⟩ := hv1.shape
           have hb1 : Below W18.heap.size W18 wq1 := bstep (by first | assumption | exact And.right (And.right (And.right (And.right (And.right (And.right (by assumption))))))) b1)
        | (go_at_call 30
           with_reducible show Calls Tryd.prog 30 #[.agg #[.bool d1, .slice A1 n1 c1], .agg #[.bool d2, .slice A2 n2 c2]] _ _
           refine (sub_any z1 rb _ _ _ (H1.out.2.step (by first | assumption | exact And.right (And.right (And.right (And.right (And.right (And.right (by assumption)))))))) (H2.out.2.step (by first | assumption | exact And.right (And.right (And.right (And.right (And.right (And.right (by assumption)))))))) (Bits.mono BA.out (by omega)) (Bits.mono BR.out (by omega))).mono ?_
           rintro e wq2 ⟨v, rfl, hv2, b2⟩
           obtain ⟨d902, A902, n902, c902, rfl⟩ := hv2.shape
           have hv12 := hv1.step b2
           have hb2 : Below W18.heap.size W18 wq2 := bstep (by first | assumption | exact And.right (And.right (And.right (And.right (And.right (And.right (by assumption))))))) b2)
        | (go_at_call 32
           with_reducible show Calls Tryd.prog 32 #[.agg #[.bool d1, .slice A1 n1 c1], .agg #[.bool d2, .slice A2 n2 c2]] _ _
           refine (mul_any z1 rb _ _ _ (H1.out.2.step (by first | assumption | exact And.right (And.right (And.right (And.right (And.right (And.right (by assumption)))))))) (H2.out.2.step (by first | assumption | exact And.right (And.right (And.right (And.right (And.right (And.right (by assumption)))))))) (Bits.mono BA.out (by omega)) (Bits.mono BR.out (by omega))).mono ?_
           rintro e wq3 ⟨v, rfl, hv3, b3⟩
           obtain ⟨d903, A903, n903, c903, rfl⟩ := hv3.shape
           have hv13 := hv12.step b3
           have hv23 := hv2.step b3
           have hb3 : Below W18.heap.size W18 wq3 := bstep (by first | assumption | exact And.right (And.right (And.right (And.right (And.right (And.right (by assumption))))))) b3)
        | (go_at_call 32
           with_reducible show Calls Tryd.prog 32 #[.agg #[.bool d3, .slice A3 n3 c3], .agg #[.bool d3, .slice A3 n3 c3]] _ _
           refine (mul_any z3 z3 _ _ _ (H3.out.2.step (by first | assumption | exact And.right (And.right (And.right (And.right (And.right (And.right (by assumption)))))))) (H3.out.2.step (by first | assumption | exact And.right (And.right (And.right (And.right (And.right (And.right (by assumption)))))))) (Bits.mono BC.out (by omega)) (Bits.mono BC.out (by omega))).mono ?_
           rintro e wq4 ⟨v, rfl, hv4, b4⟩
           obtain ⟨d904, A904, n904, c904, rfl⟩ := hv4.shape
           have hv14 := hv13.step b4
           have hv24 := hv23.step b4
           have hv34 := hv3.step b4
           have hb4 : Below W18.heap.size W18 wq4 := bstep (by first | assumption | exact And.right (And.right (And.right (And.right (And.right (And.right (by assumption))))))) b4))
    have hal := al_below wq4 (.cells #[.bool d901, .slice A901 n901 c901, .bool d902, .slice A902 n902 c902, .bool d903, .slice A903 n903 c903, .bool d904, .slice A904 n904 c904] 25)
    have HR := Lib.hid (ArrN.new4 25 hv14 hv24 hv34 hv4)
    have hbn := bstep hb4 hal
    replace HG := Lib.hid (HG.out.below hbn)
    replace HU := Lib.hid (HU.out.below hbn)
    replace HB := Lib.hid (bstep HB.out hbn)
    have HL := Lib.hid (show ∀ i < 4, InB ([z1 + rb, z1 - rb, z1 * rb, z3 * z3][i]?.getD 0) from fun i hi => all_four (P := InB) (show InB (z1 + rb) from Bits.mono (Bits.add (show Bits 16385 z1 from Z1.out) (Bits.mono BR.out (by omega))) (by omega)) (show InB (z1 - rb) from Bits.mono (Bits.sub (show Bits 16385 z1 from Z1.out) (Bits.mono BR.out (by omega))) (by omega)) (show InB (z1 * rb) from Bits.mono (Bits.mul (show Bits 16385 z1 from Z1.out) BR.out) (by omega)) (show InB (z3 * z3) from Bits.mono (Bits.mul BC.out BC.out) (by omega)) i hi)
    obtain ⟨L, hL⟩ : ∃ L, L = [z1 + rb, z1 - rb, z1 * rb, z3 * z3] := ⟨_, rfl⟩
    have hLL : L.length = 4 := by rw [hL]; rfl
    replace HG := Lib.hid (show ArrI (wq4.alloc (.cells #[.bool d901, .slice A901 n901 c901, .bool d902, .slice A902 n902 c902, .bool d903, .slice A903 n903 c903, .bool d904, .slice A904 n904 c904] 25)) (w13.heap.size + 1) ([z1 + rb, z1 - rb, z1 * rb, z3 * z3].map fitI) from HG.out)
    replace HU := Lib.hid (show ArrU (wq4.alloc (.cells #[.bool d901, .slice A901 n901 c901, .bool d902, .slice A902 n902 c902, .bool d903, .slice A903 n903 c903, .bool d904, .slice A904 n904 c904] 25)) (w13.heap.size + 1 + 1) ([z1 + rb, z1 - rb, z1 * rb, z3 * z3].map fitE) from HU.out)
    rw [← hL] at HR HL HG HU
    have HLL := Lib.hid hLL
    clear hL hLL hal hbn hv1 hv12 hv13 hv14 hv2 hv23 hv24 hv3 hv34 hv4 b1 b2 b3 b4 hb1 hb2 hb3 hb4 KP BA BR BC H1 H2 H3 LA LB LC HBD
    go_wp2_with fail
    go_loopg [29] 4 (fun gk iv wr => ∃ i : Nat, gk + i = 4 ∧ iv = .int .i64 i ∧ Hid (ArrN wr wq4.heap.size L) ∧ Hid (ArrI wr (w13.heap.size + 1) (L.map fitI)) ∧ Hid (ArrU wr (w13.heap.size + 1 + 1) (L.map fitE)) ∧ Hid (Below w.heap.size w wr))
    case atStart => exact ⟨0, by omega, rfl, HR, HG, HU, HB⟩
    case round =>
      clear HB HR HG HU
      obtain ⟨i, hgi, rfl, HR, HG, HU, HB⟩ := hrel
      by_cases hlt : (i : Int) < 4
      · obtain ⟨d1, A1, n1, c1, h⟩ := HR.out.get i (by rw [HLL.out]; omega)
        obtain ⟨d2, A2, n2, c2, h2⟩ := HG.out.get i (by rw [List.length_map, HLL.out]; omega)
        have h3 := HU.out.2 i (by rw [List.length_map, HLL.out]; omega)
        rw [map_get _ _ _ (by rw [HLL.out]; omega)] at h2 h3
        have hip : (0 : Int) ≤ (i : Int) := Int.natCast_nonneg _
        have ew : IntKind.i64.wrap ((i : Int) + 1) = (i : Int) + 1 := IntWalk.i64_in _ (by omega)
        have ZL := HL.out i (by omega)
        obtain ⟨z, hz⟩ : ∃ z, L[i]?.getD 0 = z := ⟨_, rfl⟩
        rw [hz] at h h2 h3 ZL
        have Z := Lib.hid ZL
        have HE := Lib.hid h
        have HF := Lib.hid h2
        have HC := Lib.hid (And.intro HU.out.1 h3)
        clear hz ZL h h2 h3 HL
        by_cases hv : (z.natAbs : Int) < lim
        · have HV := Lib.hid hv
          have HQ := fits_any z _ wr HE.out.2.2.2 Z.out.fits
          rw [decide_eq_true hv] at HQ
          unfold FitsPost at HQ
          clear hv
          rw [(fit_in HV.out).1] at HF
          rw [(fit_in HV.out).2] at HC
          have gHE0 := HE.out.c0
          have gHE1 := HE.out.c1
          go_wp2_with fail
          refine HQ.mono ?_
          rintro e w14 ⟨rfl, b⟩
          clear HQ
          clear gHE0 gHE1
          have HC3 := Lib.hid (And.intro (Nat.lt_of_lt_of_le HC.out.1 b.size) (cell_below HC.out.2 b))
          replace HR := Lib.hid (HR.out.below b)
          replace HG := Lib.hid (HG.out.below b)
          replace HU := Lib.hid (HU.out.below b)
          replace HB := Lib.hid (bstep HB.out b)
          replace HE := Lib.hid (HE.out.below b)
          replace HF := Lib.hid (HF.out.below b)
          clear b HC
          have KP := Lib.hid (show ∀ W, Below w14.heap.size w14 W → W.cell? ⟨(w13.heap.size + 1 + 1), i, none⟩ = some (.int .i64 0) ∧ W.cell? ⟨(w13.heap.size + 1), i * 2, none⟩ = some (.bool d2) ∧ W.cell? ⟨(w13.heap.size + 1), i * 2 + 1, none⟩ = some (.slice A2 n2 c2) ∧ W.cell? ⟨wq4.heap.size, i * 2, none⟩ = some (.bool d1) ∧ W.cell? ⟨wq4.heap.size, i * 2 + 1, none⟩ = some (.slice A1 n1 c1) ∧ Below w14.heap.size w14 W from fun W hb => ⟨cell_below (HC3.out.2) hb, cell_below (HF.out.c0) hb, cell_below (HF.out.c1) hb, cell_below (HE.out.c0) hb, cell_below (HE.out.c1) hb, hb⟩)
          go_upto_region 23 with (fail)
          refine wp_region_noPanic ?_
          refine wp_region_held_drew (S := (fun w' => w'.cell? ⟨(w13.heap.size + 1 + 1), i, none⟩ = some (.int .i64 0) ∧ w'.cell? ⟨(w13.heap.size + 1), i * 2, none⟩ = some (.bool d2) ∧ w'.cell? ⟨(w13.heap.size + 1), i * 2 + 1, none⟩ = some (.slice A2 n2 c2) ∧ w'.cell? ⟨wq4.heap.size, i * 2, none⟩ = some (.bool d1) ∧ w'.cell? ⟨wq4.heap.size, i * 2 + 1, none⟩ = some (.slice A1 n1 c1) ∧ Below w14.heap.size w14 w')) (by kernel_rfl) (KP.out _ (below_drew (Below.refl _ _))) (fun hHeld => ?_)
          refine' wpAnyH_take (i := 0) (oi := { dst := some 138, op := Op.move (Operand.tmp 30), type := 4, pos := "law.go:200", after := #[], guard := none }) (v := _) rfl (by kernel_rfl) (by kernel_rfl) (by kernel_rfl) (fun _ _ _ h => h) (Or.inl ⟨by rfl, ?hya0⟩) (by assumption) ?resta0
          case hya0 =>
            intro w hSw
            try dsimp only at hSw
            go_simp
            try with_reducible rfl
          try simp only [Act.put, List.setIfInBounds_toArray, List.set_cons_zero, List.set_cons_succ]
          refine' wpAnyH_take (i := 1) (oi := { dst := some 139, op := Op.move (Operand.tmp 27), type := 68, pos := "law.go:200", after := #[], guard := none }) (v := _) rfl (by kernel_rfl) (by kernel_rfl) (by kernel_rfl) (fun _ _ _ h => h) (Or.inl ⟨by rfl, ?hya1⟩) (by assumption) ?resta1
          case hya1 =>
            intro w hSw
            try dsimp only at hSw
            go_simp
            try with_reducible rfl
          try simp only [Act.put, List.setIfInBounds_toArray, List.set_cons_zero, List.set_cons_succ]
          refine' wpAnyH_take (i := 2) (oi := { dst := some 140, op := Op.move (Operand.tmp 29), type := 3, pos := "law.go:200", after := #[], guard := none }) (v := _) rfl (by kernel_rfl) (by kernel_rfl) (by kernel_rfl) (fun _ _ _ h => h) (Or.inl ⟨by rfl, ?hya2⟩) (by assumption) ?resta2
          case hya2 =>
            intro w hSw
            try dsimp only at hSw
            go_simp
            try with_reducible rfl
          try simp only [Act.put, List.setIfInBounds_toArray, List.set_cons_zero, List.set_cons_succ]
          refine' wpAnyH_take (i := 3) (oi := { dst := some 141, op := Op.indexAddr 68 (Operand.tmp 139) (Operand.tmp 140), type := 0, pos := "law.go:200", after := #[{ on := 1, ground := Ground.data }, { on := 2, ground := Ground.data }], guard := none }) (v := _) rfl (by kernel_rfl) (by kernel_rfl) (by kernel_rfl) (fun _ _ _ h => h) (Or.inl ⟨by rfl, ?hya3⟩) (by assumption) ?resta3
          case hya3 =>
            intro w hSw
            try dsimp only at hSw
            go_simp
            try with_reducible rfl
          try simp only [Act.put, List.setIfInBounds_toArray, List.set_cons_zero, List.set_cons_succ]
          refine' wpAnyH_take (i := 4) (oi := { dst := some 142, op := Op.load 35 (Operand.tmp 141), type := 35, pos := "law.go:200", after := #[{ on := 3, ground := Ground.data }], guard := none }) (v := _) rfl (by kernel_rfl) (by kernel_rfl) (by kernel_rfl) (fun _ _ _ h => h) (Or.inl ⟨by rfl, ?hya4⟩) (by assumption) ?resta4
          case hya4 =>
            intro w hSw
            try dsimp only at hSw
            go_simp
            try with_reducible rfl
          try simp only [Act.put, List.setIfInBounds_toArray, List.set_cons_zero, List.set_cons_succ]
          refine' wpAnyH_take (i := 5) (oi := { dst := some 143, op := Op.binOp BinOp.eql 35 (Operand.tmp 142) (Operand.const (Value.int IntKind.i64 0)) 35, type := 4, pos := "law.go:200", after := #[{ on := 4, ground := Ground.data }], guard := none }) (v := _) rfl (by kernel_rfl) (by kernel_rfl) (by kernel_rfl) (fun _ _ _ h => h) (Or.inl ⟨by rfl, ?hya5⟩) (by assumption) ?resta5
          case hya5 =>
            intro w hSw
            try dsimp only at hSw
            go_simp
            try with_reducible rfl
          try simp only [Act.put, List.setIfInBounds_toArray, List.set_cons_zero, List.set_cons_succ]
          refine' wpAnyH_take (i := 6) (oi := { dst := some 144, op := Op.binOp BinOp.neq 4 (Operand.tmp 138) (Operand.tmp 143) 4, type := 4, pos := "law.go:200", after := #[{ on := 0, ground := Ground.data }, { on := 5, ground := Ground.data }], guard := none }) (v := _) rfl (by kernel_rfl) (by kernel_rfl) (by kernel_rfl) (fun _ _ _ h => h) (Or.inl ⟨by rfl, ?hya6⟩) (by assumption) ?resta6
          case hya6 =>
            intro w hSw
            try dsimp only at hSw
            go_simp
            try with_reducible rfl
          try simp only [Act.put, List.setIfInBounds_toArray, List.set_cons_zero, List.set_cons_succ]
          refine' wpAnyH_take (i := 7) (oi := { dst := some 145, op := Op.move (Operand.tmp 144), type := 4, pos := "law.go:200", after := #[{ on := 6, ground := Ground.data }], guard := none }) (v := _) rfl (by kernel_rfl) (by kernel_rfl) (by kernel_rfl) (fun _ _ _ h => h) (Or.inl ⟨by rfl, ?hya7⟩) (by assumption) ?resta7
          case hya7 =>
            intro w hSw
            try dsimp only at hSw
            go_simp
            try with_reducible rfl
          try simp only [Act.put, List.setIfInBounds_toArray, List.set_cons_zero, List.set_cons_succ]
          refine' wpAnyH_take (i := 8) (oi := { dst := some 146, op := Op.move (Operand.tmp 30), type := 4, pos := "law.go:200", after := #[{ on := 7, ground := Ground.guard }], guard := some (7, false) }) (v := _) rfl (by kernel_rfl) (by kernel_rfl) (by kernel_rfl) (fun _ _ _ h => h) (Or.inl ⟨by rfl, ?hya8⟩) (by assumption) ?resta8
          case hya8 =>
            intro w hSw
            try dsimp only at hSw
            go_simp
            try with_reducible rfl
          try simp only [Act.put, List.setIfInBounds_toArray, List.set_cons_zero, List.set_cons_succ]
          refine' wpAnyH_take (i := 9) (oi := { dst := some 147, op := Op.unOp UnOp.not 4 (Operand.tmp 146), type := 4, pos := "law.go:200", after := #[{ on := 8, ground := Ground.data }, { on := 7, ground := Ground.guard }], guard := some (7, false) }) (v := _) rfl (by kernel_rfl) (by kernel_rfl) (by kernel_rfl) (fun _ _ _ h => h) (Or.inl ⟨by rfl, ?hya9⟩) (by assumption) ?resta9
          case hya9 =>
            intro w hSw
            try dsimp only at hSw
            go_simp
            try with_reducible rfl
          try simp only [Act.put, List.setIfInBounds_toArray, List.set_cons_zero, List.set_cons_succ]
          refine' wpAnyH_take (i := 10) (oi := { dst := some 148, op := Op.move (Operand.tmp 147), type := 4, pos := "law.go:200", after := #[{ on := 9, ground := Ground.data }, { on := 7, ground := Ground.chain }, { on := 7, ground := Ground.guard }], guard := some (7, false) }) (v := _) rfl (by kernel_rfl) (by kernel_rfl) (by kernel_rfl) (fun _ _ _ h => h) (Or.inl ⟨by rfl, ?hya10⟩) (by assumption) ?resta10
          case hya10 =>
            intro w hSw
            try dsimp only at hSw
            go_simp
            try with_reducible rfl
          try simp only [Act.put, List.setIfInBounds_toArray, List.set_cons_zero, List.set_cons_succ]
          refine wpAnyH_take (i := 11) (oi := { dst := some 149, op := Op.move (Operand.tmp 27), type := 68, pos := "law.go:200", after := #[{ on := 10, ground := Ground.guard }], guard := some (10, true) }) (v := undef) rfl (by kernel_rfl) (by kernel_rfl) (by kernel_rfl) (fun _ _ _ h => h) (Or.inr ⟨by rfl, rfl⟩) (by assumption) ?_
          try simp only [Act.put, List.setIfInBounds_toArray, List.set_cons_zero, List.set_cons_succ]
          refine wpAnyH_take (i := 12) (oi := { dst := some 150, op := Op.move (Operand.tmp 29), type := 3, pos := "law.go:200", after := #[{ on := 10, ground := Ground.guard }], guard := some (10, true) }) (v := undef) rfl (by kernel_rfl) (by kernel_rfl) (by kernel_rfl) (fun _ _ _ h => h) (Or.inr ⟨by rfl, rfl⟩) (by assumption) ?_
          try simp only [Act.put, List.setIfInBounds_toArray, List.set_cons_zero, List.set_cons_succ]
          refine wpAnyH_take (i := 13) (oi := { dst := some 151, op := Op.indexAddr 68 (Operand.tmp 149) (Operand.tmp 150), type := 0, pos := "law.go:200", after := #[{ on := 11, ground := Ground.data }, { on := 12, ground := Ground.data }, { on := 10, ground := Ground.guard }], guard := some (10, true) }) (v := undef) rfl (by kernel_rfl) (by kernel_rfl) (by kernel_rfl) (fun _ _ _ h => h) (Or.inr ⟨by rfl, rfl⟩) (by assumption) ?_
          try simp only [Act.put, List.setIfInBounds_toArray, List.set_cons_zero, List.set_cons_succ]
          refine wpAnyH_take (i := 14) (oi := { dst := some 152, op := Op.load 35 (Operand.tmp 151), type := 35, pos := "law.go:200", after := #[{ on := 13, ground := Ground.data }, { on := 10, ground := Ground.guard }], guard := some (10, true) }) (v := undef) rfl (by kernel_rfl) (by kernel_rfl) (by kernel_rfl) (fun _ _ _ h => h) (Or.inr ⟨by rfl, rfl⟩) (by assumption) ?_
          try simp only [Act.put, List.setIfInBounds_toArray, List.set_cons_zero, List.set_cons_succ]
          refine wpAnyH_take (i := 15) (oi := { dst := some 153, op := Op.binOp BinOp.neq 35 (Operand.tmp 152) (Operand.const (Value.int IntKind.i64 4)) 35, type := 4, pos := "law.go:200", after := #[{ on := 14, ground := Ground.data }, { on := 10, ground := Ground.guard }], guard := some (10, true) }) (v := undef) rfl (by kernel_rfl) (by kernel_rfl) (by kernel_rfl) (fun _ _ _ h => h) (Or.inr ⟨by rfl, rfl⟩) (by assumption) ?_
          try simp only [Act.put, List.setIfInBounds_toArray, List.set_cons_zero, List.set_cons_succ]
          refine wpAnyH_take (i := 16) (oi := { dst := some 154, op := Op.move (Operand.tmp 153), type := 4, pos := "law.go:200", after := #[{ on := 15, ground := Ground.data }, { on := 10, ground := Ground.chain }, { on := 10, ground := Ground.guard }], guard := some (10, true) }) (v := undef) rfl (by kernel_rfl) (by kernel_rfl) (by kernel_rfl) (fun _ _ _ h => h) (Or.inr ⟨by rfl, rfl⟩) (by assumption) ?_
          try simp only [Act.put, List.setIfInBounds_toArray, List.set_cons_zero, List.set_cons_succ]
          refine wpAnyH_take (i := 17) (oi := { dst := some 155, op := Op.move (Operand.tmp 26), type := 67, pos := "law.go:200", after := #[{ on := 16, ground := Ground.guard }], guard := some (16, false) }) (v := undef) rfl (by kernel_rfl) (by kernel_rfl) (by kernel_rfl) (fun _ _ _ h => h) (Or.inr ⟨by rfl, rfl⟩) (by assumption) ?_
          try simp only [Act.put, List.setIfInBounds_toArray, List.set_cons_zero, List.set_cons_succ]
          refine wpAnyH_take (i := 18) (oi := { dst := some 156, op := Op.move (Operand.tmp 29), type := 3, pos := "law.go:200", after := #[{ on := 16, ground := Ground.guard }], guard := some (16, false) }) (v := undef) rfl (by kernel_rfl) (by kernel_rfl) (by kernel_rfl) (fun _ _ _ h => h) (Or.inr ⟨by rfl, rfl⟩) (by assumption) ?_
          try simp only [Act.put, List.setIfInBounds_toArray, List.set_cons_zero, List.set_cons_succ]
          refine wpAnyH_take (i := 19) (oi := { dst := some 157, op := Op.indexAddr 67 (Operand.tmp 155) (Operand.tmp 156), type := 0, pos := "law.go:200", after := #[{ on := 17, ground := Ground.data }, { on := 18, ground := Ground.data }, { on := 16, ground := Ground.guard }], guard := some (16, false) }) (v := undef) rfl (by kernel_rfl) (by kernel_rfl) (by kernel_rfl) (fun _ _ _ h => h) (Or.inr ⟨by rfl, rfl⟩) (by assumption) ?_
          try simp only [Act.put, List.setIfInBounds_toArray, List.set_cons_zero, List.set_cons_succ]
          refine wpAnyH_take (i := 20) (oi := { dst := some 158, op := Op.load 34 (Operand.tmp 157), type := 34, pos := "law.go:200", after := #[{ on := 19, ground := Ground.data }, { on := 16, ground := Ground.guard }], guard := some (16, false) }) (v := undef) rfl (by kernel_rfl) (by kernel_rfl) (by kernel_rfl) (fun _ _ _ h => h) (Or.inr ⟨by rfl, rfl⟩) (by assumption) ?_
          try simp only [Act.put, List.setIfInBounds_toArray, List.set_cons_zero, List.set_cons_succ]
          refine wpAnyH_take (i := 21) (oi := { dst := some 159, op := Op.call { callee := Callee.value (Operand.func 39), args := #[Operand.tmp 158], argTypes := #[34] }, type := 3, pos := "law.go:200", after := #[{ on := 20, ground := Ground.data }, { on := 16, ground := Ground.chain }, { on := 16, ground := Ground.guard }], guard := some (16, false) }) (v := undef) rfl (by kernel_rfl) (by kernel_rfl) (by kernel_rfl) (fun _ _ _ h => h) (Or.inr ⟨by rfl, rfl⟩) (by assumption) ?_
          try simp only [Act.put, List.setIfInBounds_toArray, List.set_cons_zero, List.set_cons_succ]
          refine wpAnyH_take (i := 22) (oi := { dst := some 160, op := Op.binOp BinOp.neq 3 (Operand.tmp 159) (Operand.const (Value.int IntKind.i64 0)) 3, type := 4, pos := "law.go:200", after := #[{ on := 21, ground := Ground.data }, { on := 16, ground := Ground.guard }], guard := some (16, false) }) (v := undef) rfl (by kernel_rfl) (by kernel_rfl) (by kernel_rfl) (fun _ _ _ h => h) (Or.inr ⟨by rfl, rfl⟩) (by assumption) ?_
          try simp only [Act.put, List.setIfInBounds_toArray, List.set_cons_zero, List.set_cons_succ]
          refine wpAnyH_take (i := 23) (oi := { dst := some 161, op := Op.pick (Operand.tmp 154) (Operand.const (Value.bool true)) (Operand.tmp 160), type := 4, pos := "law.go:200", after := #[{ on := 16, ground := Ground.data }, { on := 22, ground := Ground.data }, { on := 10, ground := Ground.guard }], guard := some (10, true) }) (v := undef) rfl (by kernel_rfl) (by kernel_rfl) (by kernel_rfl) (fun _ _ _ h => h) (Or.inr ⟨by rfl, rfl⟩) (by assumption) ?_
          try simp only [Act.put, List.setIfInBounds_toArray, List.set_cons_zero, List.set_cons_succ]
          refine' wpAnyH_take (i := 24) (oi := { dst := some 162, op := Op.pick (Operand.tmp 148) (Operand.tmp 161) (Operand.const (Value.bool false)), type := 4, pos := "law.go:200", after := #[{ on := 10, ground := Ground.data }, { on := 23, ground := Ground.data }, { on := 7, ground := Ground.guard }], guard := some (7, false) }) (v := _) rfl (by kernel_rfl) (by kernel_rfl) (by kernel_rfl) (fun _ _ _ h => h) (Or.inl ⟨by rfl, ?hya24⟩) (by assumption) ?resta24
          case hya24 =>
            intro w hSw
            try dsimp only at hSw
            go_simp
            try with_reducible rfl
          try simp only [Act.put, List.setIfInBounds_toArray, List.set_cons_zero, List.set_cons_succ]
          refine' wpAnyH_take (i := 25) (oi := { dst := some 163, op := Op.pick (Operand.tmp 145) (Operand.const (Value.bool true)) (Operand.tmp 162), type := 4, pos := "law.go:200", after := #[{ on := 7, ground := Ground.data }, { on := 24, ground := Ground.data }], guard := none }) (v := _) rfl (by kernel_rfl) (by kernel_rfl) (by kernel_rfl) (fun _ _ _ h => h) (Or.inl ⟨by rfl, ?hya25⟩) (by assumption) ?resta25
          case hya25 =>
            intro w hSw
            try dsimp only at hSw
            go_simp
            try with_reducible rfl
          try simp only [Act.put, List.setIfInBounds_toArray, List.set_cons_zero, List.set_cons_succ]
          refine' wpAnyH_take (i := 26) (oi := { dst := some 164, op := Op.move (Operand.tmp 163), type := 4, pos := "law.go:200", after := #[{ on := 25, ground := Ground.data }, { on := 21, ground := Ground.chain }], guard := none }) (v := _) rfl (by kernel_rfl) (by kernel_rfl) (by kernel_rfl) (fun _ _ _ h => h) (Or.inl ⟨by rfl, ?hya26⟩) (by assumption) ?resta26
          case hya26 =>
            intro w hSw
            try dsimp only at hSw
            go_simp
            try with_reducible rfl
          try simp only [Act.put, List.setIfInBounds_toArray, List.set_cons_zero, List.set_cons_succ]
          refine' wpAnyH_take (i := 27) (oi := { dst := some 165, op := Op.move (Operand.tmp 30), type := 4, pos := "law.go:200", after := #[{ on := 26, ground := Ground.guard }], guard := some (26, false) }) (v := _) rfl (by kernel_rfl) (by kernel_rfl) (by kernel_rfl) (fun _ _ _ h => h) (Or.inl ⟨by rfl, ?hya27⟩) (by assumption) ?resta27
          case hya27 =>
            intro w hSw
            try dsimp only at hSw
            go_simp
            try with_reducible rfl
          try simp only [Act.put, List.setIfInBounds_toArray, List.set_cons_zero, List.set_cons_succ]
          refine' wpAnyH_take (i := 28) (oi := { dst := some 166, op := Op.move (Operand.tmp 165), type := 4, pos := "law.go:200", after := #[{ on := 27, ground := Ground.data }, { on := 26, ground := Ground.chain }, { on := 26, ground := Ground.guard }], guard := some (26, false) }) (v := _) rfl (by kernel_rfl) (by kernel_rfl) (by kernel_rfl) (fun _ _ _ h => h) (Or.inl ⟨by rfl, ?hya28⟩) (by assumption) ?resta28
          case hya28 =>
            intro w hSw
            try dsimp only at hSw
            go_simp
            try with_reducible rfl
          try simp only [Act.put, List.setIfInBounds_toArray, List.set_cons_zero, List.set_cons_succ]
          refine' wpAnyH_take (i := 29) (oi := { dst := some 167, op := Op.move (Operand.tmp 26), type := 67, pos := "law.go:200", after := #[{ on := 28, ground := Ground.guard }], guard := some (28, true) }) (v := _) rfl (by kernel_rfl) (by kernel_rfl) (by kernel_rfl) (fun _ _ _ h => h) (Or.inl ⟨by rfl, ?hya29⟩) (by assumption) ?resta29
          case hya29 =>
            intro w hSw
            try dsimp only at hSw
            go_simp
            try with_reducible rfl
          try simp only [Act.put, List.setIfInBounds_toArray, List.set_cons_zero, List.set_cons_succ]
          refine' wpAnyH_take (i := 30) (oi := { dst := some 168, op := Op.move (Operand.tmp 29), type := 3, pos := "law.go:200", after := #[{ on := 28, ground := Ground.guard }], guard := some (28, true) }) (v := _) rfl (by kernel_rfl) (by kernel_rfl) (by kernel_rfl) (fun _ _ _ h => h) (Or.inl ⟨by rfl, ?hya30⟩) (by assumption) ?resta30
          case hya30 =>
            intro w hSw
            try dsimp only at hSw
            go_simp
            try with_reducible rfl
          try simp only [Act.put, List.setIfInBounds_toArray, List.set_cons_zero, List.set_cons_succ]
          refine' wpAnyH_take (i := 31) (oi := { dst := some 169, op := Op.indexAddr 67 (Operand.tmp 167) (Operand.tmp 168), type := 0, pos := "law.go:200", after := #[{ on := 29, ground := Ground.data }, { on := 30, ground := Ground.data }, { on := 28, ground := Ground.guard }], guard := some (28, true) }) (v := _) rfl (by kernel_rfl) (by kernel_rfl) (by kernel_rfl) (fun _ _ _ h => h) (Or.inl ⟨by rfl, ?hya31⟩) (by assumption) ?resta31
          case hya31 =>
            intro w hSw
            try dsimp only at hSw
            go_simp
            try with_reducible rfl
          try simp only [Act.put, List.setIfInBounds_toArray, List.set_cons_zero, List.set_cons_succ]
          refine' wpAnyH_take (i := 32) (oi := { dst := some 170, op := Op.load 34 (Operand.tmp 169), type := 34, pos := "law.go:200", after := #[{ on := 31, ground := Ground.data }, { on := 28, ground := Ground.guard }], guard := some (28, true) }) (v := _) rfl (by kernel_rfl) (by kernel_rfl) (by kernel_rfl) (fun _ _ _ h => h) (Or.inl ⟨by rfl, ?hya32⟩) (by assumption) ?resta32
          case hya32 =>
            intro w hSw
            try dsimp only at hSw
            go_simp
            try with_reducible rfl
          try simp only [Act.put, List.setIfInBounds_toArray, List.set_cons_zero, List.set_cons_succ]
          refine' wpAnyH_take (i := 33) (oi := { dst := some 171, op := Op.move (Operand.tmp 28), type := 48, pos := "law.go:200", after := #[{ on := 28, ground := Ground.guard }], guard := some (28, true) }) (v := _) rfl (by kernel_rfl) (by kernel_rfl) (by kernel_rfl) (fun _ _ _ h => h) (Or.inl ⟨by rfl, ?hya33⟩) (by assumption) ?resta33
          case hya33 =>
            intro w hSw
            try dsimp only at hSw
            go_simp
            try with_reducible rfl
          try simp only [Act.put, List.setIfInBounds_toArray, List.set_cons_zero, List.set_cons_succ]
          refine' wpAnyH_take (i := 34) (oi := { dst := some 172, op := Op.move (Operand.tmp 29), type := 3, pos := "law.go:200", after := #[{ on := 28, ground := Ground.guard }], guard := some (28, true) }) (v := _) rfl (by kernel_rfl) (by kernel_rfl) (by kernel_rfl) (fun _ _ _ h => h) (Or.inl ⟨by rfl, ?hya34⟩) (by assumption) ?resta34
          case hya34 =>
            intro w hSw
            try dsimp only at hSw
            go_simp
            try with_reducible rfl
          try simp only [Act.put, List.setIfInBounds_toArray, List.set_cons_zero, List.set_cons_succ]
          refine' wpAnyH_take (i := 35) (oi := { dst := some 173, op := Op.indexAddr 48 (Operand.tmp 171) (Operand.tmp 172), type := 0, pos := "law.go:200", after := #[{ on := 33, ground := Ground.data }, { on := 34, ground := Ground.data }, { on := 28, ground := Ground.guard }], guard := some (28, true) }) (v := _) rfl (by kernel_rfl) (by kernel_rfl) (by kernel_rfl) (fun _ _ _ h => h) (Or.inl ⟨by rfl, ?hya35⟩) (by assumption) ?resta35
          case hya35 =>
            intro w hSw
            try dsimp only at hSw
            go_simp
            try with_reducible rfl
          try simp only [Act.put, List.setIfInBounds_toArray, List.set_cons_zero, List.set_cons_succ]
          refine' wpAnyH_take (i := 36) (oi := { dst := some 174, op := Op.load 25 (Operand.tmp 173), type := 25, pos := "law.go:200", after := #[{ on := 35, ground := Ground.data }, { on := 28, ground := Ground.guard }], guard := some (28, true) }) (v := _) rfl (by kernel_rfl) (by kernel_rfl) (by kernel_rfl) (fun _ _ _ h => h) (Or.inl ⟨by rfl, ?hya36⟩) (by assumption) ?resta36
          case hya36 =>
            intro w hSw
            try dsimp only at hSw
            go_simp
            try with_reducible rfl
          try simp only [Act.put, List.setIfInBounds_toArray, List.set_cons_zero, List.set_cons_succ]
          refine wpAnyH_ready (rs := [37]) (by kernel_rfl) (by simp) ?_
          refine AllReadyH.cons (o := { dst := some 175, op := Op.call { callee := Callee.value (Operand.func 18), args := #[Operand.tmp 170, Operand.tmp 174], argTypes := #[34, 25] }, type := 4, pos := "law.go:200", after := #[{ on := 32, ground := Ground.data }, { on := 36, ground := Ground.data }, { on := 28, ground := Ground.chain }, { on := 28, ground := Ground.guard }], guard := some (28, true) }) rfl (fun K hK => ?_) AllReadyH.nil
          go_simp
          go_at_call 18
          refine (equal_any z z _ _ _ (HF.out.2.2.2.step (by first | assumption | exact And.right (And.right (And.right (And.right (And.right (by assumption))))))) HV.out (HE.out.2.2.2.step (by first | assumption | exact And.right (And.right (And.right (And.right (And.right (by assumption))))))) (fit_bits HV.out)).mono ?_
          rintro e wq ⟨he, bq⟩
          rw [decide_eq_true rfl] at he
          subst he
          have hbq : Below w14.heap.size w14 wq := bstep (by first | assumption | exact And.right (And.right (And.right (And.right (And.right (by assumption)))))) bq
          go_wp2_with fail
          refine hK.out _ _ ?_ (fun hHeld => ?_)
          · (first | with_reducible exact KP.out _ (Below.refl _ _) | with_reducible exact KP.out _ (below_drew (Below.refl _ _)) | with_reducible exact KP.out _ ((by first | assumption | exact And.right (And.right (And.right (And.right (And.right (by assumption))))))) | with_reducible exact KP.out _ (below_drew (by first | assumption | exact And.right (And.right (And.right (And.right (And.right (by assumption))))))) | with_reducible exact KP.out _ (bal (by first | assumption | exact And.right (And.right (And.right (And.right (And.right (by assumption)))))) _) | with_reducible exact KP.out _ (bal (Below.refl _ _) _) | with_reducible exact KP.out _ (below_drew (bal (Below.refl _ _) _)) | with_reducible exact KP.out _ (bal (bal (Below.refl _ _) _) _) | with_reducible exact KP.out _ (below_drew (bal (bal (Below.refl _ _) _) _)) | with_reducible exact KP.out _ (below_drew (below_drew (bal (bal (Below.refl _ _) _) _))) | with_reducible exact KP.out _ (below_off (by first | assumption | exact And.right (And.right (And.right (And.right (And.right (by assumption)))))) (by omega)))
          clear hK K
          try simp only [Act.put, List.setIfInBounds_toArray, List.set_cons_zero, List.set_cons_succ]
          refine' wpAnyH_take (i := 38) (oi := { dst := some 176, op := Op.unOp UnOp.not 4 (Operand.tmp 175), type := 4, pos := "law.go:200", after := #[{ on := 37, ground := Ground.data }, { on := 28, ground := Ground.guard }], guard := some (28, true) }) (v := _) rfl (by kernel_rfl) (by kernel_rfl) (by kernel_rfl) (fun _ _ _ h => h) (Or.inl ⟨by rfl, ?hya38⟩) (by assumption) ?resta38
          case hya38 =>
            intro w hSw
            try dsimp only at hSw
            go_simp
            try with_reducible rfl
          try simp only [Act.put, List.setIfInBounds_toArray, List.set_cons_zero, List.set_cons_succ]
          refine' wpAnyH_take (i := 39) (oi := { dst := some 177, op := Op.pick (Operand.tmp 166) (Operand.tmp 176) (Operand.const (Value.bool false)), type := 4, pos := "law.go:200", after := #[{ on := 28, ground := Ground.data }, { on := 38, ground := Ground.data }, { on := 26, ground := Ground.guard }], guard := some (26, false) }) (v := _) rfl (by kernel_rfl) (by kernel_rfl) (by kernel_rfl) (fun _ _ _ h => h) (Or.inl ⟨by rfl, ?hya39⟩) (by assumption) ?resta39
          case hya39 =>
            intro w hSw
            try dsimp only at hSw
            go_simp
            try with_reducible rfl
          try simp only [Act.put, List.setIfInBounds_toArray, List.set_cons_zero, List.set_cons_succ]
          refine' wpAnyH_take (i := 40) (oi := { dst := some 178, op := Op.pick (Operand.tmp 164) (Operand.const (Value.bool true)) (Operand.tmp 177), type := 4, pos := "law.go:200", after := #[{ on := 26, ground := Ground.data }, { on := 39, ground := Ground.data }], guard := none }) (v := _) rfl (by kernel_rfl) (by kernel_rfl) (by kernel_rfl) (fun _ _ _ h => h) (Or.inl ⟨by rfl, ?hya40⟩) (by assumption) ?resta40
          case hya40 =>
            intro w hSw
            try dsimp only at hSw
            go_simp
            try with_reducible rfl
          try simp only [Act.put, List.setIfInBounds_toArray, List.set_cons_zero, List.set_cons_succ]
          refine wpAnyH_done (by kernel_rfl) ?_ _
          refine NoPanic.normal ?_
          replace HR := Lib.hid (HR.out.below hbq)
          replace HG := Lib.hid (HG.out.below hbq)
          replace HU := Lib.hid (HU.out.below hbq)
          replace HB := Lib.hid (bstep HB.out hbq)
          clear HE HF HC3 KP Z HV
          go_wp2_with fail
          go_roundg (gk - 1)
          case measure => omega
          case rel => exact ⟨i + 1, by omega, by go_num, HR, HG, HU, HB⟩
        · have HV := Lib.hid hv
          have HQ := fits_any z _ wr HE.out.2.2.2 Z.out.fits
          rw [decide_eq_false hv] at HQ
          unfold FitsPost at HQ
          clear hv
          rw [(fit_out HV.out).1] at HF
          rw [(fit_out HV.out).2] at HC
          have gHE0 := HE.out.c0
          have gHE1 := HE.out.c1
          go_wp2_with fail
          refine HQ.mono ?_
          rintro e w15 ⟨rfl, b⟩
          clear HQ
          clear gHE0 gHE1
          have HC3 := Lib.hid (And.intro (Nat.lt_of_lt_of_le HC.out.1 b.size) (cell_below HC.out.2 b))
          replace HR := Lib.hid (HR.out.below b)
          replace HG := Lib.hid (HG.out.below b)
          replace HU := Lib.hid (HU.out.below b)
          replace HB := Lib.hid (bstep HB.out b)
          replace HE := Lib.hid (HE.out.below b)
          replace HF := Lib.hid (HF.out.below b)
          clear b HC
          have KP := Lib.hid (show ∀ W, Below w15.heap.size w15 W → W.cell? ⟨(w13.heap.size + 1 + 1), i, none⟩ = some (.int .i64 4) ∧ W.cell? ⟨(w13.heap.size + 1), i * 2, none⟩ = some (.bool d2) ∧ W.cell? ⟨(w13.heap.size + 1), i * 2 + 1, none⟩ = some (.slice A2 n2 c2) ∧ W.cell? ⟨wq4.heap.size, i * 2, none⟩ = some (.bool d1) ∧ W.cell? ⟨wq4.heap.size, i * 2 + 1, none⟩ = some (.slice A1 n1 c1) ∧ Below w15.heap.size w15 W from fun W hb => ⟨cell_below (HC3.out.2) hb, cell_below (HF.out.c0) hb, cell_below (HF.out.c1) hb, cell_below (HE.out.c0) hb, cell_below (HE.out.c1) hb, hb⟩)
          go_upto_region 23 with (fail)
          refine wp_region_noPanic ?_
          refine wp_region_held_drew (S := (fun w' => w'.cell? ⟨(w13.heap.size + 1 + 1), i, none⟩ = some (.int .i64 4) ∧ w'.cell? ⟨(w13.heap.size + 1), i * 2, none⟩ = some (.bool d2) ∧ w'.cell? ⟨(w13.heap.size + 1), i * 2 + 1, none⟩ = some (.slice A2 n2 c2) ∧ w'.cell? ⟨wq4.heap.size, i * 2, none⟩ = some (.bool d1) ∧ w'.cell? ⟨wq4.heap.size, i * 2 + 1, none⟩ = some (.slice A1 n1 c1) ∧ Below w15.heap.size w15 w')) (by kernel_rfl) (KP.out _ (below_drew (Below.refl _ _))) (fun hHeld => ?_)
          refine' wpAnyH_take (i := 0) (oi := { dst := some 138, op := Op.move (Operand.tmp 30), type := 4, pos := "law.go:200", after := #[], guard := none }) (v := _) rfl (by kernel_rfl) (by kernel_rfl) (by kernel_rfl) (fun _ _ _ h => h) (Or.inl ⟨by rfl, ?hyb0⟩) (by assumption) ?restb0
          case hyb0 =>
            intro w hSw
            try dsimp only at hSw
            go_simp
            try with_reducible rfl
          try simp only [Act.put, List.setIfInBounds_toArray, List.set_cons_zero, List.set_cons_succ]
          refine' wpAnyH_take (i := 1) (oi := { dst := some 139, op := Op.move (Operand.tmp 27), type := 68, pos := "law.go:200", after := #[], guard := none }) (v := _) rfl (by kernel_rfl) (by kernel_rfl) (by kernel_rfl) (fun _ _ _ h => h) (Or.inl ⟨by rfl, ?hyb1⟩) (by assumption) ?restb1
          case hyb1 =>
            intro w hSw
            try dsimp only at hSw
            go_simp
            try with_reducible rfl
          try simp only [Act.put, List.setIfInBounds_toArray, List.set_cons_zero, List.set_cons_succ]
          refine' wpAnyH_take (i := 2) (oi := { dst := some 140, op := Op.move (Operand.tmp 29), type := 3, pos := "law.go:200", after := #[], guard := none }) (v := _) rfl (by kernel_rfl) (by kernel_rfl) (by kernel_rfl) (fun _ _ _ h => h) (Or.inl ⟨by rfl, ?hyb2⟩) (by assumption) ?restb2
          case hyb2 =>
            intro w hSw
            try dsimp only at hSw
            go_simp
            try with_reducible rfl
          try simp only [Act.put, List.setIfInBounds_toArray, List.set_cons_zero, List.set_cons_succ]
          refine' wpAnyH_take (i := 3) (oi := { dst := some 141, op := Op.indexAddr 68 (Operand.tmp 139) (Operand.tmp 140), type := 0, pos := "law.go:200", after := #[{ on := 1, ground := Ground.data }, { on := 2, ground := Ground.data }], guard := none }) (v := _) rfl (by kernel_rfl) (by kernel_rfl) (by kernel_rfl) (fun _ _ _ h => h) (Or.inl ⟨by rfl, ?hyb3⟩) (by assumption) ?restb3
          case hyb3 =>
            intro w hSw
            try dsimp only at hSw
            go_simp
            try with_reducible rfl
          try simp only [Act.put, List.setIfInBounds_toArray, List.set_cons_zero, List.set_cons_succ]
          refine' wpAnyH_take (i := 4) (oi := { dst := some 142, op := Op.load 35 (Operand.tmp 141), type := 35, pos := "law.go:200", after := #[{ on := 3, ground := Ground.data }], guard := none }) (v := _) rfl (by kernel_rfl) (by kernel_rfl) (by kernel_rfl) (fun _ _ _ h => h) (Or.inl ⟨by rfl, ?hyb4⟩) (by assumption) ?restb4
          case hyb4 =>
            intro w hSw
            try dsimp only at hSw
            go_simp
            try with_reducible rfl
          try simp only [Act.put, List.setIfInBounds_toArray, List.set_cons_zero, List.set_cons_succ]
          refine' wpAnyH_take (i := 5) (oi := { dst := some 143, op := Op.binOp BinOp.eql 35 (Operand.tmp 142) (Operand.const (Value.int IntKind.i64 0)) 35, type := 4, pos := "law.go:200", after := #[{ on := 4, ground := Ground.data }], guard := none }) (v := _) rfl (by kernel_rfl) (by kernel_rfl) (by kernel_rfl) (fun _ _ _ h => h) (Or.inl ⟨by rfl, ?hyb5⟩) (by assumption) ?restb5
          case hyb5 =>
            intro w hSw
            try dsimp only at hSw
            go_simp
            try with_reducible rfl
          try simp only [Act.put, List.setIfInBounds_toArray, List.set_cons_zero, List.set_cons_succ]
          refine' wpAnyH_take (i := 6) (oi := { dst := some 144, op := Op.binOp BinOp.neq 4 (Operand.tmp 138) (Operand.tmp 143) 4, type := 4, pos := "law.go:200", after := #[{ on := 0, ground := Ground.data }, { on := 5, ground := Ground.data }], guard := none }) (v := _) rfl (by kernel_rfl) (by kernel_rfl) (by kernel_rfl) (fun _ _ _ h => h) (Or.inl ⟨by rfl, ?hyb6⟩) (by assumption) ?restb6
          case hyb6 =>
            intro w hSw
            try dsimp only at hSw
            go_simp
            try with_reducible rfl
          try simp only [Act.put, List.setIfInBounds_toArray, List.set_cons_zero, List.set_cons_succ]
          refine' wpAnyH_take (i := 7) (oi := { dst := some 145, op := Op.move (Operand.tmp 144), type := 4, pos := "law.go:200", after := #[{ on := 6, ground := Ground.data }], guard := none }) (v := _) rfl (by kernel_rfl) (by kernel_rfl) (by kernel_rfl) (fun _ _ _ h => h) (Or.inl ⟨by rfl, ?hyb7⟩) (by assumption) ?restb7
          case hyb7 =>
            intro w hSw
            try dsimp only at hSw
            go_simp
            try with_reducible rfl
          try simp only [Act.put, List.setIfInBounds_toArray, List.set_cons_zero, List.set_cons_succ]
          refine' wpAnyH_take (i := 8) (oi := { dst := some 146, op := Op.move (Operand.tmp 30), type := 4, pos := "law.go:200", after := #[{ on := 7, ground := Ground.guard }], guard := some (7, false) }) (v := _) rfl (by kernel_rfl) (by kernel_rfl) (by kernel_rfl) (fun _ _ _ h => h) (Or.inl ⟨by rfl, ?hyb8⟩) (by assumption) ?restb8
          case hyb8 =>
            intro w hSw
            try dsimp only at hSw
            go_simp
            try with_reducible rfl
          try simp only [Act.put, List.setIfInBounds_toArray, List.set_cons_zero, List.set_cons_succ]
          refine' wpAnyH_take (i := 9) (oi := { dst := some 147, op := Op.unOp UnOp.not 4 (Operand.tmp 146), type := 4, pos := "law.go:200", after := #[{ on := 8, ground := Ground.data }, { on := 7, ground := Ground.guard }], guard := some (7, false) }) (v := _) rfl (by kernel_rfl) (by kernel_rfl) (by kernel_rfl) (fun _ _ _ h => h) (Or.inl ⟨by rfl, ?hyb9⟩) (by assumption) ?restb9
          case hyb9 =>
            intro w hSw
            try dsimp only at hSw
            go_simp
            try with_reducible rfl
          try simp only [Act.put, List.setIfInBounds_toArray, List.set_cons_zero, List.set_cons_succ]
          refine' wpAnyH_take (i := 10) (oi := { dst := some 148, op := Op.move (Operand.tmp 147), type := 4, pos := "law.go:200", after := #[{ on := 9, ground := Ground.data }, { on := 7, ground := Ground.chain }, { on := 7, ground := Ground.guard }], guard := some (7, false) }) (v := _) rfl (by kernel_rfl) (by kernel_rfl) (by kernel_rfl) (fun _ _ _ h => h) (Or.inl ⟨by rfl, ?hyb10⟩) (by assumption) ?restb10
          case hyb10 =>
            intro w hSw
            try dsimp only at hSw
            go_simp
            try with_reducible rfl
          try simp only [Act.put, List.setIfInBounds_toArray, List.set_cons_zero, List.set_cons_succ]
          refine' wpAnyH_take (i := 11) (oi := { dst := some 149, op := Op.move (Operand.tmp 27), type := 68, pos := "law.go:200", after := #[{ on := 10, ground := Ground.guard }], guard := some (10, true) }) (v := _) rfl (by kernel_rfl) (by kernel_rfl) (by kernel_rfl) (fun _ _ _ h => h) (Or.inl ⟨by rfl, ?hyb11⟩) (by assumption) ?restb11
          case hyb11 =>
            intro w hSw
            try dsimp only at hSw
            go_simp
            try with_reducible rfl
          try simp only [Act.put, List.setIfInBounds_toArray, List.set_cons_zero, List.set_cons_succ]
          refine' wpAnyH_take (i := 12) (oi := { dst := some 150, op := Op.move (Operand.tmp 29), type := 3, pos := "law.go:200", after := #[{ on := 10, ground := Ground.guard }], guard := some (10, true) }) (v := _) rfl (by kernel_rfl) (by kernel_rfl) (by kernel_rfl) (fun _ _ _ h => h) (Or.inl ⟨by rfl, ?hyb12⟩) (by assumption) ?restb12
          case hyb12 =>
            intro w hSw
            try dsimp only at hSw
            go_simp
            try with_reducible rfl
          try simp only [Act.put, List.setIfInBounds_toArray, List.set_cons_zero, List.set_cons_succ]
          refine' wpAnyH_take (i := 13) (oi := { dst := some 151, op := Op.indexAddr 68 (Operand.tmp 149) (Operand.tmp 150), type := 0, pos := "law.go:200", after := #[{ on := 11, ground := Ground.data }, { on := 12, ground := Ground.data }, { on := 10, ground := Ground.guard }], guard := some (10, true) }) (v := _) rfl (by kernel_rfl) (by kernel_rfl) (by kernel_rfl) (fun _ _ _ h => h) (Or.inl ⟨by rfl, ?hyb13⟩) (by assumption) ?restb13
          case hyb13 =>
            intro w hSw
            try dsimp only at hSw
            go_simp
            try with_reducible rfl
          try simp only [Act.put, List.setIfInBounds_toArray, List.set_cons_zero, List.set_cons_succ]
          refine' wpAnyH_take (i := 14) (oi := { dst := some 152, op := Op.load 35 (Operand.tmp 151), type := 35, pos := "law.go:200", after := #[{ on := 13, ground := Ground.data }, { on := 10, ground := Ground.guard }], guard := some (10, true) }) (v := _) rfl (by kernel_rfl) (by kernel_rfl) (by kernel_rfl) (fun _ _ _ h => h) (Or.inl ⟨by rfl, ?hyb14⟩) (by assumption) ?restb14
          case hyb14 =>
            intro w hSw
            try dsimp only at hSw
            go_simp
            try with_reducible rfl
          try simp only [Act.put, List.setIfInBounds_toArray, List.set_cons_zero, List.set_cons_succ]
          refine' wpAnyH_take (i := 15) (oi := { dst := some 153, op := Op.binOp BinOp.neq 35 (Operand.tmp 152) (Operand.const (Value.int IntKind.i64 4)) 35, type := 4, pos := "law.go:200", after := #[{ on := 14, ground := Ground.data }, { on := 10, ground := Ground.guard }], guard := some (10, true) }) (v := _) rfl (by kernel_rfl) (by kernel_rfl) (by kernel_rfl) (fun _ _ _ h => h) (Or.inl ⟨by rfl, ?hyb15⟩) (by assumption) ?restb15
          case hyb15 =>
            intro w hSw
            try dsimp only at hSw
            go_simp
            try with_reducible rfl
          try simp only [Act.put, List.setIfInBounds_toArray, List.set_cons_zero, List.set_cons_succ]
          refine' wpAnyH_take (i := 16) (oi := { dst := some 154, op := Op.move (Operand.tmp 153), type := 4, pos := "law.go:200", after := #[{ on := 15, ground := Ground.data }, { on := 10, ground := Ground.chain }, { on := 10, ground := Ground.guard }], guard := some (10, true) }) (v := _) rfl (by kernel_rfl) (by kernel_rfl) (by kernel_rfl) (fun _ _ _ h => h) (Or.inl ⟨by rfl, ?hyb16⟩) (by assumption) ?restb16
          case hyb16 =>
            intro w hSw
            try dsimp only at hSw
            go_simp
            try with_reducible rfl
          try simp only [Act.put, List.setIfInBounds_toArray, List.set_cons_zero, List.set_cons_succ]
          refine' wpAnyH_take (i := 17) (oi := { dst := some 155, op := Op.move (Operand.tmp 26), type := 67, pos := "law.go:200", after := #[{ on := 16, ground := Ground.guard }], guard := some (16, false) }) (v := _) rfl (by kernel_rfl) (by kernel_rfl) (by kernel_rfl) (fun _ _ _ h => h) (Or.inl ⟨by rfl, ?hyb17⟩) (by assumption) ?restb17
          case hyb17 =>
            intro w hSw
            try dsimp only at hSw
            go_simp
            try with_reducible rfl
          try simp only [Act.put, List.setIfInBounds_toArray, List.set_cons_zero, List.set_cons_succ]
          refine' wpAnyH_take (i := 18) (oi := { dst := some 156, op := Op.move (Operand.tmp 29), type := 3, pos := "law.go:200", after := #[{ on := 16, ground := Ground.guard }], guard := some (16, false) }) (v := _) rfl (by kernel_rfl) (by kernel_rfl) (by kernel_rfl) (fun _ _ _ h => h) (Or.inl ⟨by rfl, ?hyb18⟩) (by assumption) ?restb18
          case hyb18 =>
            intro w hSw
            try dsimp only at hSw
            go_simp
            try with_reducible rfl
          try simp only [Act.put, List.setIfInBounds_toArray, List.set_cons_zero, List.set_cons_succ]
          refine' wpAnyH_take (i := 19) (oi := { dst := some 157, op := Op.indexAddr 67 (Operand.tmp 155) (Operand.tmp 156), type := 0, pos := "law.go:200", after := #[{ on := 17, ground := Ground.data }, { on := 18, ground := Ground.data }, { on := 16, ground := Ground.guard }], guard := some (16, false) }) (v := _) rfl (by kernel_rfl) (by kernel_rfl) (by kernel_rfl) (fun _ _ _ h => h) (Or.inl ⟨by rfl, ?hyb19⟩) (by assumption) ?restb19
          case hyb19 =>
            intro w hSw
            try dsimp only at hSw
            go_simp
            try with_reducible rfl
          try simp only [Act.put, List.setIfInBounds_toArray, List.set_cons_zero, List.set_cons_succ]
          refine' wpAnyH_take (i := 20) (oi := { dst := some 158, op := Op.load 34 (Operand.tmp 157), type := 34, pos := "law.go:200", after := #[{ on := 19, ground := Ground.data }, { on := 16, ground := Ground.guard }], guard := some (16, false) }) (v := _) rfl (by kernel_rfl) (by kernel_rfl) (by kernel_rfl) (fun _ _ _ h => h) (Or.inl ⟨by rfl, ?hyb20⟩) (by assumption) ?restb20
          case hyb20 =>
            intro w hSw
            try dsimp only at hSw
            go_simp
            try with_reducible rfl
          try simp only [Act.put, List.setIfInBounds_toArray, List.set_cons_zero, List.set_cons_succ]
          refine wpAnyH_ready (rs := [21]) (by kernel_rfl) (by simp) ?_
          refine AllReadyH.cons (o := { dst := some 159, op := Op.call { callee := Callee.value (Operand.func 39), args := #[Operand.tmp 158], argTypes := #[34] }, type := 3, pos := "law.go:200", after := #[{ on := 20, ground := Ground.data }, { on := 16, ground := Ground.chain }, { on := 16, ground := Ground.guard }], guard := some (16, false) }) rfl (fun K hK => ?_) AllReadyH.nil
          go_simp
          go_at_call 39
          refine (isign_lim 0 _ _ (HF.out.2.2.2.step (by first | assumption | exact And.right (And.right (And.right (And.right (And.right (by assumption))))))) (tiny (by decide)) 0 rfl).mono ?_
          rintro e wq ⟨rfl, bq⟩
          have hbq : Below w15.heap.size w15 wq := bstep (by first | assumption | exact And.right (And.right (And.right (And.right (And.right (by assumption)))))) bq
          go_wp2_with fail
          refine hK.out _ _ ?_ (fun hHeld => ?_)
          · (first | with_reducible exact KP.out _ (Below.refl _ _) | with_reducible exact KP.out _ (below_drew (Below.refl _ _)) | with_reducible exact KP.out _ ((by first | assumption | exact And.right (And.right (And.right (And.right (And.right (by assumption))))))) | with_reducible exact KP.out _ (below_drew (by first | assumption | exact And.right (And.right (And.right (And.right (And.right (by assumption))))))) | with_reducible exact KP.out _ (bal (by first | assumption | exact And.right (And.right (And.right (And.right (And.right (by assumption)))))) _) | with_reducible exact KP.out _ (bal (Below.refl _ _) _) | with_reducible exact KP.out _ (below_drew (bal (Below.refl _ _) _)) | with_reducible exact KP.out _ (bal (bal (Below.refl _ _) _) _) | with_reducible exact KP.out _ (below_drew (bal (bal (Below.refl _ _) _) _)) | with_reducible exact KP.out _ (below_drew (below_drew (bal (bal (Below.refl _ _) _) _))) | with_reducible exact KP.out _ (below_off (by first | assumption | exact And.right (And.right (And.right (And.right (And.right (by assumption)))))) (by omega)))
          clear hK K
          try simp only [Act.put, List.setIfInBounds_toArray, List.set_cons_zero, List.set_cons_succ]
          refine' wpAnyH_take (i := 22) (oi := { dst := some 160, op := Op.binOp BinOp.neq 3 (Operand.tmp 159) (Operand.const (Value.int IntKind.i64 0)) 3, type := 4, pos := "law.go:200", after := #[{ on := 21, ground := Ground.data }, { on := 16, ground := Ground.guard }], guard := some (16, false) }) (v := _) rfl (by kernel_rfl) (by kernel_rfl) (by kernel_rfl) (fun _ _ _ h => h) (Or.inl ⟨by rfl, ?hyb22⟩) (by assumption) ?restb22
          case hyb22 =>
            intro w hSw
            try dsimp only at hSw
            go_simp
            try with_reducible rfl
          try simp only [Act.put, List.setIfInBounds_toArray, List.set_cons_zero, List.set_cons_succ]
          refine' wpAnyH_take (i := 23) (oi := { dst := some 161, op := Op.pick (Operand.tmp 154) (Operand.const (Value.bool true)) (Operand.tmp 160), type := 4, pos := "law.go:200", after := #[{ on := 16, ground := Ground.data }, { on := 22, ground := Ground.data }, { on := 10, ground := Ground.guard }], guard := some (10, true) }) (v := _) rfl (by kernel_rfl) (by kernel_rfl) (by kernel_rfl) (fun _ _ _ h => h) (Or.inl ⟨by rfl, ?hyb23⟩) (by assumption) ?restb23
          case hyb23 =>
            intro w hSw
            try dsimp only at hSw
            go_simp
            try with_reducible rfl
          try simp only [Act.put, List.setIfInBounds_toArray, List.set_cons_zero, List.set_cons_succ]
          refine' wpAnyH_take (i := 24) (oi := { dst := some 162, op := Op.pick (Operand.tmp 148) (Operand.tmp 161) (Operand.const (Value.bool false)), type := 4, pos := "law.go:200", after := #[{ on := 10, ground := Ground.data }, { on := 23, ground := Ground.data }, { on := 7, ground := Ground.guard }], guard := some (7, false) }) (v := _) rfl (by kernel_rfl) (by kernel_rfl) (by kernel_rfl) (fun _ _ _ h => h) (Or.inl ⟨by rfl, ?hyb24⟩) (by assumption) ?restb24
          case hyb24 =>
            intro w hSw
            try dsimp only at hSw
            go_simp
            try with_reducible rfl
          try simp only [Act.put, List.setIfInBounds_toArray, List.set_cons_zero, List.set_cons_succ]
          refine' wpAnyH_take (i := 25) (oi := { dst := some 163, op := Op.pick (Operand.tmp 145) (Operand.const (Value.bool true)) (Operand.tmp 162), type := 4, pos := "law.go:200", after := #[{ on := 7, ground := Ground.data }, { on := 24, ground := Ground.data }], guard := none }) (v := _) rfl (by kernel_rfl) (by kernel_rfl) (by kernel_rfl) (fun _ _ _ h => h) (Or.inl ⟨by rfl, ?hyb25⟩) (by assumption) ?restb25
          case hyb25 =>
            intro w hSw
            try dsimp only at hSw
            go_simp
            try with_reducible rfl
          try simp only [Act.put, List.setIfInBounds_toArray, List.set_cons_zero, List.set_cons_succ]
          refine' wpAnyH_take (i := 26) (oi := { dst := some 164, op := Op.move (Operand.tmp 163), type := 4, pos := "law.go:200", after := #[{ on := 25, ground := Ground.data }, { on := 21, ground := Ground.chain }], guard := none }) (v := _) rfl (by kernel_rfl) (by kernel_rfl) (by kernel_rfl) (fun _ _ _ h => h) (Or.inl ⟨by rfl, ?hyb26⟩) (by assumption) ?restb26
          case hyb26 =>
            intro w hSw
            try dsimp only at hSw
            go_simp
            try with_reducible rfl
          try simp only [Act.put, List.setIfInBounds_toArray, List.set_cons_zero, List.set_cons_succ]
          refine' wpAnyH_take (i := 27) (oi := { dst := some 165, op := Op.move (Operand.tmp 30), type := 4, pos := "law.go:200", after := #[{ on := 26, ground := Ground.guard }], guard := some (26, false) }) (v := _) rfl (by kernel_rfl) (by kernel_rfl) (by kernel_rfl) (fun _ _ _ h => h) (Or.inl ⟨by rfl, ?hyb27⟩) (by assumption) ?restb27
          case hyb27 =>
            intro w hSw
            try dsimp only at hSw
            go_simp
            try with_reducible rfl
          try simp only [Act.put, List.setIfInBounds_toArray, List.set_cons_zero, List.set_cons_succ]
          refine' wpAnyH_take (i := 28) (oi := { dst := some 166, op := Op.move (Operand.tmp 165), type := 4, pos := "law.go:200", after := #[{ on := 27, ground := Ground.data }, { on := 26, ground := Ground.chain }, { on := 26, ground := Ground.guard }], guard := some (26, false) }) (v := _) rfl (by kernel_rfl) (by kernel_rfl) (by kernel_rfl) (fun _ _ _ h => h) (Or.inl ⟨by rfl, ?hyb28⟩) (by assumption) ?restb28
          case hyb28 =>
            intro w hSw
            try dsimp only at hSw
            go_simp
            try with_reducible rfl
          try simp only [Act.put, List.setIfInBounds_toArray, List.set_cons_zero, List.set_cons_succ]
          refine wpAnyH_take (i := 29) (oi := { dst := some 167, op := Op.move (Operand.tmp 26), type := 67, pos := "law.go:200", after := #[{ on := 28, ground := Ground.guard }], guard := some (28, true) }) (v := undef) rfl (by kernel_rfl) (by kernel_rfl) (by kernel_rfl) (fun _ _ _ h => h) (Or.inr ⟨by rfl, rfl⟩) (by assumption) ?_
          try simp only [Act.put, List.setIfInBounds_toArray, List.set_cons_zero, List.set_cons_succ]
          refine wpAnyH_take (i := 30) (oi := { dst := some 168, op := Op.move (Operand.tmp 29), type := 3, pos := "law.go:200", after := #[{ on := 28, ground := Ground.guard }], guard := some (28, true) }) (v := undef) rfl (by kernel_rfl) (by kernel_rfl) (by kernel_rfl) (fun _ _ _ h => h) (Or.inr ⟨by rfl, rfl⟩) (by assumption) ?_
          try simp only [Act.put, List.setIfInBounds_toArray, List.set_cons_zero, List.set_cons_succ]
          refine wpAnyH_take (i := 31) (oi := { dst := some 169, op := Op.indexAddr 67 (Operand.tmp 167) (Operand.tmp 168), type := 0, pos := "law.go:200", after := #[{ on := 29, ground := Ground.data }, { on := 30, ground := Ground.data }, { on := 28, ground := Ground.guard }], guard := some (28, true) }) (v := undef) rfl (by kernel_rfl) (by kernel_rfl) (by kernel_rfl) (fun _ _ _ h => h) (Or.inr ⟨by rfl, rfl⟩) (by assumption) ?_
          try simp only [Act.put, List.setIfInBounds_toArray, List.set_cons_zero, List.set_cons_succ]
          refine wpAnyH_take (i := 32) (oi := { dst := some 170, op := Op.load 34 (Operand.tmp 169), type := 34, pos := "law.go:200", after := #[{ on := 31, ground := Ground.data }, { on := 28, ground := Ground.guard }], guard := some (28, true) }) (v := undef) rfl (by kernel_rfl) (by kernel_rfl) (by kernel_rfl) (fun _ _ _ h => h) (Or.inr ⟨by rfl, rfl⟩) (by assumption) ?_
          try simp only [Act.put, List.setIfInBounds_toArray, List.set_cons_zero, List.set_cons_succ]
          refine wpAnyH_take (i := 33) (oi := { dst := some 171, op := Op.move (Operand.tmp 28), type := 48, pos := "law.go:200", after := #[{ on := 28, ground := Ground.guard }], guard := some (28, true) }) (v := undef) rfl (by kernel_rfl) (by kernel_rfl) (by kernel_rfl) (fun _ _ _ h => h) (Or.inr ⟨by rfl, rfl⟩) (by assumption) ?_
          try simp only [Act.put, List.setIfInBounds_toArray, List.set_cons_zero, List.set_cons_succ]
          refine wpAnyH_take (i := 34) (oi := { dst := some 172, op := Op.move (Operand.tmp 29), type := 3, pos := "law.go:200", after := #[{ on := 28, ground := Ground.guard }], guard := some (28, true) }) (v := undef) rfl (by kernel_rfl) (by kernel_rfl) (by kernel_rfl) (fun _ _ _ h => h) (Or.inr ⟨by rfl, rfl⟩) (by assumption) ?_
          try simp only [Act.put, List.setIfInBounds_toArray, List.set_cons_zero, List.set_cons_succ]
          refine wpAnyH_take (i := 35) (oi := { dst := some 173, op := Op.indexAddr 48 (Operand.tmp 171) (Operand.tmp 172), type := 0, pos := "law.go:200", after := #[{ on := 33, ground := Ground.data }, { on := 34, ground := Ground.data }, { on := 28, ground := Ground.guard }], guard := some (28, true) }) (v := undef) rfl (by kernel_rfl) (by kernel_rfl) (by kernel_rfl) (fun _ _ _ h => h) (Or.inr ⟨by rfl, rfl⟩) (by assumption) ?_
          try simp only [Act.put, List.setIfInBounds_toArray, List.set_cons_zero, List.set_cons_succ]
          refine wpAnyH_take (i := 36) (oi := { dst := some 174, op := Op.load 25 (Operand.tmp 173), type := 25, pos := "law.go:200", after := #[{ on := 35, ground := Ground.data }, { on := 28, ground := Ground.guard }], guard := some (28, true) }) (v := undef) rfl (by kernel_rfl) (by kernel_rfl) (by kernel_rfl) (fun _ _ _ h => h) (Or.inr ⟨by rfl, rfl⟩) (by assumption) ?_
          try simp only [Act.put, List.setIfInBounds_toArray, List.set_cons_zero, List.set_cons_succ]
          refine wpAnyH_take (i := 37) (oi := { dst := some 175, op := Op.call { callee := Callee.value (Operand.func 18), args := #[Operand.tmp 170, Operand.tmp 174], argTypes := #[34, 25] }, type := 4, pos := "law.go:200", after := #[{ on := 32, ground := Ground.data }, { on := 36, ground := Ground.data }, { on := 28, ground := Ground.chain }, { on := 28, ground := Ground.guard }], guard := some (28, true) }) (v := undef) rfl (by kernel_rfl) (by kernel_rfl) (by kernel_rfl) (fun _ _ _ h => h) (Or.inr ⟨by rfl, rfl⟩) (by assumption) ?_
          try simp only [Act.put, List.setIfInBounds_toArray, List.set_cons_zero, List.set_cons_succ]
          refine wpAnyH_take (i := 38) (oi := { dst := some 176, op := Op.unOp UnOp.not 4 (Operand.tmp 175), type := 4, pos := "law.go:200", after := #[{ on := 37, ground := Ground.data }, { on := 28, ground := Ground.guard }], guard := some (28, true) }) (v := undef) rfl (by kernel_rfl) (by kernel_rfl) (by kernel_rfl) (fun _ _ _ h => h) (Or.inr ⟨by rfl, rfl⟩) (by assumption) ?_
          try simp only [Act.put, List.setIfInBounds_toArray, List.set_cons_zero, List.set_cons_succ]
          refine' wpAnyH_take (i := 39) (oi := { dst := some 177, op := Op.pick (Operand.tmp 166) (Operand.tmp 176) (Operand.const (Value.bool false)), type := 4, pos := "law.go:200", after := #[{ on := 28, ground := Ground.data }, { on := 38, ground := Ground.data }, { on := 26, ground := Ground.guard }], guard := some (26, false) }) (v := _) rfl (by kernel_rfl) (by kernel_rfl) (by kernel_rfl) (fun _ _ _ h => h) (Or.inl ⟨by rfl, ?hyb39⟩) (by assumption) ?restb39
          case hyb39 =>
            intro w hSw
            try dsimp only at hSw
            go_simp
            try with_reducible rfl
          try simp only [Act.put, List.setIfInBounds_toArray, List.set_cons_zero, List.set_cons_succ]
          refine' wpAnyH_take (i := 40) (oi := { dst := some 178, op := Op.pick (Operand.tmp 164) (Operand.const (Value.bool true)) (Operand.tmp 177), type := 4, pos := "law.go:200", after := #[{ on := 26, ground := Ground.data }, { on := 39, ground := Ground.data }], guard := none }) (v := _) rfl (by kernel_rfl) (by kernel_rfl) (by kernel_rfl) (fun _ _ _ h => h) (Or.inl ⟨by rfl, ?hyb40⟩) (by assumption) ?restb40
          case hyb40 =>
            intro w hSw
            try dsimp only at hSw
            go_simp
            try with_reducible rfl
          try simp only [Act.put, List.setIfInBounds_toArray, List.set_cons_zero, List.set_cons_succ]
          refine wpAnyH_done (by kernel_rfl) ?_ _
          refine NoPanic.normal ?_
          replace HR := Lib.hid (HR.out.below hbq)
          replace HG := Lib.hid (HG.out.below hbq)
          replace HU := Lib.hid (HU.out.below hbq)
          replace HB := Lib.hid (bstep HB.out hbq)
          clear HE HF HC3 KP Z HV
          go_wp2_with fail
          go_roundg (gk - 1)
          case measure => omega
          case rel => exact ⟨i + 1, by omega, by go_num, HR, HG, HU, HB⟩
      · clear HR HG HU HL HLL
        go_wp2_with fail
        refine (lives_any _).mono ?_
        rintro e w16 ⟨rfl, b⟩
        replace HB := Lib.hid (bstep HB.out b)
        clear b
        go_wp2_with fail
        go_ret
        exact ⟨rfl, HB.out⟩
  · subst hp
    obtain rfl : E = 4 := by rw [← HEE.out, he]; rfl
    clear hl he HCS HEE HPZ HTL HTS HTT
    have gH50 := H5.out.c0
    have gH51 := H5.out.c1
    go_wp2_with fail
    have HQ := equal_any 0 0 _ _ _ H5.out.2 (tiny (by decide)) (RepN.nil (w9.alloc (.cells #[.bool d9, .slice A9 n9 c9] 34)) _) (Bits.zero _)
    rw [decide_eq_true rfl] at HQ
    refine (HQ).mono ?_
    rintro e w17 ⟨rfl, b⟩
    clear gH50 gH51
    replace HB := Lib.hid (bstep HB.out b)
    replace H1 := Lib.hid (H1.out.below b)
    replace H2 := Lib.hid (H2.out.below b)
    replace H3 := Lib.hid (H3.out.below b)
    replace H5 := Lib.hid (H5.out.below b)
    replace H8 := Lib.hid (H8.out.below b)
    replace H9 := Lib.hid (H9.out.below b)
    clear b
    clear HQ
    go_wp2_with fail
    refine (lives_any _).mono ?_
    rintro e w18 ⟨rfl, b⟩
    replace HB := Lib.hid (bstep HB.out b)
    replace H1 := Lib.hid (H1.out.below b)
    replace H2 := Lib.hid (H2.out.below b)
    replace H3 := Lib.hid (H3.out.below b)
    replace H5 := Lib.hid (H5.out.below b)
    replace H8 := Lib.hid (H8.out.below b)
    replace H9 := Lib.hid (H9.out.below b)
    clear b
    go_wp2_with fail
    go_ret
    exact ⟨rfl, HB.out⟩
end Go.Proofs.YtpilpceclmppgaaDoor
