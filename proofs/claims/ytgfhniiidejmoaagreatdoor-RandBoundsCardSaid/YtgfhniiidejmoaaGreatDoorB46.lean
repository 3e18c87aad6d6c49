/- Layer 5's laws: lives. · Layer 5's laws: RandBounds. -/
import Derived.Test.YtgfhniiidejmoaaGreatDoorB19
import Derived.Test.YtgfhniiidejmoaaGreatDoorB44
import Derived.Test.YtgfhniiidejmoaaGreatDoorB45
import Derived.Test.YtgfhniiidejmoaaGreatDoorB37
import Derived.Test.YtgfhniiidejmoaaGreatDoorB34
namespace Go.Proofs.YtgfhniiidejmoaaGreatDoor
open Go.RowKit Go.Shelf
set_option linter.unusedVariables false

/-- the label of the section's examples -/
def xB : ByteArray := ⟨#[120]⟩
theorem below_one (lab : List Int) (seed i : Int) : belowV lab seed i 1 = 0 ∧ belowJ lab seed i 1 = 0 := by
  refine ⟨by unfold belowV; omega, ?_⟩
  have h : IsFirst (fun j => fitW 1 (wordI lab seed (i + j))) 0 := ⟨by omega, .inr (by
    have := (wordI_u64 lab seed (i + (0 : Nat))).2
    unfold fitW
    exact decide_eq_true (by omega)), fun j hj => by omega⟩
  exact firstJ_of h
theorem isK_one : IsK 1 0 := ⟨by omega, by rw [p64_zero]; omega, fun j hj => by omega⟩
theorem pick_mid {r : Int} {k : Nat} (h : IsPick [0, 3, 0] r k) : k = 1 := by
  have h1 := h.pos
  have h2 := h.1
  simp only [List.length_cons, List.length_nil] at h2
  have : k = 0 ∨ k = 1 ∨ k = 2 := by omega
  rcases this with rfl | rfl | rfl
  · simp at h1
  · rfl
  · simp at h1
theorem good_mid : goodW [0, 3, 0] := by
  refine ⟨by decide, fun j hj => ?_, by decide⟩
  simp only [List.length_cons, List.length_nil] at hj
  have : j = 0 ∨ j = 1 ∨ j = 2 := by omega
  rcases this with rfl | rfl | rfl <;> decide
theorem place_one {seed : Int} {L : List Int} (h : PlaceL seed 1 1 L) : L = [0] := by
  obtain ⟨h1, h2⟩ := h
  obtain ⟨y, t, hy, hit⟩ := h2 0 (by omega)
  have h3 := hit.2.2.1
  match L, h1 with
  | [x], _ => simp at hy; rw [hy]; congr 1; omega

theorem three_at (k : IntKind) (w : World) (t : TypeId) (a b c : Int) (g : Nat) (hg : w.heap.size = g) : Sl k (w.alloc (.cells #[.int k a, .int k b, .int k c] t)) (w.alloc (.cells #[.int k a, .int k b, .int k c] t)).heap.size (some ⟨g, 0, none⟩) 3 [a, b, c] := by
  subst hg; exact three_cells k w t a b c
theorem below5 (w : World) : Calls Tryz.prog 39 #[.int .u64 1, .string ⟨#[120]⟩, .int .i64 5, .int .i64 1] w fun e w' => e = .returned (.tuple #[.int .i64 0, .int .i64 6]) ∧ Below w.heap.size w w' := by
  have h := below_any 1 5 1 xB w (by decide) (by omega) (by omega) (by omega) (by omega)
  rw [(below_one _ _ _).1, (below_one _ _ _).2] at h
  exact h
theorem big5 (u : Value) (w : World) (hx : RepI w w.heap.size 1 u) : Calls Tryz.prog 14 #[.int .u64 1, .string ⟨#[120]⟩, .int .i64 5, u] w (Num3 0 5 0 w) := by
  have h := big_any 1 1 5 xB u w hx (by decide +kernel) 0 (by decide) (by omega) (by omega) isK_one
  have h1 : bigV (sB xB) 1 5 1 0 = 0 := by have := bigV_bd (sB xB) 1 5 1 0 (by omega); omega
  rw [h1, Nat.mul_zero] at h
  exact h
theorem pick5 (b d : Nat) (w : World) (hS : Sl .i64 w w.heap.size (some ⟨b, 0, none⟩) 3 [0, 3, 0]) : Calls Tryz.prog 41 #[.int .u64 1, .string ⟨#[120]⟩, .int .i64 5, .slice (some ⟨b, 0, none⟩) 3 3] w fun e w' => ∃ y, e = .returned (.tuple #[.int .i64 1, .int .i64 y, .int .i64 0]) ∧ Below w.heap.size w w' := by
  refine (rpick_good 1 5 xB (some ⟨b, 0, none⟩) 3 3 _ w (by decide) (by omega) (by omega) hS (by omega) good_mid).mono ?_
  rintro e w' ⟨k, hk, rfl, hb⟩
  rw [pick_mid hk]
  exact ⟨_, rfl, hb⟩
theorem shuf9 (w : World) (hR : RoundsAt w) : Calls Tryz.prog 42 #[.int .u64 9, .int .i64 1] w fun e w' => ∃ G, e = .returned (.tuple #[.slice (some ⟨G, 0, none⟩) 1 1, .int .i64 0]) ∧ Sl .i64 w' w'.heap.size (some ⟨G, 0, none⟩) 1 [0] ∧ Below w.heap.size w w' := by
  refine (shuffle_good 9 1 w (by omega) (by omega) hR).mono ?_
  rintro e w' ⟨G, L, rfl, hr, hp, hb⟩
  rw [place_one hp] at hr
  exact ⟨G, rfl, hr.sl 0 1 _ (by simp) hr.lt, hb⟩

set_option maxRecDepth 100000 in
set_option maxHeartbeats 4000000 in
theorem rlives_any (w : World) (hR : RoundsAt w) : Calls Tryz.prog 19 #[] w fun e w' => e = .returned (.bool true) ∧ Below w.heap.size w w' := by
  have HB := Lib.hid (Below.refl w.heap.size w)
  have HR := Lib.hid hR
  clear hR
  go_enter Tryz.func19, Tryz.ntmps19
  go_wp2_with fail
  refine (below5 _).mono ?_
  rintro e w1 ⟨rfl, b⟩
  replace HB := Lib.hid (bstep HB.out b)
  replace HR := Lib.hid (HR.out.below b)
  clear b
  go_wp2_with fail
  refine (from_any 1 _ (by omega) (by omega)).mono ?_
  rintro e w2 ⟨v, rfl, h, b⟩
  replace HB := Lib.hid (bstep HB.out b)
  replace HR := Lib.hid (HR.out.below b)
  have V := Lib.hid h
  clear h b
  go_wp2_with fail
  refine (big5 _ _ V.out).mono ?_
  rintro e w3 ⟨v, rfl, h, b⟩
  obtain ⟨d3, A3, n3, c3, rfl⟩ := h.shape
  replace HB := Lib.hid (bstep HB.out b)
  replace HR := Lib.hid (HR.out.below b)
  clear V b
  have b := al_below w3 (.cells #[.bool d3, .slice A3 n3 c3] 36)
  have H3 := Lib.hid (HoldI.new h)
  replace HB := Lib.hid (bstep HB.out b)
  replace HR := Lib.hid (HR.out.below b)
  clear h b
  go_wp2_with fail
  have hs := three_at .i64 (w3.alloc (.cells #[.bool d3, .slice A3 n3 c3] 36)) 3 0 3 0 (w3.heap.size + 1) (World.size_alloc _ _)
  have b := al_below (w3.alloc (.cells #[.bool d3, .slice A3 n3 c3] 36)) (.cells #[.int .i64 0, .int .i64 3, .int .i64 0] 3)
  replace HB := Lib.hid (bstep HB.out b)
  replace HR := Lib.hid (HR.out.below b)
  replace H3 := Lib.hid (H3.out.below b)
  clear b
  refine (pick5 _ 0 _ hs).mono ?_
  rintro e w4 ⟨y, rfl, b⟩
  replace HB := Lib.hid (bstep HB.out b)
  replace HR := Lib.hid (HR.out.below b)
  replace H3 := Lib.hid (H3.out.below b)
  clear b hs
  go_wp2_with fail
  refine (shuf9 _ HR.out).mono ?_
  rintro e w5 ⟨G, rfl, hs, b⟩
  replace HB := Lib.hid (bstep HB.out b)
  replace H3 := Lib.hid (H3.out.below b)
  have HS := Lib.hid hs
  clear b hs HR
  have g0 := H3.out.c0
  have g1 := H3.out.c1
  go_wp2_with fail
  refine (isign_lim 0 _ _ H3.out.2 (by decide +kernel) 0 rfl).mono ?_
  rintro e w6 ⟨rfl, b⟩
  replace HB := Lib.hid (bstep HB.out b)
  replace HS := Lib.hid (HS.out.below b |>.more b.size)
  clear b g0 g1 H3
  go_wp2_with fail
  have h1 := one_cell .i64 w6 3 0
  have b := al_below w6 (.cells #[.int .i64 0] 3)
  replace HB := Lib.hid (bstep HB.out b)
  replace HS := Lib.hid (HS.out.below b |>.more b.size)
  refine (sameInts _ _ 1 1 1 [0] [0] _ (by decide) HS.out h1).mono ?_
  rintro e w7 ⟨rfl, q, rfl⟩
  replace HB := Lib.hid (below_drewN HB.out q)
  clear HS h1 b
  go_wp2_with fail
  go_ret
  exact ⟨rfl, HB.out⟩
end Go.Proofs.YtgfhniiidejmoaaGreatDoor
namespace Go.Proofs.YtgfhniiidejmoaaGreatDoor
open Go.RowKit Go.Shelf
set_option linter.unusedVariables false

/-- the label of the laws -/
def testZ : ByteArray := ⟨#[116, 101, 115, 116]⟩
theorem bd_facts {d : Int} (h0 : -3 ≤ d) (h1 : d ≤ 3) : 1 ≤ p64 255 + d ∧ (((p64 255 + d).natAbs : Int) < lim) ∧ Bits 20000 (p64 255 + d) ∧ ∀ j, j < 255 → p64 j < p64 255 + d := by
  have h2 : p64 255 + 3 < lim := by decide +kernel
  have h3 : p64 254 + 3 < p64 255 := by decide +kernel
  have h4 : 0 < p64 254 := p64_pos 254
  have hb : Bits 16321 (p64 255 + d) := by
    have h5 : p64 255 + 3 < 2 ^ 16321 := by decide +kernel
    unfold Bits
    generalize p64 255 = P at *
    generalize p64 254 = Q at *
    generalize (2 : Int) ^ 16321 = R at *
    omega
  refine ⟨?_, ?_, hb.mono (by omega), fun j hj => ?_⟩
  · generalize p64 255 = P at *
    generalize p64 254 = Q at *
    omega
  · generalize p64 255 = P at *
    generalize p64 254 = Q at *
    generalize lim = R at *
    omega
  · have h5 := p64_mono (show j ≤ 254 by omega)
    generalize p64 255 = P at *
    generalize p64 254 = Q at *
    omega
def BigA (seed z x y er : Int) : Prop := ∀ u w, RepI w w.heap.size z u → Calls Tryz.prog 14 #[.int .u64 seed, .string ⟨#[116, 101, 115, 116]⟩, .int .i64 0, u] w (Num3 x y er w)
theorem big_over (seed : Int) {d : Int} (h0 : 0 < d) (h1 : d ≤ 3) : BigA seed (p64 255 + d) 0 0 4 := fun u w hx => by
  have hf := bd_facts (show -3 ≤ d by omega) h1
  exact big_lim seed (p64 255 + d) 0 testZ u w hx hf.2.1 (fun j hj => by
    have h5 := p64_mono hj
    generalize p64 255 = P at *
    omega)
theorem big_under (seed : Int) {d : Int} (h0 : -3 ≤ d) (h1 : d ≤ 0) : ∃ x y : Int, BigA seed (p64 255 + d) x y 0 ∧ 0 < y ∧ y % 255 = 0 ∧ 0 ≤ x ∧ x < p64 255 + d := by
  have hf := bd_facts h0 (show d ≤ 3 by omega)
  have hV := bigV_bd (sB testZ) seed 0 (p64 255 + d) 255 hf.1
  have hK : IsK (p64 255 + d) 255 := ⟨by omega, by generalize p64 255 = P at *; omega, hf.2.2.2⟩
  exact ⟨_, _, fun u w hx => big_any seed (p64 255 + d) 0 testZ u w hx hf.2.1 255 (by decide) (by omega) hf.1 hK, by omega, by omega, hV.1, hV.2⟩
theorem pow_255' (w : World) : Calls Tryz.prog 10 #[.int .i64 16320] w (NewN (p64 255) w) := power_p64 255 w (by omega)
/-- what the law asks of the reference and the package, for one bound -/
theorem bd_laws {d : Int} (h0 : -3 ≤ d) (h1 : d ≤ 3) : ∃ (z : Int) (T : ByteArray), z = p64 255 + d ∧ (∀ u v w, RepN w w.heap.size (p64 255) u → RepN w w.heap.size d v → Calls Tryz.prog 21 #[u, v] w (NewN z w)) ∧
    (∀ v w, RepN w w.heap.size z v → Calls Tryz.prog 13 #[v] w fun e w' => e = .returned (.string T) ∧ Below w.heap.size w w') ∧
    (∀ w, Calls Tryz.prog 12 #[.string T] w (NewE z 0 w)) ∧ (z.natAbs : Int) < lim := by
  have hf := bd_facts h0 h1
  refine ⟨_, strB (decT (p64 255 + d)), rfl, fun u v w hu hv => add_any _ _ u v w hu hv ((p64_bits (by omega)).mono (by omega)) ?_, fun v w hv => text_any _ v w hv (hf.2.2.1.mono (by omega)), fun w => ?_, hf.2.1⟩
  · unfold Bits
    have h5 : (4 : Int) < 2 ^ 200000 := by decide +kernel
    generalize (2 : Int) ^ 200000 = R at *
    omega
  · exact iparse_as _ (decT (p64 255 + d)) (by simp [strB]) w _ 0 (read_back hf.2.1)

set_option maxRecDepth 100000 in
set_option maxHeartbeats 4000000 in
theorem randBounds_law (seed k : Int) (w : World) (hk0 : -9223372036854775808 ≤ k) (hk1 : k ≤ 9223372036854775807) (hR : RoundsAt w) :
    Calls Tryz.prog 4 #[.int .u64 seed, .int .i64 k] w fun e w' => e = .returned (.bool true) ∧ Below w.heap.size w w' := by
  have hbd := aroundI_bd k (2 * 3 + 1) (by omega)
  have HBK := Lib.hid (bound_any k 3 w hk0 hk1 (by omega) (by omega))
  obtain ⟨d, hd⟩ : ∃ d, d = aroundI k (2 * 3 + 1) - 3 := ⟨_, rfl⟩
  rw [← hd] at HBK
  have hd0 : -3 ≤ d := by omega
  have hd1 : d ≤ 3 := by omega
  clear hd hbd hk0 hk1
  obtain ⟨z, T, hz, ha, ht, hp, hl⟩ := bd_laws hd0 hd1
  obtain ⟨P, hP⟩ : ∃ P, P = p64 255 := ⟨_, rfl⟩
  have HPW := Lib.hid (fun w => pow_255' w)
  have HBO := Lib.hid (fun h => big_over seed (d := d) h hd1)
  have HBU := Lib.hid (fun h => big_under seed (d := d) hd0 h)
  rw [← hz] at HBO HBU
  rw [← hP] at ha HPW
  have HAD := Lib.hid ha
  have HTX := Lib.hid ht
  have HPR := Lib.hid hp
  have HL := Lib.hid hl
  clear hz hP ha ht hp hl
  have HB := Lib.hid (Below.refl w.heap.size w)
  have HR := Lib.hid hR
  clear hR
  go_enter Tryz.func4, Tryz.ntmps4
  go_wp2_with fail
  refine HBK.out.mono ?_
  rintro e w1 ⟨rfl, rfl⟩
  clear HBK
  go_wp2_with fail
  refine (HPW.out _).mono ?_
  rintro e w1 ⟨v, rfl, h, b⟩
  replace HB := Lib.hid (bstep HB.out b)
  have V1 := Lib.hid h
  clear h b
  go_wp2_with fail
  refine (of_any d _ (by omega) (by omega)).mono ?_
  rintro e w2 ⟨v2, rfl, h, b⟩
  replace HB := Lib.hid (bstep HB.out b)
  replace V1 := Lib.hid (V1.out.step b)
  have V2 := Lib.hid h
  clear h b
  go_wp2_with fail
  refine (HAD.out _ _ _ V1.out V2.out).mono ?_
  rintro e w3 ⟨v3, rfl, h, b⟩
  obtain ⟨d3, A3, n3, c3, rfl⟩ := h.shape'
  replace HB := Lib.hid (bstep HB.out b)
  have H3 := Lib.hid (HoldN.new h)
  replace HB := Lib.hid (bstep HB.out (al_below w3 (.cells #[.bool d3, .slice A3 n3 c3] 26)))
  clear h b V1 V2
  have g0 := H3.out.c0
  have g1 := H3.out.c1
  go_wp2_with fail
  refine (HTX.out _ _ H3.out.2).mono ?_
  rintro e w4 ⟨rfl, b⟩
  replace HB := Lib.hid (bstep HB.out b)
  clear b g0 g1 H3
  go_wp2_with fail
  refine (HPR.out _).mono ?_
  rintro e w5 ⟨v5, rfl, h, b⟩
  obtain ⟨d5, A5, n5, c5, rfl⟩ := h.shape
  replace HB := Lib.hid (bstep HB.out b)
  have H5 := Lib.hid (HoldI.new h)
  replace HB := Lib.hid (bstep HB.out (al_below w5 (.cells #[.bool d5, .slice A5 n5 c5] 36)))
  clear h b
  have g0 := H5.out.c0
  have g1 := H5.out.c1
  by_cases hdp : 0 < d
  · have HBG := Lib.hid (HBO.out hdp)
    go_wp2_with fail
    refine (HBG.out _ _ H5.out.2).mono ?_
    rintro e w6 ⟨v6, rfl, h, b⟩
    obtain ⟨d6, A6, n6, c6, rfl⟩ := h.shape
    replace HB := Lib.hid (bstep HB.out b)
    replace H5 := Lib.hid (H5.out.below b)
    have H6 := Lib.hid (HoldI.new h)
    have b6 := al_below w6 (.cells #[.bool d6, .slice A6 n6 c6] 36)
    replace HB := Lib.hid (bstep HB.out b6)
    replace H5 := Lib.hid (H5.out.below b6)
    clear h b b6 g0 g1 HBG HBO HBU
    have g0 := H5.out.c0
    have g1 := H5.out.c1
    have g2 := H6.out.c0
    have g3 := H6.out.c1
    go_wp2_with fail
    refine (isign_lim 0 _ _ H6.out.2 (by decide +kernel) 0 rfl).mono ?_
    rintro e w7 ⟨rfl, b⟩
    replace HB := Lib.hid (bstep HB.out b)
    clear b g0 g1 g2 g3 H5 H6
    go_wp2_with fail
    refine (rlives_any _ (HR.out.below HB.out)).mono ?_
    rintro e w9 ⟨rfl, b⟩
    replace HB := Lib.hid (bstep HB.out b)
    clear b
    go_wp2_with fail
    go_ret
    exact ⟨rfl, HB.out⟩
  · obtain ⟨x, y, h1, hy0, hy1, hx0, hx1⟩ := HBU.out (by omega)
    have hdn : decide (0 < d) = false := decide_eq_false hdp
    clear hdp
    have HBG := Lib.hid h1
    have hy2 : (y % 255 == 0) = true := by rw [hy1]; rfl
    obtain ⟨r, hr⟩ : ∃ r, cmpI' x 0 = r := ⟨_, rfl⟩
    have hr0 : 0 ≤ r := by rw [← hr]; unfold cmpI'; split <;> (try split) <;> omega
    obtain ⟨c, hc⟩ : ∃ c, cmpI' x z = c := ⟨_, rfl⟩
    have hc0 : c < 0 := by rw [← hc]; unfold cmpI'; split <;> (try split) <;> omega
    have HXL := Lib.hid (show (x.natAbs : Int) < lim from Int.lt_trans (show (x.natAbs : Int) < (z.natAbs : Int) by omega) HL.out)
    have HRR := Lib.hid hr
    have HCC := Lib.hid hc
    clear h1 hy1 hr hc hx0 hx1
    go_wp2_with fail
    refine (HBG.out _ _ H5.out.2).mono ?_
    rintro e w6 ⟨v6, rfl, h, b⟩
    obtain ⟨d6, A6, n6, c6, rfl⟩ := h.shape
    replace HB := Lib.hid (bstep HB.out b)
    replace H5 := Lib.hid (H5.out.below b)
    have H6 := Lib.hid (HoldI.new h)
    have b6 := al_below w6 (.cells #[.bool d6, .slice A6 n6 c6] 36)
    replace HB := Lib.hid (bstep HB.out b6)
    replace H5 := Lib.hid (H5.out.below b6)
    clear h b b6 g0 g1 HBG HBO HBU
    have g0 := H5.out.c0
    have g1 := H5.out.c1
    have g2 := H6.out.c0
    have g3 := H6.out.c1
    go_wp2_with fail
    refine (isign_lim x _ _ H6.out.2 HXL.out r HRR.out).mono ?_
    rintro e w7 ⟨rfl, b⟩
    replace HB := Lib.hid (bstep HB.out b)
    replace H5 := Lib.hid (H5.out.below b)
    replace H6 := Lib.hid (H6.out.below b)
    clear b g0 g1 g2 g3
    have g0 := H5.out.c0
    have g1 := H5.out.c1
    have g2 := H6.out.c0
    have g3 := H6.out.c1
    go_wp2_with fail
    refine (icompare_lim x z _ _ _ H6.out.2 H5.out.2 HXL.out HL.out c HCC.out).mono ?_
    rintro e w8 ⟨rfl, b⟩
    replace HB := Lib.hid (bstep HB.out b)
    clear b g0 g1 g2 g3 H5 H6
    go_wp2_with fail
    refine (rlives_any _ (HR.out.below HB.out)).mono ?_
    rintro e w9 ⟨rfl, b⟩
    replace HB := Lib.hid (bstep HB.out b)
    clear b
    go_wp2_with fail
    go_ret
    exact ⟨rfl, HB.out⟩
end Go.Proofs.YtgfhniiidejmoaaGreatDoor
