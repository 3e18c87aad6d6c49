/- Layer 5's laws: RandAgrees. -/
import Derived.Test.YtgfhniiidejmoaaDoorA49
namespace Go.Proofs.YtgfhniiidejmoaaDoor
open Go.RowKit Go.Shelf
set_option linter.unusedVariables false

theorem sumL_ones : ∀ m : Nat, sumL (List.replicate m 1) = m := by
  intro m
  induction m with
  | zero => rfl
  | succ m ih => rw [List.replicate_succ, sumL, ih]; omega
theorem good_ones (m : Nat) (h : m ≤ 100) : goodW (List.replicate (m + 1) 1) := by
  refine ⟨by simp; omega, fun j hj => ?_, by rw [sumL_ones]; omega⟩
  have hj' : j < m + 1 := by simpa using hj
  rw [List.getElem?_replicate, if_pos hj']
  exact ⟨by decide, by decide⟩
theorem pick_ones {m k : Nat} {r : Int} (h : IsPick (List.replicate m 1) r k) : (k : Int) = r := by
  have h1 := h.1
  have h2 := h.2.1
  have h3 := h.2.2
  rw [List.length_replicate] at h1
  rw [List.take_replicate, show min k m = k from by omega, sumL_ones] at h2
  rw [List.take_replicate, show min (k + 1) m = k + 1 from by omega, sumL_ones] at h3
  omega
theorem isK_two {n : Int} (h2 : 2 ≤ n) (h : n ≤ 4611686018427387904) : IsK n 1 := by
  refine ⟨by omega, by rw [p64_one]; omega, fun j hj => ?_⟩
  obtain rfl : j = 0 := by omega
  rw [p64_zero]; omega
theorem isI_small {z : Int} (h0 : 0 ≤ z) (h1 : z ≤ 4611686018427387904) : isI z = true := by
  unfold isI; exact decide_eq_true (by omega)
theorem lim_small {z : Int} (h0 : 0 ≤ z) (h1 : z ≤ 4611686018427387904) : (z.natAbs : Int) < lim := by
  have h2 : (4611686018427387904 : Int) < lim := by decide +kernel
  rw [Int.natAbs_of_nonneg h0]; exact Int.lt_of_le_of_lt h1 h2
def AgreeB (seed n : Int) (a : Nat) (v y : Int) : Prop := ∀ w, Calls Tryd.prog 18 #[.int .u64 seed, .string ⟨#[116, 101, 115, 116]⟩, .int .i64 a, .int .i64 n] w fun e w' => e = .returned (.tuple #[.int .i64 v, .int .i64 y]) ∧ Below w.heap.size w w'
def AgreeG (seed n : Int) (a : Nat) (v y : Int) : Prop := ∀ u w, RepI w w.heap.size n u → Calls Tryd.prog 28 #[.int .u64 seed, .string ⟨#[116, 101, 115, 116]⟩, .int .i64 a, u] w (Num3 v y 0 w)
def AgreeS (v : Int) : Prop := ∀ u w, RepI w w.heap.size v u → Calls Tryd.prog 30 #[u] w (SmallU v true w)
def AgreeP (seed : Int) (a m : Nat) (v y : Int) : Prop := ∀ A c w, Sl .i64 w w.heap.size A (m + 1) (List.replicate (m + 1) 1) → Calls Tryd.prog 21 #[.int .u64 seed, .string ⟨#[116, 101, 115, 116]⟩, .int .i64 a, .slice A (m + 1) c] w fun e w' => e = .returned (.tuple #[.int .i64 v, .int .i64 y, .int .i64 0]) ∧ Below w.heap.size w w'
theorem agree_all (seed n : Int) (a : Nat) (ha : a ≤ 1000000000) (h2 : 2 ≤ n) (h : n ≤ 4611686018427387904) : ∃ v y : Int, AgreeB seed n a v y ∧ AgreeG seed n a v y ∧ AgreeS v := by
  have hb := belowV_bd (sB testB) seed a n (by omega)
  refine ⟨_, _, fun w => below_any seed a n testB w (by decide) (by omega) (by omega) (by omega) h, fun u w hx => ?_, fun u w hx => ?_⟩
  · have h1 := big_any seed n a testB u w hx (lim_small (by omega) h) 1 (by decide) ha (by omega) (isK_two h2 h)
    rw [bigV_one, bigJ_one, show ((a + (belowJ (sB testB) seed a n + 1) * 1 : Nat) : Int) = (a : Int) + belowJ (sB testB) seed a n + 1 from by omega] at h1
    exact h1
  · exact ismall_lim _ u w hx (lim_small hb.1 (by omega)) _ true (by rw [isI_small hb.1 (by omega)]; rfl) (isI_small hb.1 (by omega))
theorem agree_pick (seed : Int) (a m : Nat) (ha : a ≤ 1000000000) (hm : m ≤ 100) : ∃ v y : Int, AgreeB seed ((m + 1 : Nat) : Int) a v y ∧ AgreeP seed a m v y := by
  refine ⟨_, _, fun w => below_any seed a ((m + 1 : Nat) : Int) testB w (by decide) (by omega) (by omega) (by omega) (by omega), fun A c w hS => ?_⟩
  refine (rpick_good seed a testB A (m + 1) c _ w (by decide) (by omega) (by omega) hS (by omega) (good_ones m hm)).mono ?_
  rintro e w' ⟨k, hk, rfl, hb⟩
  rw [sumL_ones] at hk ⊢
  rw [pick_ones hk]
  exact ⟨rfl, hb⟩

set_option maxRecDepth 100000 in
set_option maxHeartbeats 4000000 in
theorem randAgrees_law (seed i k : Int) (w : World) (hi0 : -9223372036854775808 ≤ i) (hi1 : i ≤ 9223372036854775807) (hk0 : -9223372036854775808 ≤ k) (hk1 : k ≤ 9223372036854775807) (hR : RoundsAt w) :
    Calls Tryd.prog 8 #[.int .u64 seed, .int .i64 i, .int .i64 k] w fun e w' => e = .returned (.bool true) ∧ Below w.heap.size w w' := by
  obtain ⟨i0, hi, hz0, hz1, hz2⟩ := info_parts int_info
  have hbd := aroundI_bd i 1000000 (by omega)
  have hbd5 := aroundI_bd k 30 (by omega)
  have HA := Lib.hid (around63 i 1000000 w hi0 hi1 (by omega) (by omega))
  have HA2 := Lib.hid (fun w => around63 k 30 w hk0 hk1 (by omega) (by omega))
  have HBD := Lib.hid (rbound_any k w hk0 hk1)
  obtain ⟨a, hae⟩ := Int.eq_ofNat_of_zero_le hbd.1
  rw [hae] at HA hbd
  obtain ⟨m, hme⟩ := Int.eq_ofNat_of_zero_le hbd5.1
  rw [hme] at HA2 hbd5
  have ha : a ≤ 1000000000 := by omega
  have hm : m ≤ 29 := by omega
  clear hae hme hi0 hi1 hk0 hk1 hbd hbd5
  have HB := Lib.hid (Below.refl w.heap.size w)
  have HR := Lib.hid hR
  clear hR
  obtain ⟨p1, p2, hp1, hp2⟩ := agree_pick seed a m ha (by omega)
  rw [show ((m + 1 : Nat) : Int) = 1 + (m : Int) from by omega] at hp1
  have HB2 := Lib.hid hp1
  have HPK := Lib.hid hp2
  have e1 : (p1 == p1) = true := by simp
  have e2 : (p2 == p2) = true := by simp
  clear hp1 hp2
  go_enter Tryd.func8, Tryd.ntmps8
  go_wp2_with fail
  refine HA.out.mono ?_
  rintro e w1 ⟨rfl, rfl⟩
  clear HA
  go_wp2_with fail
  refine HBD.out.mono ?_
  rintro e w1 ⟨r, rfl, hr0, hr1, rfl⟩
  clear HBD
  obtain ⟨n, hn⟩ : ∃ n, n = max (2 : Int) r := ⟨_, rfl⟩
  have hn2 : 2 ≤ n := by omega
  have hn62 : n ≤ 4611686018427387904 := by omega
  obtain ⟨q1, q2, h1, h2, h3⟩ := agree_all seed n a ha hn2 hn62
  have HBN := Lib.hid h1
  have HBG := Lib.hid h2
  have HSM := Lib.hid h3
  have e3 : (q1 != q1) = false := by simp
  have e4 : (q2 != q2) = false := by simp
  have HN := Lib.hid hn
  clear h1 h2 h3 hr0 hr1 hn
  go_wp2_with fail
  rw [← HN.out]
  refine (HBN.out _).mono ?_
  rintro e w2 ⟨rfl, b⟩
  replace HB := Lib.hid (bstep HB.out b)
  clear b
  go_wp2_with fail
  refine (from_any n _ (by omega) (by omega)).mono ?_
  rintro e w3 ⟨v, rfl, h, b⟩
  replace HB := Lib.hid (bstep HB.out b)
  have V3 := Lib.hid h
  clear h b
  go_wp2_with fail
  refine (HBG.out _ _ V3.out).mono ?_
  rintro e w4 ⟨v, rfl, h, b⟩
  obtain ⟨d4, A4, n4, c4, rfl⟩ := h.shape
  replace HB := Lib.hid (bstep HB.out b)
  clear b V3
  have b := al_below w4 (.cells #[.bool d4, .slice A4 n4 c4] 48)
  have H4 := Lib.hid (HoldI.new h)
  replace HB := Lib.hid (bstep HB.out b)
  clear h b
  have g0 := H4.out.c0
  have g1 := H4.out.c1
  go_wp2_with fail
  refine (HSM.out _ _ H4.out.2).mono ?_
  rintro e w5 ⟨rfl, b⟩
  replace HB := Lib.hid (bstep HB.out b)
  clear b H4 g0 g1
  go_wp2_with fail
  refine HA2.out w5 |>.mono ?_
  rintro e w6 ⟨rfl, rfl⟩
  obtain ⟨W, hW⟩ : ∃ W, W = w5 := ⟨_, rfl⟩
  go_wp2_with fail
  clear hW
  go_loopw [17, 18] (fun o jv wr => ∃ j : Nat, j ≤ m + 1 ∧ jv = .int .i64 j ∧ wr.ownsRow w.heap.size 3 1 o j ((List.replicate j (1 : Int)).map (Value.int .i64)) ∧ Below w.heap.size w wr) (fun _ jv _ => m + 1 - (intOf jv).toNat)
  case atStart => exact ⟨0, by omega, rfl, World.ownsRow_nil _ _ _ _, HB.out⟩
  case round =>
    clear HB
    obtain ⟨j, hj, rfl, hown, hbel⟩ := hrel
    by_cases hlt : j < m + 1
    · have hlti : (j : Int) < 1 + (m : Int) := by omega
      go_wp2_with (at_builtin; refine wpList_append_own _ rfl _ _ _ rfl w.heap.size 3 i0 _ 1 8 Tryd.underlying30 hi hz0 hz1 hz2 rfl (by omega) _ j ((List.replicate j (1 : Int)).map (Value.int .i64)) rfl (hown.alloc _) ⟨wr.heap.size, 0, none⟩ 1 1 [Value.int .i64 1] rfl rfl (cell_one_new _ _ _) (by simp [Value.oneCell']) (by unfold maxLen; omega) (by omega) (by have := hbel.size; simp; omega) ?_; intro v1 w1 hown1 hg1 _)
      go_roundw
      case rel =>
        refine ⟨j + 1, by omega, by go_num, ?_, ?_⟩
        · rw [List.replicate_succ', List.map_append]; exact hown1
        · exact (hbel.alloc hbel.size _).trans (below_of_grown hg1 (by have := hbel.size; simp; omega) (fun g hg' => (hown.lt g hg').1))
      case measure => simp [intOf]; omega
    · obtain rfl : j = m + 1 := by omega
      have hlti : ¬ ((m + 1 : Nat) : Int) < 1 + (m : Int) := by omega
      obtain ⟨A, c, rfl, hnc, hcm, hSl⟩ := Sl.of_own hown
      have HSl := Lib.hid hSl
      have HB := Lib.hid hbel
      clear hown hbel hSl
      go_wp2_with fail
      refine (HB2.out _).mono ?_
      rintro e w7 ⟨rfl, b⟩
      replace HB := Lib.hid (bstep HB.out b)
      replace HSl := Lib.hid ((HSl.out.below b).more b.size)
      clear b
      go_wp2_with fail
      refine (HPK.out A c _ HSl.out).mono ?_
      rintro e w8 ⟨rfl, b⟩
      replace HB := Lib.hid (bstep HB.out b)
      clear b HSl
      go_wp2_with fail
      refine (rlives_any _ (HR.out.below HB.out)).mono ?_
      rintro e w9 ⟨rfl, b⟩
      replace HB := Lib.hid (bstep HB.out b)
      clear b
      go_wp2_with fail
      go_ret
      exact ⟨rfl, HB.out⟩
end Go.Proofs.YtgfhniiidejmoaaDoor
