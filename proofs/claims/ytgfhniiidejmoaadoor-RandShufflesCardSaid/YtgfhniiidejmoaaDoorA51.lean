/- Layer 5's laws: RandShuffles. -/
import Derived.Test.YtgfhniiidejmoaaDoorA43
import Derived.Test.YtgfhniiidejmoaaDoorA48
namespace Go.Proofs.YtgfhniiidejmoaaDoor
open Go.RowKit Go.Shelf
set_option linter.unusedVariables false

theorem place_ne {seed : Int} {n : Nat} {L : List Int} (hn : n ≤ 1099511627776) (h : PlaceL seed n n L) {i j : Nat} (hi : i < n) (hj : j < i) : (L[i]?.getD 0 == L[j]?.getD 0) = false := by
  obtain ⟨y, t, h1, h2⟩ := h.2 i hi
  obtain ⟨z, s, h3, h4⟩ := h.2 j (by omega)
  have hne : y ≠ z := by
    rintro rfl
    have := hit_one (ordB_back hn hi h2) (ordB_back hn (by omega) h4)
    omega
  rw [h1, h3]; simp; omega

set_option maxRecDepth 100000 in
set_option maxHeartbeats 4000000 in
theorem randShuffles_law (seed n : Int) (w : World) (hn0 : -9223372036854775808 ≤ n) (hn1 : n ≤ 9223372036854775807) (hR : RoundsAt w) :
    Calls Tryd.prog 7 #[.int .u64 seed, .int .i64 n] w fun e w' => e = .returned (.bool true) ∧ Below w.heap.size w w' := by
  have hbd := aroundI_bd n 80 (by omega)
  have hbd3 := aroundI_bd n 3 (by omega)
  have hbd4 := aroundI_bd n 4 (by omega)
  have HA := Lib.hid (around63 n 80 w hn0 hn1 (by omega) (by omega))
  have HA3 := Lib.hid (fun w => around63 n 3 w hn0 hn1 (by omega) (by omega))
  have HA4 := Lib.hid (fun w => around63 n 4 w hn0 hn1 (by omega) (by omega))
  obtain ⟨z, hze⟩ := Int.eq_ofNat_of_zero_le hbd.1
  rw [hze] at HA hbd
  obtain ⟨z3, hz3e⟩ : ∃ z, z = aroundI n 3 := ⟨_, rfl⟩
  rw [← hz3e] at HA3 hbd3
  obtain ⟨z4, hz4e⟩ := Int.eq_ofNat_of_zero_le hbd4.1
  rw [hz4e] at HA4 hbd4
  obtain ⟨c30, c31⟩ := hbd3
  have hz80 : z + 1 ≤ 80 := by omega
  have hz4 : z4 < 4 := by omega
  clear hze hz3e hz4e hbd hbd4 hn0 hn1
  have HB := Lib.hid (Below.refl w.heap.size w)
  have HR := Lib.hid hR
  clear hR
  go_enter Tryd.func7, Tryd.ntmps7
  go_wp2_with fail
  refine HA.out.mono ?_
  rintro e w1 ⟨rfl, rfl⟩
  clear HA
  obtain ⟨k, hk⟩ : ∃ k, k = 1 + z := ⟨_, rfl⟩
  have hki : (1 : Int) + (z : Int) = (k : Int) := by omega
  have HKI := Lib.hid hki
  have hk1 : 1 ≤ k := by omega
  have hk80 : k ≤ 80 := by omega
  clear hk hki
  go_wp2_with fail
  rw [HKI.out]
  refine (shuffle_good seed k _ hk1 (by omega) HR.out).mono ?_
  rintro e w2 ⟨G, L, rfl, hW, hP, b⟩
  replace HB := Lib.hid (bstep HB.out b)
  have HW := Lib.hid hW
  have HP := Lib.hid hP
  clear b hW hP
  have hd0 : ((k : Int) != (k : Int)) = false := by simp
  go_wp2_with fail
  go_loopw [8] (fun iv wr => ∃ i : Nat, i ≤ k ∧ iv = .int .i64 i ∧ Hid (RowW .i64 wr G 3 L) ∧ Hid (Below w.heap.size w wr)) (fun iv _ => k - (intOf iv).toNat)
  case atStart => exact ⟨0, by omega, rfl, HW, HB⟩
  case round =>
    clear HW HB
    obtain ⟨i, hi, rfl, HW, HB⟩ := hrel
    by_cases hlt : i < k
    · obtain ⟨y, t, hy, hit⟩ := HP.out.2 i hlt
      have hcell := HW.out.cell i (by rw [HP.out.1]; exact hlt)
      rw [hy] at hcell
      have HO := Lib.hid (fun w hw => order_good seed k y i t w (by omega) hit.2.2.1 hw (ordB_back (by omega) hlt hit))
      have hlti : (i : Int) < (k : Int) := by omega
      have hd1 : ((i : Int) != (i : Int)) = false := by simp
      clear hit hy
      go_wp2_with fail
      refine (HO.out _ (HR.out.below HB.out)).mono ?_
      rintro e w3 ⟨rfl, b⟩
      replace HB := Lib.hid (bstep HB.out b)
      replace HW := Lib.hid (HW.out.below b HW.out.lt)
      clear b HO hcell
      go_wp2_with fail
      go_loopw [11] (fun jv wr => ∃ j : Nat, j ≤ i ∧ jv = .int .i64 j ∧ Hid (RowW .i64 wr G 3 L) ∧ Hid (Below w.heap.size w wr)) (fun jv _ => i - (intOf jv).toNat)
      case atStart => exact ⟨0, by omega, rfl, HW, HB⟩
      case round =>
        clear HW HB
        obtain ⟨j, hj, rfl, HW, HB⟩ := hrel
        by_cases hjl : j < i
        · have hjli : (j : Int) < (i : Int) := by omega
          have hne := place_ne (by omega) HP.out hlt hjl
          have c1 := HW.out.cell i (by rw [HP.out.1]; exact hlt)
          have c2 := HW.out.cell j (by rw [HP.out.1]; omega)
          obtain ⟨x1, hx1⟩ : ∃ x, L[i]?.getD 0 = x := ⟨_, rfl⟩
          obtain ⟨x2, hx2⟩ : ∃ x, L[j]?.getD 0 = x := ⟨_, rfl⟩
          rw [hx1] at c1 hne
          rw [hx2] at c2 hne
          clear hx1 hx2
          have hjk : (j : Int) < (k : Int) := by omega
          go_wp2
          go_quiet (fail)
          go_wp2
          go_roundw
          case rel => exact ⟨j + 1, by omega, by go_num, Lib.hid (HW.out.drewN _), Lib.hid (below_drewN HB.out _)⟩
          case measure => simp [intOf]; omega
        · obtain rfl : j = i := by omega
          go_wp2_with fail
          go_roundw
          case rel => exact ⟨j + 1, by omega, by go_num, HW, HB⟩
          case measure => simp [intOf]; omega
    · obtain rfl : i = k := by omega
      clear HW HP
      go_wp2_with fail
      refine (HA3.out _).mono ?_
      rintro e w4 ⟨rfl, rfl⟩
      go_wp2_with fail
      refine (shuffle_bad seed (z3 - 2) _ (by omega)).mono ?_
      rintro e w4 ⟨rfl, rfl⟩
      by_cases hz42 : z4 < 2
      · have hz4' : (z4 : Int) < 2 := by omega
        go_wp2_with fail
        refine (HA4.out _).mono ?_
        rintro e w5 ⟨rfl, rfl⟩
        go_wp2_with fail
        rw [show (1023 : Int) + (z4 : Int) = ((1023 + z4 : Nat) : Int) from by omega]
        refine (shuffle_good seed (1023 + z4) _ (by omega) (by omega) (HR.out.below HB.out)).mono ?_
        rintro e w6 ⟨G2, L2, rfl, hW2, hP2, b⟩
        replace HB := Lib.hid (bstep HB.out b)
        clear b hW2 hP2
        go_wp2_with fail
        refine (HA4.out _).mono ?_
        rintro e w7 ⟨rfl, rfl⟩
        go_wp2_with fail
        refine (HA4.out _).mono ?_
        rintro e w7 ⟨rfl, rfl⟩
        have hcast : (((1023 + z4 : Nat) : Int) == 1023 + (z4 : Int)) = true := by simp
        go_wp2_with fail
        refine (rlives_any _ (HR.out.below HB.out)).mono ?_
        rintro e w8 ⟨rfl, b⟩
        replace HB := Lib.hid (bstep HB.out b)
        clear b
        go_wp2_with fail
        go_ret
        exact ⟨rfl, HB.out⟩
      · have hz4' : ¬ (z4 : Int) < 2 := by omega
        go_wp2_with fail
        refine (HA4.out _).mono ?_
        rintro e w5 ⟨rfl, rfl⟩
        go_wp2_with fail
        rw [show (1023 : Int) + (z4 : Int) = ((1023 + z4 : Nat) : Int) from by omega]
        refine (shuffle_bad seed ((1023 + z4 : Nat) : Int) _ (by omega)).mono ?_
        rintro e w6 ⟨rfl, rfl⟩
        go_wp2_with fail
        refine (HA4.out _).mono ?_
        rintro e w7 ⟨rfl, rfl⟩
        go_wp2_with fail
        refine (rlives_any _ (HR.out.below HB.out)).mono ?_
        rintro e w8 ⟨rfl, b⟩
        replace HB := Lib.hid (bstep HB.out b)
        clear b
        go_wp2_with fail
        go_ret
        exact ⟨by have h : decide ((z4 : Int) < 2) = false := decide_eq_false (by omega); rw [h]; rfl, HB.out⟩
end Go.Proofs.YtgfhniiidejmoaaDoor
