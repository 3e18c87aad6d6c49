/- Bounds: refuterref05.Bound, refuterref01.Around for any modulus, Pick's value. -/
import Derived.Test.YtgfhniiidejmoaaDoorA36
import Derived.Test.YtgfhniiidejmoaaDoorA09
namespace Go.Proofs.YtgfhniiidejmoaaDoor
open Go.RowKit
set_option linter.unusedVariables false

theorem around63 (n m : Int) (w : World) (h0 : -9223372036854775808 ≤ n) (h1 : n ≤ 9223372036854775807) (h2 : 1 ≤ m) (h3 : m ≤ 9223372036854775807) :
    Calls Tryd.prog 16 #[.int .i64 n, .int .i64 m] w fun e w' => e = .returned (.int .i64 (aroundI n m)) ∧ w = w' := by
  by_cases h : n < 0
  · go_enter Tryd.func16, Tryd.ntmps16
    go_wp2
    go_ret
    exact ⟨ret_int (by rw [aroundI, if_pos h, ← Int.neg_tmod, Int.tmod_eq_emod_of_nonneg (by omega)]), rfl⟩
  · have h' : 0 ≤ n := by omega
    go_enter Tryd.func16, Tryd.ntmps16
    go_wp2
    go_ret
    exact ⟨ret_int (by rw [aroundI, if_neg (by omega)]), rfl⟩

/-- a bound of Bound -/
def BdR (w : World) (e : Ending) (w' : World) : Prop := ∃ r : Int, e = .returned (.int .i64 r) ∧ 1 ≤ r ∧ r ≤ 4611686018427387904 ∧ w = w'
set_option maxRecDepth 100000 in
set_option maxHeartbeats 4000000 in
theorem rbound_any (k : Int) (w : World) (h0 : -9223372036854775808 ≤ k) (h1 : k ≤ 9223372036854775807) :
    Calls Tryd.prog 17 #[.int .i64 k] w (BdR w) := by
  have hbd := aroundI_bd k 1000000 (by omega)
  have HA := Lib.hid (around63 k 1000000 w h0 h1 (by omega) (by omega))
  obtain ⟨n, hn⟩ : ∃ n, n = aroundI k 1000000 := ⟨_, rfl⟩
  rw [← hn] at HA hbd
  clear hn h0 h1
  obtain ⟨b0, b1⟩ := hbd
  have hm4 : 0 ≤ n.tmod 4 ∧ n.tmod 4 < 4 := by rw [Int.tmod_eq_emod_of_nonneg b0]; omega
  have hq4 : 0 ≤ n.tdiv 4 ∧ n.tdiv 4 < 1000000 := by rw [Int.tdiv_eq_ediv_of_nonneg b0]; omega
  have HM := Lib.hid hm4
  have HQ := Lib.hid hq4
  clear hm4 hq4
  by_cases c0 : n % 4 = 0
  · have e0 : (n % 4 == 0) = true := by simpa using c0
    go_enter Tryd.func17, Tryd.ntmps17
    go_wp2_with fail
    refine HA.out.mono ?_
    rintro e w1 ⟨rfl, rfl⟩
    go_wp2_with fail
    go_ret
    exact ⟨_, rfl, by omega, by omega, rfl⟩
  have e0 : (n % 4 == 0) = false := by simpa using c0
  by_cases c1 : n % 4 = 1
  · have e1 : (n % 4 == 1) = true := by simpa using c1
    go_enter Tryd.func17, Tryd.ntmps17
    go_wp2_with fail
    refine HA.out.mono ?_
    rintro e w1 ⟨rfl, rfl⟩
    go_wp2_with fail
    go_loop [4, 5] (fun o i => ∃ j : Nat, (j : Int) ≤ n / 4 % 62 ∧ i = .int .i64 j ∧ o = .int .i64 (2 ^ j : Nat)) (fun _ i => (62 - intOf i).toNat)
    case atStart => exact ⟨0, by omega, rfl, rfl⟩
    case round =>
      obtain ⟨j, hj, rfl, rfl⟩ := hrel
      have hj62 : j ≤ 61 := by omega
      have hp1 : 1 ≤ 2 ^ j := Nat.one_le_two_pow
      have hp2 : 2 ^ j ≤ 2305843009213693952 := by have := Nat.pow_le_pow_right (n := 2) (by omega) hj62; simpa using this
      have HN := Lib.hid (show 2 ^ (j + 1) = 2 ^ j * 2 from Nat.pow_succ 2 j)
      obtain ⟨p, hp⟩ : ∃ p, p = 2 ^ j := ⟨_, rfl⟩
      rw [← hp] at hp1 hp2 HN ⊢
      clear hp
      by_cases hlt : (j : Int) < n / 4 % 62
      · go_wp2_with fail
        go_round
        case rel => exact ⟨j + 1, by omega, by go_num, by rw [HN.out]; congr 1; omega⟩
        case measure => simp [intOf]; omega
      · by_cases hmx : (1 : Int) < (p : Int) + n / 400 % 3 - 1
        · go_wp2_with fail
          go_ret
          exact ⟨_, rfl, by omega, by omega, rfl⟩
        · go_wp2_with fail
          go_ret
          exact ⟨_, rfl, by omega, by omega, rfl⟩
  have e1 : (n % 4 == 1) = false := by simpa using c1
  by_cases c2 : n % 4 = 2
  · have e2 : (n % 4 == 2) = true := by simpa using c2
    go_enter Tryd.func17, Tryd.ntmps17
    go_wp2_with fail
    refine HA.out.mono ?_
    rintro e w1 ⟨rfl, rfl⟩
    go_wp2_with fail
    go_ret
    exact ⟨_, rfl, by omega, by omega, rfl⟩
  have e2 : (n % 4 == 2) = false := by simpa using c2
  have hnn : 0 ≤ n * n ∧ n * n ≤ 1000000 * 1000000 := ⟨Int.mul_nonneg b0 b0, Int.mul_le_mul (by omega) (by omega) b0 (by omega)⟩
  obtain ⟨hn0, hn1⟩ := hnn
  go_enter Tryd.func17, Tryd.ntmps17
  go_wp2_with fail
  refine HA.out.mono ?_
  rintro e w1 ⟨rfl, rfl⟩
  go_wp2_with fail
  go_ret
  exact ⟨_, rfl, by omega, by omega, rfl⟩
end Go.Proofs.YtgfhniiidejmoaaDoor
