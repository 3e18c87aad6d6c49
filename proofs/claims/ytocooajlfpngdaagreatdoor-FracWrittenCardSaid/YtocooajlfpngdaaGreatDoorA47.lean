/- Contracts of the reference's small functions: Few, Ints, SameInts, SameBytes. · The contract of hash.firstWord. · The contract of hash.mix. -/
import Derived.Test.YtocooajlfpngdaaGreatDoorA03
import Derived.Test.YtocooajlfpngdaaGreatDoorA01
import Derived.Laws.BitsAllLaws
namespace Go.Proofs.YtocooajlfpngdaaGreatDoor
open Go.RowKit
set_option linter.unusedVariables false

/-! ### Few, Ints -/
theorem u8_info : (Tryz.prog.info? 5).map (fun i => (i.zero, i.size, i.bytes)) = some (some (.int .u8 0), 1, 1) := by kernel_rfl
end Go.Proofs.YtocooajlfpngdaaGreatDoor
namespace Go.Proofs.YtocooajlfpngdaaGreatDoor
open Go.RowKit
set_option linter.unusedVariables false

theorem or_step (W z : Int) (k : Nat) (hk : k < 8) (hW : 0 ≤ W ∧ W < 256 ^ k) (hz : byteI z) :
    bits BinOp.or IntKind.u64 W (IntKind.u64.wrap (z * 2 ^ (8 * k))) = W + z * 256 ^ k := by
  obtain ⟨hz0, hz1⟩ := hz
  obtain ⟨a, rfl⟩ := Int.eq_ofNat_of_zero_le hW.1
  obtain ⟨y, rfl⟩ := Int.eq_ofNat_of_zero_le hz0
  have hp : (256 : Int) ^ k = ((2 ^ (8 * k) : Nat) : Int) := by
    rw [Nat.pow_mul]; simp
  have hp2 : (2 : Int) ^ (8 * k) = ((2 ^ (8 * k) : Nat) : Int) := by simp
  rw [hp] at hW ⊢
  rw [hp2]
  have ha : a < 2 ^ (8 * k) := by omega
  have hP : 2 ^ (8 * k) ≤ 2 ^ 56 := Nat.pow_le_pow_right (by omega) (by omega)
  have hy : y * 2 ^ (8 * k) ≤ 255 * 2 ^ 56 := Nat.mul_le_mul (by omega) hP
  have e1 : ((y : Int) * ((2 ^ (8 * k) : Nat) : Int)) = ((y * 2 ^ (8 * k) : Nat) : Int) := by simp
  rw [e1]
  have e2 : IntKind.u64.wrap ((y * 2 ^ (8 * k) : Nat) : Int) = ((y * 2 ^ (8 * k) : Nat) : Int) := by
    rw [IntKind.wrap_u64]; omega
  rw [e2, u64_or_nat _ _ (by omega) (by omega)]
  have h := Nat.shiftLeft_add_eq_or_of_lt ha y
  rw [Nat.shiftLeft_eq] at h
  rw [Nat.or_comm, ← h]
  omega
theorem take_bd (zs : List Int) (hz : ∀ b ∈ zs, byteI b) (k : Nat) (h : k ≤ zs.length) : 0 ≤ leI (zs.take k) ∧ leI (zs.take k) < 256 ^ k := by
  have := leI_bd (zs.take k) (fun x hx => hz x (List.mem_of_mem_take hx))
  rwa [List.length_take, Nat.min_eq_left h] at this
theorem or_take (zs : List Int) (hz : ∀ b ∈ zs, byteI b) (k : Nat) (hk : k < 8) (h : k < zs.length) :
    bits BinOp.or IntKind.u64 (leI (zs.take k)) (IntKind.u64.wrap (zs[k]?.getD 0 * 2 ^ (8 * k))) = leI (zs.take (k + 1)) := by
  rw [or_step _ _ k hk (take_bd zs hz k (by omega)) (getD_bd zs hz k h), List.take_succ_eq_append_getElem h, leI_snoc, List.length_take, Nat.min_eq_left (by omega), List.getElem?_eq_getElem h]
  rfl

set_option maxHeartbeats 400000 in
theorem first_long (A : Option Addr) (n c : Nat) (zs : List Int) (w : World) (hn : n ≤ 1000000) (hc : n ≤ c) (h8 : 8 ≤ n) (h : Sl .u8 w w.heap.size A n zs) (hz : ∀ b ∈ zs, byteI b) :
    Calls Tryz.prog 118 #[.slice A n c] w fun e w' => e = .returned (.int .u64 (leI (zs.take 8))) ∧ w = w' := by
  have HL := Lib.hid h.len
  have HS := Lib.hid h
  have HZ := Lib.hid hz
  clear h hz
  go_enter Tryz.func118, Tryz.ntmps118
  go_wp2
  go_loop [3, 12] (fun x i => ∃ k : Nat, k ≤ 8 ∧ i = .int .i64 k ∧ x = .int .u64 (leI (zs.take k))) (fun _ i => 8 - (intOf i).toNat)
  case atStart => exact ⟨0, Nat.zero_le _, rfl, rfl⟩
  case round =>
    obtain ⟨k, hk, rfl, rfl⟩ := hrel
    by_cases hlt : k < 8
    · obtain ⟨b, off, rfl, hb, hcl⟩ := HS.out.at_ (by omega)
      have hcell := hcl k (by omega)
      obtain ⟨hb0, hb1⟩ := getD_bd zs HZ.out k (by rw [HL.out]; omega)
      have HO := Lib.hid (or_take zs HZ.out k (by omega) (by rw [HL.out]; omega))
      clear hcl
      go_wp2
      exact ⟨⟨k + 1, by omega, by go_num, by rw [HO.out]⟩, by simp [intOf]; omega⟩
    · obtain rfl : k = 8 := by omega
      go_wp2
      go_ret
      exact ⟨rfl, rfl⟩
set_option maxHeartbeats 400000 in
theorem first_short (A : Option Addr) (n c : Nat) (zs : List Int) (w : World) (hn : n ≤ 1000000) (hc : n ≤ c) (h8 : n < 8) (h : Sl .u8 w w.heap.size A n zs) (hz : ∀ b ∈ zs, byteI b) :
    Calls Tryz.prog 118 #[.slice A n c] w fun e w' => e = .returned (.int .u64 (leI (zs.take 8))) ∧ w = w' := by
  have HL := Lib.hid h.len
  have HS := Lib.hid h
  have HZ := Lib.hid hz
  clear h hz
  go_enter Tryz.func118, Tryz.ntmps118
  go_wp2
  go_loop [3, 12] (fun x i => ∃ k : Nat, k ≤ n ∧ i = .int .i64 k ∧ x = .int .u64 (leI (zs.take k))) (fun _ i => n - (intOf i).toNat)
  case atStart => exact ⟨0, Nat.zero_le _, rfl, rfl⟩
  case round =>
    obtain ⟨k, hk, rfl, rfl⟩ := hrel
    by_cases hlt : k < n
    · obtain ⟨b, off, rfl, hb, hcl⟩ := HS.out.at_ (by omega)
      have hcell := hcl k (by omega)
      obtain ⟨hb0, hb1⟩ := getD_bd zs HZ.out k (by rw [HL.out]; omega)
      have HO := Lib.hid (or_take zs HZ.out k (by omega) (by rw [HL.out]; omega))
      clear hcl
      go_wp2
      exact ⟨⟨k + 1, by omega, by go_num, by rw [HO.out]⟩, by simp [intOf]; omega⟩
    · obtain rfl : n = k := by omega
      go_wp2
      go_ret
      exact ⟨ret_int (by rw [List.take_of_length_le (by rw [HL.out]; omega), List.take_of_length_le (by rw [HL.out]; omega)]), rfl⟩
theorem first_any (A : Option Addr) (n c : Nat) (zs : List Int) (w : World) (hn : n ≤ 1000000) (hc : n ≤ c) (h : Sl .u8 w w.heap.size A n zs) (hz : ∀ b ∈ zs, byteI b) :
    Calls Tryz.prog 118 #[.slice A n c] w fun e w' => e = .returned (.int .u64 (leI (zs.take 8))) ∧ w = w' := by
  by_cases h8 : 8 ≤ n
  · exact first_long A n c zs w hn hc h8 h hz
  · exact first_short A n c zs w hn hc (by omega) h hz
end Go.Proofs.YtocooajlfpngdaaGreatDoor
namespace Go.Proofs.YtocooajlfpngdaaGreatDoor
open Go.RowKit
set_option linter.unusedVariables false

theorem hash_mix (s x : Int) (w : World) :
    Calls Tryz.prog 119 #[.int .u64 s, .int .u64 x] w fun e w' => e = .returned (.int .u64 (mixI s x)) ∧ w = w' := by
  go_enter Tryz.func119, Tryz.ntmps119
  go_wp2
  go_ret
  exact ⟨rfl, rfl⟩
end Go.Proofs.YtocooajlfpngdaaGreatDoor
