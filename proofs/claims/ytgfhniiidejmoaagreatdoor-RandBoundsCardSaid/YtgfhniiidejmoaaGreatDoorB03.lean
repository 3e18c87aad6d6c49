/- Contracts of the reference's small functions: Around, Short. · Contracts of the reference's small functions: Few, Ints, SameInts, SameBytes. · The contract of hash.firstWord. · The contract of hash.mix. · The contract of refuterref01.mix. -/
import Derived.Test.YtgfhniiidejmoaaGreatDoorChecked
import Derived.Test.YtgfhniiidejmoaaGreatDoorB01
import Derived.Test.YtgfhniiidejmoaaGreatDoorB02
import Derived.WalkKit
import Derived.Outline
import Derived.OwnWalk
import Derived.Lib.Hide
import Derived.Deep.QuietTactic
import Derived.BigQuiet
import Derived.IntWalk
import Derived.Laws.BitsAllLaws
namespace Go.Proofs.YtgfhniiidejmoaaGreatDoor
open Go.RowKit
set_option linter.unusedVariables false

theorem ret_int {k : IntKind} {a b : Int} (h : a = b) : Ending.returned (.int k a) = .returned (.int k b) := by rw [h]
theorem ret_bool {a b : Bool} (h : a = b) : Ending.returned (.bool a) = .returned (.bool b) := by rw [h]

/-! ### Around -/
def aroundI (n m : Int) : Int := if n < 0 then (-(n + 1)) % m else n % m
theorem aroundI_bd (n m : Int) (h : 1 ≤ m) : 0 ≤ aroundI n m ∧ aroundI n m < m := by
  unfold aroundI
  split
  · exact ⟨Int.emod_nonneg _ (by omega), Int.emod_lt_of_pos _ (by omega)⟩
  · exact ⟨Int.emod_nonneg _ (by omega), Int.emod_lt_of_pos _ (by omega)⟩
theorem around_any (n m : Int) (w : World) (h0 : -9223372036854775808 ≤ n) (h1 : n ≤ 9223372036854775807) (h2 : 1 ≤ m) (h3 : m ≤ 4611686018427387904) :
    Calls Tryz.prog 5 #[.int .i64 n, .int .i64 m] w fun e w' => e = .returned (.int .i64 (aroundI n m)) ∧ w = w' := by
  by_cases h : n < 0
  · go_enter Tryz.func5, Tryz.ntmps5
    go_wp2
    go_ret
    exact ⟨ret_int (by rw [aroundI, if_pos h, ← Int.neg_tmod, Int.tmod_eq_emod_of_nonneg (by omega)]), rfl⟩
  · have h' : 0 ≤ n := by omega
    go_enter Tryz.func5, Tryz.ntmps5
    go_wp2
    go_ret
    exact ⟨ret_int (by rw [aroundI, if_neg (by omega)]), rfl⟩

/-! ### Short -/
/-! ### a type's facts -/
theorem int_info : (Tryz.prog.info? 3).map (fun i => (i.zero, i.size, i.bytes)) = some (some (.int .i64 0), 1, 8) := by kernel_rfl
end Go.Proofs.YtgfhniiidejmoaaGreatDoor
namespace Go.Proofs.YtgfhniiidejmoaaGreatDoor
open Go.RowKit
set_option linter.unusedVariables false

/-! ### Few, Ints -/
theorem take_snoc_iff_sameInts (zs ys : List Int) (k : Nat) (h1 : k < zs.length) (h2 : k < ys.length) (h : zs.take k = ys.take k) (he : zs[k]?.getD 0 = ys[k]?.getD 0) : zs.take (k + 1) = ys.take (k + 1) := by
  rw [List.take_succ_eq_append_getElem h1, List.take_succ_eq_append_getElem h2, h]
  rw [List.getElem?_eq_getElem h1, List.getElem?_eq_getElem h2] at he
  have he' : zs[k] = ys[k] := he
  rw [he']
set_option maxHeartbeats 400000 in
theorem sameInts (A B : Option Addr) (n c d : Nat) (zs ys : List Int) (w : World) (hn : n ≤ maxLen) (ha : Sl .i64 w w.heap.size A n zs) (hb : Sl .i64 w w.heap.size B n ys) :
    Calls Tryz.prog 43 #[.slice A n c, .slice B n d] w fun e w' => e = .returned (.bool (decide (zs = ys))) ∧ ∃ q, w' = w.drewN q := by
  unfold maxLen at hn
  have hla := ha.len
  have hlb := hb.len
  have HA := Lib.hid ha
  have HB := Lib.hid hb
  have HLA := Lib.hid hla
  have HLB := Lib.hid hlb
  clear ha hb hla hlb
  go_enter Tryz.func43, Tryz.ntmps43
  go_wp2
  go_loopw [5] (fun i wr => ∃ k q : Nat, k ≤ n ∧ i = .int .i64 k ∧ zs.take k = ys.take k ∧ wr = w.drewN q) (fun i _ => n - (intOf i).toNat)
  case atStart => exact ⟨0, 0, Nat.zero_le _, rfl, rfl, rfl⟩
  case round =>
    obtain ⟨k, q, hk, rfl, ht, rfl⟩ := hrel
    have HT := Lib.hid ht
    clear ht
    by_cases hlt : k < n
    · obtain ⟨b1, o1, rfl, _, hc1⟩ := HA.out.at_ (by omega)
      obtain ⟨b2, o2, rfl, _, hc2⟩ := HB.out.at_ (by omega)
      have c1 := hc1 k hlt
      have c2 := hc2 k hlt
      clear hc1 hc2
      by_cases he : zs[k]?.getD 0 = ys[k]?.getD 0
      · have e1 : (zs[k]?.getD 0 != ys[k]?.getD 0) = false := by simp [he]
        have HE := Lib.hid he
        clear he
        go_wp2
        go_quiet (fail)
        go_wp2
        go_roundw
        case rel => exact ⟨k + 1, _, by omega, by go_num, take_snoc_iff_sameInts zs ys k (by rw [HLA.out]; exact hlt) (by rw [HLB.out]; exact hlt) HT.out HE.out, rfl⟩
        case measure => simp [intOf]; omega
      · have e1 : (zs[k]?.getD 0 != ys[k]?.getD 0) = true := by simp [he]
        have HE := Lib.hid he
        clear he
        go_wp2
        go_quiet (fail)
        go_wp2
        go_ret
        exact ⟨ret_bool (by simp; intro h; exact HE.out (by rw [h])), _, World.drewN_drewN _ _ _⟩
    · obtain rfl : k = n := by omega
      go_wp2
      go_ret
      have h1 := HT.out
      rw [List.take_of_length_le (by rw [HLA.out]; omega), List.take_of_length_le (by rw [HLB.out]; omega)] at h1
      exact ⟨ret_bool (by simp [h1]), _, rfl⟩
end Go.Proofs.YtgfhniiidejmoaaGreatDoor
namespace Go.Proofs.YtgfhniiidejmoaaGreatDoor
open Go.RowKit
set_option linter.unusedVariables false

theorem or_step (W z : Int) (k : Nat) (hk : k < 8) (hW : 0 ≤ W ∧ W < 256 ^ k) (hz : byteI z) :
    bits BinOp.or IntKind.u64 W (IntKind.u64.wrap (z * 2 ^ (8 * k))) = W + z * 256 ^ k := by
  obtain ⟨hz0, hz1⟩ := hz
  obtain ⟨a, rfl⟩ := Int.eq_ofNat_of_zero_le hW.1
  obtain ⟨y, rfl⟩ := Int.eq_ofNat_of_zero_le hz0
  have hp : (256 : Int) ^ k = ((2 ^ (8 * k) : Nat) : Int) := by
    rw [Nat.pow_mul]; simp
  have hp2 : (2 : Int) ^ (8 * k) = ((2 ^ (8 * k) : Nat) : Int) := by simp
  rw [hp] at hW ⊢
  rw [hp2]
  have ha : a < 2 ^ (8 * k) := by omega
  have hP : 2 ^ (8 * k) ≤ 2 ^ 56 := Nat.pow_le_pow_right (by omega) (by omega)
  have hy : y * 2 ^ (8 * k) ≤ 255 * 2 ^ 56 := Nat.mul_le_mul (by omega) hP
  have e1 : ((y : Int) * ((2 ^ (8 * k) : Nat) : Int)) = ((y * 2 ^ (8 * k) : Nat) : Int) := by simp
  rw [e1]
  have e2 : IntKind.u64.wrap ((y * 2 ^ (8 * k) : Nat) : Int) = ((y * 2 ^ (8 * k) : Nat) : Int) := by
    rw [IntKind.wrap_u64]; omega
  rw [e2, u64_or_nat _ _ (by omega) (by omega)]
  have h := Nat.shiftLeft_add_eq_or_of_lt ha y
  rw [Nat.shiftLeft_eq] at h
  rw [Nat.or_comm, ← h]
  omega
theorem take_bd (zs : List Int) (hz : ∀ b ∈ zs, byteI b) (k : Nat) (h : k ≤ zs.length) : 0 ≤ leI (zs.take k) ∧ leI (zs.take k) < 256 ^ k := by
  have := leI_bd (zs.take k) (fun x hx => hz x (List.mem_of_mem_take hx))
  rwa [List.length_take, Nat.min_eq_left h] at this
theorem or_take (zs : List Int) (hz : ∀ b ∈ zs, byteI b) (k : Nat) (hk : k < 8) (h : k < zs.length) :
    bits BinOp.or IntKind.u64 (leI (zs.take k)) (IntKind.u64.wrap (zs[k]?.getD 0 * 2 ^ (8 * k))) = leI (zs.take (k + 1)) := by
  rw [or_step _ _ k hk (take_bd zs hz k (by omega)) (getD_bd zs hz k h), List.take_succ_eq_append_getElem h, leI_snoc, List.length_take, Nat.min_eq_left (by omega), List.getElem?_eq_getElem h]
  rfl

set_option maxHeartbeats 400000 in
theorem first_long (A : Option Addr) (n c : Nat) (zs : List Int) (w : World) (hn : n ≤ 1000000) (hc : n ≤ c) (h8 : 8 ≤ n) (h : Sl .u8 w w.heap.size A n zs) (hz : ∀ b ∈ zs, byteI b) :
    Calls Tryz.prog 123 #[.slice A n c] w fun e w' => e = .returned (.int .u64 (leI (zs.take 8))) ∧ w = w' := by
  have HL := Lib.hid h.len
  have HS := Lib.hid h
  have HZ := Lib.hid hz
  clear h hz
  go_enter Tryz.func123, Tryz.ntmps123
  go_wp2
  go_loop [3, 12] (fun x i => ∃ k : Nat, k ≤ 8 ∧ i = .int .i64 k ∧ x = .int .u64 (leI (zs.take k))) (fun _ i => 8 - (intOf i).toNat)
  case atStart => exact ⟨0, Nat.zero_le _, rfl, rfl⟩
  case round =>
    obtain ⟨k, hk, rfl, rfl⟩ := hrel
    by_cases hlt : k < 8
    · obtain ⟨b, off, rfl, hb, hcl⟩ := HS.out.at_ (by omega)
      have hcell := hcl k (by omega)
      obtain ⟨hb0, hb1⟩ := getD_bd zs HZ.out k (by rw [HL.out]; omega)
      have HO := Lib.hid (or_take zs HZ.out k (by omega) (by rw [HL.out]; omega))
      clear hcl
      go_wp2
      exact ⟨⟨k + 1, by omega, by go_num, by rw [HO.out]⟩, by simp [intOf]; omega⟩
    · obtain rfl : k = 8 := by omega
      go_wp2
      go_ret
      exact ⟨rfl, rfl⟩
set_option maxHeartbeats 400000 in
theorem first_short (A : Option Addr) (n c : Nat) (zs : List Int) (w : World) (hn : n ≤ 1000000) (hc : n ≤ c) (h8 : n < 8) (h : Sl .u8 w w.heap.size A n zs) (hz : ∀ b ∈ zs, byteI b) :
    Calls Tryz.prog 123 #[.slice A n c] w fun e w' => e = .returned (.int .u64 (leI (zs.take 8))) ∧ w = w' := by
  have HL := Lib.hid h.len
  have HS := Lib.hid h
  have HZ := Lib.hid hz
  clear h hz
  go_enter Tryz.func123, Tryz.ntmps123
  go_wp2
  go_loop [3, 12] (fun x i => ∃ k : Nat, k ≤ n ∧ i = .int .i64 k ∧ x = .int .u64 (leI (zs.take k))) (fun _ i => n - (intOf i).toNat)
  case atStart => exact ⟨0, Nat.zero_le _, rfl, rfl⟩
  case round =>
    obtain ⟨k, hk, rfl, rfl⟩ := hrel
    by_cases hlt : k < n
    · obtain ⟨b, off, rfl, hb, hcl⟩ := HS.out.at_ (by omega)
      have hcell := hcl k (by omega)
      obtain ⟨hb0, hb1⟩ := getD_bd zs HZ.out k (by rw [HL.out]; omega)
      have HO := Lib.hid (or_take zs HZ.out k (by omega) (by rw [HL.out]; omega))
      clear hcl
      go_wp2
      exact ⟨⟨k + 1, by omega, by go_num, by rw [HO.out]⟩, by simp [intOf]; omega⟩
    · obtain rfl : n = k := by omega
      go_wp2
      go_ret
      exact ⟨ret_int (by rw [List.take_of_length_le (by rw [HL.out]; omega), List.take_of_length_le (by rw [HL.out]; omega)]), rfl⟩
theorem first_any (A : Option Addr) (n c : Nat) (zs : List Int) (w : World) (hn : n ≤ 1000000) (hc : n ≤ c) (h : Sl .u8 w w.heap.size A n zs) (hz : ∀ b ∈ zs, byteI b) :
    Calls Tryz.prog 123 #[.slice A n c] w fun e w' => e = .returned (.int .u64 (leI (zs.take 8))) ∧ w = w' := by
  by_cases h8 : 8 ≤ n
  · exact first_long A n c zs w hn hc h8 h hz
  · exact first_short A n c zs w hn hc (by omega) h hz
end Go.Proofs.YtgfhniiidejmoaaGreatDoor
namespace Go.Proofs.YtgfhniiidejmoaaGreatDoor
open Go.RowKit
set_option linter.unusedVariables false

theorem hash_mix (s x : Int) (w : World) :
    Calls Tryz.prog 115 #[.int .u64 s, .int .u64 x] w fun e w' => e = .returned (.int .u64 (mixI s x)) ∧ w = w' := by
  go_enter Tryz.func115, Tryz.ntmps115
  go_wp2
  go_ret
  exact ⟨rfl, rfl⟩
end Go.Proofs.YtgfhniiidejmoaaGreatDoor
namespace Go.Proofs.YtgfhniiidejmoaaGreatDoor
open Go.RowKit
set_option linter.unusedVariables false

end Go.Proofs.YtgfhniiidejmoaaGreatDoor
