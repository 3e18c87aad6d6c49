/- Contracts of the reference's small functions: Around, Short, Few, Ints, SameInts, SameBytes. -/
import Derived.Test.YtjnjglkmabnlfaaChecked
import Derived.Test.YtjnjglkmabnlfaaMix
import Derived.Test.YtjnjglkmabnlfaaLib
import Derived.WalkKit
import Derived.Outline
import Derived.OwnWalk
import Derived.Lib.Hide
import Derived.Deep.QuietTactic
import Derived.BigQuiet
import Derived.IntWalk
namespace Go.Proofs.Ytjnjglkmabnlfaa
open Go.RowKit
set_option linter.unusedVariables false

theorem ret_int {k : IntKind} {a b : Int} (h : a = b) : Ending.returned (.int k a) = .returned (.int k b) := by rw [h]
theorem ret_bool {a b : Bool} (h : a = b) : Ending.returned (.bool a) = .returned (.bool b) := by rw [h]

/-! ### Around -/
def aroundI (n m : Int) : Int := if n < 0 then (-(n + 1)) % m else n % m
theorem aroundI_bd (n m : Int) (h : 1 ≤ m) : 0 ≤ aroundI n m ∧ aroundI n m < m := by
  unfold aroundI
  split
  · exact ⟨Int.emod_nonneg _ (by omega), Int.emod_lt_of_pos _ (by omega)⟩
  · exact ⟨Int.emod_nonneg _ (by omega), Int.emod_lt_of_pos _ (by omega)⟩
theorem around_any (n m : Int) (w : World) (h0 : -9223372036854775808 ≤ n) (h1 : n ≤ 9223372036854775807) (h2 : 1 ≤ m) (h3 : m ≤ 4611686018427387904) :
    Calls Try.prog 19 #[.int .i64 n, .int .i64 m] w fun e w' => e = .returned (.int .i64 (aroundI n m)) ∧ w = w' := by
  by_cases h : n < 0
  · go_enter Try.func19, Try.ntmps19
    go_wp2
    go_ret
    exact ⟨ret_int (by rw [aroundI, if_pos h, ← Int.neg_tmod, Int.tmod_eq_emod_of_nonneg (by omega)]), rfl⟩
  · have h' : 0 ≤ n := by omega
    go_enter Try.func19, Try.ntmps19
    go_wp2
    go_ret
    exact ⟨ret_int (by rw [aroundI, if_neg (by omega)]), rfl⟩

/-! ### Short -/
def shortB (s : ByteArray) (m : Nat) : ByteArray := if m < s.size then s.extract 0 m else s
theorem shortB_size (s : ByteArray) (m : Nat) : (shortB s m).size ≤ m := by
  unfold shortB
  split
  · simp [ByteArray.size_extract]; omega
  · omega
theorem short_any (s : ByteArray) (m : Nat) (w : World) (hs : s.size ≤ maxLen) :
    Calls Try.prog 36 #[.string s, .int .i64 m] w fun e w' => e = .returned (.string (shortB s m)) ∧ w = w' := by
  unfold maxLen at hs
  by_cases h : m < s.size
  · have h' : (m : Int) < (s.size : Int) := by omega
    go_enter Try.func36, Try.ntmps36
    go_wp2
    go_ret
    exact ⟨by simp [shortB, h], rfl⟩
  · have h' : ¬ (m : Int) < (s.size : Int) := by omega
    go_enter Try.func36, Try.ntmps36
    go_wp2
    go_ret
    exact ⟨by simp [shortB, h], rfl⟩

/-! ### Few, Ints -/
theorem u8_info : (Try.prog.info? 5).map (fun i => (i.zero, i.size, i.bytes)) = some (some (.int .u8 0), 1, 1) := by kernel_rfl
theorem int_info : (Try.prog.info? 3).map (fun i => (i.zero, i.size, i.bytes)) = some (some (.int .i64 0), 1, 8) := by kernel_rfl
theorem u64_info : (Try.prog.info? 23).map (fun i => (i.zero, i.size, i.bytes)) = some (some (.int .u64 0), 1, 8) := by kernel_rfl

set_option maxHeartbeats 400000 in
theorem few_any (A : Option Addr) (n c m : Nat) (zs : List Int) (w : World) (hm : m ≤ 1000000) (hn : n ≤ c) (hc : c ≤ maxLen) (h : Sl .u8 w w.heap.size A n zs) (hA : A = none → n = 0 ∧ c = 0) :
    Calls Try.prog 12 #[.slice A n c, .int .i64 m] w fun e w' => ∃ v, e = .returned v ∧ w'.ownsRow w.heap.size 5 1 v (min n m) ((zs.take m).map (Value.int .u8)) ∧ Below w.heap.size w w' := by
  obtain ⟨i0, hi, hz0, hz1, hz2⟩ := info_parts u8_info
  unfold maxLen at hc
  have hl := h.len
  have hk : (zs.take m).length = min n m := by rw [List.length_take, hl]; omega
  cases A with
  | none =>
    obtain ⟨rfl, rfl⟩ := hA rfl
    have hz : zs = [] := List.eq_nil_of_length_eq_zero hl
    subst hz
    have h0 : min (0 : Int) (m : Int) = 0 := by omega
    go_enter Try.func12, Try.ntmps12
    go_wp2
    go_ret
    exact ⟨_, rfl, by simpa using World.ownsRow_nil _ _ _ _, Below.refl _ _⟩
  | some ad =>
    have hnews : ∀ j u, ((zs.take m).map (Value.int .u8))[j]? = some u → w.cell? (ad.add j) = some u := by
      intro j u hu
      have hj : j < ((zs.take m).map (Value.int .u8)).length := (List.getElem?_eq_some_iff.1 hu).1
      rw [List.length_map, hk] at hj
      obtain ⟨b, off, hA', hb, hcell⟩ := h.at_ (by omega)
      cases hA'
      rw [add_lit, hcell j (by omega)]
      rw [List.getElem?_map, List.getElem?_take, if_pos (by omega), List.getElem?_eq_getElem (by omega)] at hu
      rw [List.getElem?_eq_getElem (by omega)]
      simpa using hu
    by_cases hlt : m < n
    · have hkk : ((zs.take m).map (Value.int .u8)).length = m * 1 := by rw [List.length_map, hk]; omega
      have hmn : min n m = m := by omega
      have HK := Lib.hid hkk
      have HM := Lib.hid hmn
      clear hkk hmn hk hl
      go_enter Try.func12, Try.ntmps12
      go_wp2_with (at_builtin; refine wpList_append_own _ rfl (.tmp 6) (.tmp 12) _ rfl w.heap.size 5 i0 _ 1 1 Try.underlying24 hi hz0 hz1 hz2 rfl (by omega) (.slice none 0 0) 0 [] rfl (World.ownsRow_nil _ _ _ _) ad m c ((zs.take m).map (Value.int .u8)) rfl HK.out hnews (by intro u hu; obtain ⟨_, _, rfl⟩ := List.mem_map.1 hu; rfl) (by unfold maxLen; omega) (by omega) (Nat.le_refl _) ?_; intro v1 w1 hown hg hnil)
      go_ret
      refine ⟨v1, rfl, ?_, below_of_grown hg (Nat.le_refl _) (by simp [Value.ownBlock])⟩
      rw [HM.out]
      simpa using hown
    · have hkk : ((zs.take m).map (Value.int .u8)).length = n * 1 := by rw [List.length_map, hk]; omega
      have hmn : min n m = n := by omega
      have HK := Lib.hid hkk
      have HM := Lib.hid hmn
      clear hkk hmn hk hl
      go_enter Try.func12, Try.ntmps12
      go_wp2_with (at_builtin; refine wpList_append_own _ rfl (.tmp 6) (.tmp 12) _ rfl w.heap.size 5 i0 _ 1 1 Try.underlying24 hi hz0 hz1 hz2 rfl (by omega) (.slice none 0 0) 0 [] rfl (World.ownsRow_nil _ _ _ _) ad n c ((zs.take m).map (Value.int .u8)) rfl HK.out hnews (by intro u hu; obtain ⟨_, _, rfl⟩ := List.mem_map.1 hu; rfl) (by unfold maxLen; omega) (by omega) (Nat.le_refl _) ?_; intro v1 w1 hown hg hnil)
      go_ret
      refine ⟨v1, rfl, ?_, below_of_grown hg (Nat.le_refl _) (by simp [Value.ownBlock])⟩
      rw [HM.out]
      simpa using hown

set_option maxHeartbeats 400000 in
theorem ints_any (A : Option Addr) (n c m : Nat) (zs : List Int) (w : World) (hm : m ≤ 1000000) (hn : n ≤ c) (hc : c ≤ maxLen) (h : Sl .i64 w w.heap.size A n zs) (hA : A = none → n = 0 ∧ c = 0) :
    Calls Try.prog 13 #[.slice A n c, .int .i64 m] w fun e w' => ∃ v, e = .returned v ∧ w'.ownsRow w.heap.size 3 1 v (min n m) ((zs.take m).map (Value.int .i64)) ∧ Below w.heap.size w w' := by
  obtain ⟨i0, hi, hz0, hz1, hz2⟩ := info_parts int_info
  unfold maxLen at hc
  have hl := h.len
  have hk : (zs.take m).length = min n m := by rw [List.length_take, hl]; omega
  cases A with
  | none =>
    obtain ⟨rfl, rfl⟩ := hA rfl
    have hz : zs = [] := List.eq_nil_of_length_eq_zero hl
    subst hz
    have h0 : min (0 : Int) (m : Int) = 0 := by omega
    go_enter Try.func13, Try.ntmps13
    go_wp2
    go_ret
    exact ⟨_, rfl, by simpa using World.ownsRow_nil _ _ _ _, Below.refl _ _⟩
  | some ad =>
    have hnews : ∀ j u, ((zs.take m).map (Value.int .i64))[j]? = some u → w.cell? (ad.add j) = some u := by
      intro j u hu
      have hj : j < ((zs.take m).map (Value.int .i64)).length := (List.getElem?_eq_some_iff.1 hu).1
      rw [List.length_map, hk] at hj
      obtain ⟨b, off, hA', hb, hcell⟩ := h.at_ (by omega)
      cases hA'
      rw [add_lit, hcell j (by omega)]
      rw [List.getElem?_map, List.getElem?_take, if_pos (by omega), List.getElem?_eq_getElem (by omega)] at hu
      rw [List.getElem?_eq_getElem (by omega)]
      simpa using hu
    by_cases hlt : m < n
    · have hkk : ((zs.take m).map (Value.int .i64)).length = m * 1 := by rw [List.length_map, hk]; omega
      have hmn : min n m = m := by omega
      have HK := Lib.hid hkk
      have HM := Lib.hid hmn
      clear hkk hmn hk hl
      go_enter Try.func13, Try.ntmps13
      go_wp2_with (at_builtin; refine wpList_append_own _ rfl (.tmp 6) (.tmp 12) _ rfl w.heap.size 3 i0 _ 1 8 Try.underlying22 hi hz0 hz1 hz2 rfl (by omega) (.slice none 0 0) 0 [] rfl (World.ownsRow_nil _ _ _ _) ad m c ((zs.take m).map (Value.int .i64)) rfl HK.out hnews (by intro u hu; obtain ⟨_, _, rfl⟩ := List.mem_map.1 hu; rfl) (by unfold maxLen; omega) (by omega) (Nat.le_refl _) ?_; intro v1 w1 hown hg hnil)
      go_ret
      refine ⟨v1, rfl, ?_, below_of_grown hg (Nat.le_refl _) (by simp [Value.ownBlock])⟩
      rw [HM.out]
      simpa using hown
    · have hkk : ((zs.take m).map (Value.int .i64)).length = n * 1 := by rw [List.length_map, hk]; omega
      have hmn : min n m = n := by omega
      have HK := Lib.hid hkk
      have HM := Lib.hid hmn
      clear hkk hmn hk hl
      go_enter Try.func13, Try.ntmps13
      go_wp2_with (at_builtin; refine wpList_append_own _ rfl (.tmp 6) (.tmp 12) _ rfl w.heap.size 3 i0 _ 1 8 Try.underlying22 hi hz0 hz1 hz2 rfl (by omega) (.slice none 0 0) 0 [] rfl (World.ownsRow_nil _ _ _ _) ad n c ((zs.take m).map (Value.int .i64)) rfl HK.out hnews (by intro u hu; obtain ⟨_, _, rfl⟩ := List.mem_map.1 hu; rfl) (by unfold maxLen; omega) (by omega) (Nat.le_refl _) ?_; intro v1 w1 hown hg hnil)
      go_ret
      refine ⟨v1, rfl, ?_, below_of_grown hg (Nat.le_refl _) (by simp [Value.ownBlock])⟩
      rw [HM.out]
      simpa using hown

set_option maxHeartbeats 400000 in
theorem sameBytes_len (A B : Option Addr) (n m c d : Nat) (w : World) (hne : n ≠ m) (hn : n ≤ maxLen) (hm : m ≤ maxLen) :
    Calls Try.prog 15 #[.slice A n c, .slice B m d] w fun e w' => e = .returned (.bool false) ∧ w = w' := by
  unfold maxLen at hn hm
  have h1 : ((n : Int) != (m : Int)) = true := by rw [bne_iff_ne]; omega
  have h2 : ((n : Int) == (m : Int)) = false := by rw [beq_eq_false_iff_ne]; omega
  go_enter Try.func15, Try.ntmps15
  go_wp2
  go_ret
  exact ⟨rfl, rfl⟩
theorem take_snoc_iff_sameBytes (zs ys : List Int) (k : Nat) (h1 : k < zs.length) (h2 : k < ys.length) (h : zs.take k = ys.take k) (he : zs[k]?.getD 0 = ys[k]?.getD 0) : zs.take (k + 1) = ys.take (k + 1) := by
  rw [List.take_succ_eq_append_getElem h1, List.take_succ_eq_append_getElem h2, h]
  rw [List.getElem?_eq_getElem h1, List.getElem?_eq_getElem h2] at he
  have he' : zs[k] = ys[k] := he
  rw [he']
set_option maxHeartbeats 400000 in
theorem sameBytes (A B : Option Addr) (n c d : Nat) (zs ys : List Int) (w : World) (hn : n ≤ maxLen) (ha : Sl .u8 w w.heap.size A n zs) (hb : Sl .u8 w w.heap.size B n ys) :
    Calls Try.prog 15 #[.slice A n c, .slice B n d] w fun e w' => e = .returned (.bool (decide (zs = ys))) ∧ ∃ q, w' = w.drewN q := by
  unfold maxLen at hn
  have hla := ha.len
  have hlb := hb.len
  have HA := Lib.hid ha
  have HB := Lib.hid hb
  have HLA := Lib.hid hla
  have HLB := Lib.hid hlb
  clear ha hb hla hlb
  go_enter Try.func15, Try.ntmps15
  go_wp2
  go_loopw [5] (fun i wr => ∃ k q : Nat, k ≤ n ∧ i = .int .i64 k ∧ zs.take k = ys.take k ∧ wr = w.drewN q) (fun i _ => n - (intOf i).toNat)
  case atStart => exact ⟨0, 0, Nat.zero_le _, rfl, rfl, rfl⟩
  case round =>
    obtain ⟨k, q, hk, rfl, ht, rfl⟩ := hrel
    have HT := Lib.hid ht
    clear ht
    by_cases hlt : k < n
    · obtain ⟨b1, o1, rfl, _, hc1⟩ := HA.out.at_ (by omega)
      obtain ⟨b2, o2, rfl, _, hc2⟩ := HB.out.at_ (by omega)
      have c1 := hc1 k hlt
      have c2 := hc2 k hlt
      clear hc1 hc2
      by_cases he : zs[k]?.getD 0 = ys[k]?.getD 0
      · have e1 : (zs[k]?.getD 0 != ys[k]?.getD 0) = false := by simp [he]
        have HE := Lib.hid he
        clear he
        go_wp2
        go_quiet (fail)
        go_wp2
        go_roundw
        case rel => exact ⟨k + 1, _, by omega, by go_num, take_snoc_iff_sameBytes zs ys k (by rw [HLA.out]; exact hlt) (by rw [HLB.out]; exact hlt) HT.out HE.out, rfl⟩
        case measure => simp [intOf]; omega
      · have e1 : (zs[k]?.getD 0 != ys[k]?.getD 0) = true := by simp [he]
        have HE := Lib.hid he
        clear he
        go_wp2
        go_quiet (fail)
        go_wp2
        go_ret
        exact ⟨ret_bool (by simp; intro h; exact HE.out (by rw [h])), _, World.drewN_drewN _ _ _⟩
    · obtain rfl : k = n := by omega
      go_wp2
      go_ret
      have h1 := HT.out
      rw [List.take_of_length_le (by rw [HLA.out]; omega), List.take_of_length_le (by rw [HLB.out]; omega)] at h1
      exact ⟨ret_bool (by simp [h1]), _, rfl⟩

set_option maxHeartbeats 400000 in
theorem sameInts_len (A B : Option Addr) (n m c d : Nat) (w : World) (hne : n ≠ m) (hn : n ≤ maxLen) (hm : m ≤ maxLen) :
    Calls Try.prog 34 #[.slice A n c, .slice B m d] w fun e w' => e = .returned (.bool false) ∧ w = w' := by
  unfold maxLen at hn hm
  have h1 : ((n : Int) != (m : Int)) = true := by rw [bne_iff_ne]; omega
  have h2 : ((n : Int) == (m : Int)) = false := by rw [beq_eq_false_iff_ne]; omega
  go_enter Try.func34, Try.ntmps34
  go_wp2
  go_ret
  exact ⟨rfl, rfl⟩
theorem take_snoc_iff_sameInts (zs ys : List Int) (k : Nat) (h1 : k < zs.length) (h2 : k < ys.length) (h : zs.take k = ys.take k) (he : zs[k]?.getD 0 = ys[k]?.getD 0) : zs.take (k + 1) = ys.take (k + 1) := by
  rw [List.take_succ_eq_append_getElem h1, List.take_succ_eq_append_getElem h2, h]
  rw [List.getElem?_eq_getElem h1, List.getElem?_eq_getElem h2] at he
  have he' : zs[k] = ys[k] := he
  rw [he']
set_option maxHeartbeats 400000 in
theorem sameInts (A B : Option Addr) (n c d : Nat) (zs ys : List Int) (w : World) (hn : n ≤ maxLen) (ha : Sl .i64 w w.heap.size A n zs) (hb : Sl .i64 w w.heap.size B n ys) :
    Calls Try.prog 34 #[.slice A n c, .slice B n d] w fun e w' => e = .returned (.bool (decide (zs = ys))) ∧ ∃ q, w' = w.drewN q := by
  unfold maxLen at hn
  have hla := ha.len
  have hlb := hb.len
  have HA := Lib.hid ha
  have HB := Lib.hid hb
  have HLA := Lib.hid hla
  have HLB := Lib.hid hlb
  clear ha hb hla hlb
  go_enter Try.func34, Try.ntmps34
  go_wp2
  go_loopw [5] (fun i wr => ∃ k q : Nat, k ≤ n ∧ i = .int .i64 k ∧ zs.take k = ys.take k ∧ wr = w.drewN q) (fun i _ => n - (intOf i).toNat)
  case atStart => exact ⟨0, 0, Nat.zero_le _, rfl, rfl, rfl⟩
  case round =>
    obtain ⟨k, q, hk, rfl, ht, rfl⟩ := hrel
    have HT := Lib.hid ht
    clear ht
    by_cases hlt : k < n
    · obtain ⟨b1, o1, rfl, _, hc1⟩ := HA.out.at_ (by omega)
      obtain ⟨b2, o2, rfl, _, hc2⟩ := HB.out.at_ (by omega)
      have c1 := hc1 k hlt
      have c2 := hc2 k hlt
      clear hc1 hc2
      by_cases he : zs[k]?.getD 0 = ys[k]?.getD 0
      · have e1 : (zs[k]?.getD 0 != ys[k]?.getD 0) = false := by simp [he]
        have HE := Lib.hid he
        clear he
        go_wp2
        go_quiet (fail)
        go_wp2
        go_roundw
        case rel => exact ⟨k + 1, _, by omega, by go_num, take_snoc_iff_sameInts zs ys k (by rw [HLA.out]; exact hlt) (by rw [HLB.out]; exact hlt) HT.out HE.out, rfl⟩
        case measure => simp [intOf]; omega
      · have e1 : (zs[k]?.getD 0 != ys[k]?.getD 0) = true := by simp [he]
        have HE := Lib.hid he
        clear he
        go_wp2
        go_quiet (fail)
        go_wp2
        go_ret
        exact ⟨ret_bool (by simp; intro h; exact HE.out (by rw [h])), _, World.drewN_drewN _ _ _⟩
    · obtain rfl : k = n := by omega
      go_wp2
      go_ret
      have h1 := HT.out
      rw [List.take_of_length_le (by rw [HLA.out]; omega), List.take_of_length_le (by rw [HLB.out]; omega)] at h1
      exact ⟨ret_bool (by simp [h1]), _, rfl⟩
end Go.Proofs.Ytjnjglkmabnlfaa
