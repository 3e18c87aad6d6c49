/- The law WireHash: its walk. -/
import Derived.Test.YtjnjglkmabnlfaaWireV
import Derived.Test.YtjnjglkmabnlfaaHashS
import Derived.Test.YtjnjglkmabnlfaaInjB
namespace Go.Proofs.Ytjnjglkmabnlfaa
open Go.RowKit
set_option linter.unusedVariables false

theorem encU_inj (m : Int) : ∀ n : Int, 0 ≤ m → 0 ≤ n → encU m = encU n → m = n := by
  induction m using encU.induct with
  | case1 m hm =>
    intro n h0 h1 h
    by_cases hn : n < 128
    · rw [encU_lt m hm, encU_lt n hn] at h; simpa using h
    · rw [encU_lt m hm, encU_ge n hn] at h
      simp only [List.cons.injEq] at h
      exact absurd h.2.symm (encU_ne _)
  | case2 m hm ih =>
    intro n h0 h1 h
    by_cases hn : n < 128
    · rw [encU_ge m hm, encU_lt n hn] at h
      simp only [List.cons.injEq] at h
      exact absurd h.2 (encU_ne _)
    · rw [encU_ge m hm, encU_ge n hn] at h
      simp only [List.cons.injEq] at h
      have := ih (n / 128) (by omega) (by omega) h.2
      omega
theorem shr_bd (a : Int) (k : Nat) (h0 : 0 ≤ a) (h1 : a ≤ 18446744073709551615) (hk : 8 ≤ k) : 0 ≤ a / 2 ^ k ∧ a / 2 ^ k < 72057594037927936 := by
  have hp : (0 : Int) < 2 ^ k := Int.pow_pos (by omega)
  refine ⟨Int.ediv_nonneg h0 (by omega), ?_⟩
  have h256 : (256 : Int) ≤ 2 ^ k := by
    have : (2 : Nat) ^ 8 ≤ 2 ^ k := Nat.pow_le_pow_right (by omega) hk
    have e : ((2 ^ k : Nat) : Int) = (2 : Int) ^ k := by simp
    rw [← e]; omega
  rw [Int.ediv_lt_iff_lt_mul hp]
  have : 72057594037927936 * (256 : Int) ≤ 72057594037927936 * 2 ^ k := Int.mul_le_mul_of_nonneg_left h256 (by omega)
  omega
theorem pow128_8 : (128 : Int) ^ (7 + 1) = 72057594037927936 := by decide
theorem enc8 (m : Int) (h1 : m < 72057594037927936) : (encU m).length ≤ 8 := encU_len_le 7 m (by rw [pow128_8]; exact h1)
theorem hash_iff (lab : List Int) (m n : Int) (hm : 0 ≤ m) (hn : 0 ≤ n) (h8 : (encU m).length ≤ 8) (hl : (encU m).length = (encU n).length) :
    (bytesI lab (encU m) == bytesI lab (encU n)) = (m == n) := by
  have hp := encU_pos m
  have h := bytesI_group lab (encU m) (encU n) hl (encU_byte m hm) (encU_byte n hn) 0 (by omega) (fun i hi => by
    rw [List.getElem?_eq_none (by omega), List.getElem?_eq_none (by omega)])
  rw [Bool.eq_iff_iff, beq_iff_eq, beq_iff_eq, h]
  exact ⟨encU_inj m n hm hn, fun e => by rw [e]⟩

set_option maxHeartbeats 1000000 in
theorem wireHash_law (a b sh : Int) (s : ByteArray) (w : World) (ha : u64 a) (hb : u64 b) (hs0 : -9223372036854775808 ≤ sh) (hs1 : sh ≤ 9223372036854775807) (hs : s.size ≤ maxLen) :
    Calls Try.prog 10 #[.int .u64 a, .int .u64 b, .int .i64 sh, .string s] w fun e w' => e = .returned (.bool true) ∧ Below w.heap.size w w' := by
  obtain ⟨ha0, ha1⟩ := ha
  obtain ⟨hb0, hb1⟩ := hb
  have hj := aroundI_bd sh 56 (by omega)
  have hss := shortB_size s 20
  go_enter Try.func10, Try.ntmps10
  go_wp2_with fail
  refine (around_any sh 56 _ hs0 hs1 (by omega) (by omega)).mono ?_
  rintro e w' ⟨rfl, rfl⟩
  obtain ⟨J, hJ⟩ : ∃ J : Nat, aroundI sh 56 = J := ⟨(aroundI sh 56).toNat, by omega⟩
  rw [hJ] at hj ⊢
  clear hJ
  have hJ56 : J < 56 := by omega
  clear hj
  obtain ⟨hm0, hm1⟩ := shr_bd a (8 + J) ha0 ha1 (by omega)
  obtain ⟨hn0, hn1⟩ := shr_bd b (8 + J) hb0 hb1 (by omega)
  go_wp2_with fail
  obtain ⟨m, hm⟩ : ∃ m, m = a / 2 ^ (8 + J) := ⟨_, rfl⟩
  obtain ⟨n, hn⟩ : ∃ n, n = b / 2 ^ (8 + J) := ⟨_, rfl⟩
  rw [← hm] at hm0 hm1 ⊢
  rw [← hn] at hn0 hn1 ⊢
  clear hm hn
  refine (w_uint w.heap.size [] m _ (Wr.new w) (by unfold u64; omega) (by simp)).mono ?_
  rintro e w1 ⟨rfl, h1, hb1⟩
  have B1 := Lib.hid (((Below.refl _ w).alloc (Nat.le_refl _) _).trans hb1)
  have H1 := Lib.hid h1
  clear h1 hb1
  have hsz2 : Below w1.heap.size w1 (w1.alloc (.cells #[.slice none 0 0] 32)) := (Below.refl _ w1).alloc (Nat.le_refl _) _
  go_wp2_with fail
  refine (w_uint w1.heap.size [] n _ (Wr.new w1) (by unfold u64; omega) (by simp)).mono ?_
  rintro e w2 ⟨rfl, h2, hb2⟩
  have hb12 := hsz2.trans hb2
  have K1 := Lib.hid (H1.out.below hb12)
  have B2 := Lib.hid (B1.out.trans (hb12.mono B1.out.size))
  have H2 := Lib.hid h2
  clear h2 hb2 hb12 hsz2
  have hl8 := enc8 m hm1
  have hk8 := enc8 n hn1
  obtain ⟨L, hL⟩ : ∃ L : Nat, L = (encU m).length := ⟨_, rfl⟩
  obtain ⟨M, hM⟩ : ∃ M : Nat, M = (encU n).length := ⟨_, rfl⟩
  have HL := Lib.hid hL
  have HM := Lib.hid hM
  rw [← hL] at hl8
  rw [← hM] at hk8
  clear hL hM
  go_wp2_with fail
  refine (w_done w.heap.size _ _ K1.out (by rw [List.nil_append, ← HL.out]; omega)).mono ?_
  rintro e w3 ⟨v3, rfl, hown3, hb3⟩
  rw [List.nil_append, ← HL.out] at hown3
  obtain ⟨A3, c3, rfl, hc3, _, _, hs3⟩ := own_sl (k := .u8) hown3
  have K2 := Lib.hid (H2.out.below hb3)
  have B3 := Lib.hid (B2.out.trans (hb3.mono B2.out.size))
  have S3 := Lib.hid hs3
  clear hb3 hown3 hs3
  go_wp2_with fail
  refine (w_done w1.heap.size _ _ K2.out (by rw [List.nil_append, ← HM.out]; omega)).mono ?_
  rintro e w4 ⟨v4, rfl, hown4, hb4⟩
  rw [List.nil_append, ← HM.out] at hown4
  obtain ⟨A4, c4, rfl, hc4, _, _, hs4⟩ := own_sl (k := .u8) hown4
  have B4 := Lib.hid (B3.out.trans (hb4.mono B3.out.size))
  have S34 := Lib.hid ((S3.out.below hb4).more hb4.size)
  have S4 := Lib.hid hs4
  clear hb4 hown4 hs4
  go_wp2_with fail
  refine (short_any s 20 _ hs).mono ?_
  rintro e w5 ⟨rfl, rfl⟩
  obtain ⟨t, ht⟩ : ∃ t, t = shortB s 20 := ⟨_, rfl⟩
  rw [← ht] at hss ⊢
  clear ht
  by_cases hLM : L = M
  · have hd := hash_iff (sB t) m n hm0 hn0 (by rw [← HL.out]; exact hl8) (by rw [← HL.out, ← HM.out]; exact hLM)
    obtain ⟨v, hv⟩ : ∃ v, v = (m == n) := ⟨_, rfl⟩
    have hv2 : (bytesI (sB t) (encU m) == bytesI (sB t) (encU n)) = v := hd.trans hv.symm
    have hv1 : (m == n) = v := hv.symm
    have HV1 := Lib.hid hv1
    have HV2 := Lib.hid hv2
    clear hd hv hv1 hv2
    subst hLM
    go_wp2_with fail
    refine (hash_bytes t A3 L c3 _ _ (by omega) (by omega) hc3 S34.out (encU_byte m hm0)).mono ?_
    rintro e w6 ⟨rfl, hb6⟩
    have S46 := Lib.hid ((S4.out.below hb6).more hb6.size)
    have B6 := Lib.hid (B4.out.trans (hb6.mono B4.out.size))
    clear hb6
    go_wp2_with fail
    refine (hash_bytes t A4 L c4 _ _ (by omega) (by omega) hc4 S46.out (encU_byte n hn0)).mono ?_
    rintro e w7 ⟨rfl, hb7⟩
    have B7 := Lib.hid (B6.out.trans (hb7.mono B6.out.size))
    clear hb7
    have hv1 := HV1.out
    have hv2 := HV2.out
    cases v
    all_goals
      go_wp2_with fail
      refine (lives_any _).mono ?_
      rintro e w8 ⟨rfl, hb8⟩
      go_wp2_with fail
      go_ret
      exact ⟨rfl, B7.out.trans (hb8.mono B7.out.size)⟩
  · have hmn : (m != n) = true := by
      rw [bne_iff_ne]; rintro rfl; exact hLM (HL.out.trans HM.out.symm)
    go_wp2_with fail
    refine (lives_any _).mono ?_
    rintro e w8 ⟨rfl, hb8⟩
    go_wp2_with fail
    go_ret
    exact ⟨rfl, B4.out.trans (hb8.mono B4.out.size)⟩
end Go.Proofs.Ytjnjglkmabnlfaa
