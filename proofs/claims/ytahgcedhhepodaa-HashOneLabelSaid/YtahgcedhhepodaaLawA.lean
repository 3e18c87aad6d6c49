/- The laws HashSum, HashBytes, HashPairs, HashArguments: their walks. -/
import Derived.Test.YtahgcedhhepodaaLives
import Derived.Test.YtahgcedhhepodaaInj
namespace Go.Proofs.Ytahgcedhhepodaa
open Go.RowKit
set_option linter.unusedVariables false

theorem nil_sl (k : IntKind) (w : World) : Sl k w w.heap.size none 0 [] := Sl.nil _ _ _ _

set_option maxHeartbeats 1000000 in
theorem hashSum_law (s : ByteArray) (A : Option Addr) (n c : Nat) (zs : List Int) (w : World) (hs : s.size ≤ maxLen) (hn : n ≤ c) (hc : c ≤ maxLen) (h : Sl .i64 w w.heap.size A n zs) (hA : A = none → n = 0 ∧ c = 0) :
    Calls Try.prog 3 #[.string s, .slice A n c] w fun e w' => e = .returned (.bool true) ∧ Below w.heap.size w w' := by
  have HS := Lib.hid h
  clear h
  have hss := shortB_size s 40
  go_enter Try.func3, Try.ntmps3
  go_wp2_with fail
  refine (short_any s 40 _ hs).mono ?_
  rintro e w' ⟨rfl, rfl⟩
  obtain ⟨t, ht⟩ : ∃ t, t = shortB s 40 := ⟨_, rfl⟩
  rw [← ht] at hss ⊢
  clear ht
  go_wp2_with fail
  refine (ints_any A n c 12 zs _ (by omega) hn hc HS.out hA).mono ?_
  rintro e w1 ⟨v, rfl, hown, hb1⟩
  obtain ⟨A1, c1, rfl, hn1, hc1, hsl1⟩ := Sl.of_own hown
  have B1 := Lib.hid hb1
  have S1 := Lib.hid hsl1
  have hm : min n 12 ≤ 12 := by omega
  generalize min n 12 = m at hm hn1 S1 hsl1 ⊢
  clear hown hb1 hsl1 hn1 hc1
  go_wp2_with fail
  refine (hash_sum t A1 m c1 _ _ (by omega) (by omega) S1.out).mono ?_
  rintro e w2 ⟨rfl, hb2⟩
  have S2 := Lib.hid ((S1.out.below hb2).more hb2.size)
  have B2 := Lib.hid (B1.out.trans (hb2.mono B1.out.size))
  clear hb2
  go_wp2_with fail
  refine (ref_sum t A1 m c1 _ _ (by omega) (by omega) S2.out).mono ?_
  rintro e w3 ⟨rfl, hb3⟩
  have B3 := Lib.hid (B2.out.trans (hb3.mono B2.out.size))
  clear hb3
  go_wp2_with fail
  refine (hash_sum t none 0 0 [] _ (by omega) (by omega) (nil_sl _ _)).mono ?_
  rintro e w4 ⟨rfl, hb4⟩
  have B4 := Lib.hid (B3.out.trans (hb4.mono B3.out.size))
  clear hb4
  go_wp2_with fail
  refine (ref_sum t none 0 0 [] _ (by omega) (by omega) (nil_sl _ _)).mono ?_
  rintro e w5 ⟨rfl, hb5⟩
  have B5 := Lib.hid (B4.out.trans (hb5.mono B4.out.size))
  clear hb5
  go_wp2_with fail
  refine (lives_any _).mono ?_
  rintro e w6 ⟨rfl, hb6⟩
  have B6 := Lib.hid (B5.out.trans (hb6.mono B5.out.size))
  clear hb6
  go_wp2
  go_ret
  exact ⟨rfl, B6.out⟩

theorem few_byte {zs : List Int} (hz : ∀ b ∈ zs, byteI b) (m : Nat) : ∀ b ∈ zs.take m, byteI b := fun b hb => hz b (List.mem_of_mem_take hb)

set_option maxHeartbeats 1000000 in
theorem hashBytes_law (s : ByteArray) (A : Option Addr) (n c : Nat) (zs : List Int) (x y : Int) (w : World) (hs : s.size ≤ maxLen) (hn : n ≤ c) (hc : c ≤ maxLen) (h : Sl .u8 w w.heap.size A n zs) (hA : A = none → n = 0 ∧ c = 0) (hz : ∀ b ∈ zs, byteI b) :
    Calls Try.prog 4 #[.string s, .slice A n c, .int .u64 x, .int .u64 y] w fun e w' => e = .returned (.bool true) ∧ Below w.heap.size w w' := by
  have HS := Lib.hid h
  have HZ := Lib.hid (few_byte hz 60)
  clear h hz
  have hss := shortB_size s 20
  go_enter Try.func4, Try.ntmps4
  go_wp2_with fail
  refine (short_any s 20 _ hs).mono ?_
  rintro e w' ⟨rfl, rfl⟩
  obtain ⟨t, ht⟩ : ∃ t, t = shortB s 20 := ⟨_, rfl⟩
  rw [← ht] at hss ⊢
  clear ht
  go_wp2_with fail
  refine (few_any A n c 60 zs _ (by omega) hn hc HS.out hA).mono ?_
  rintro e w1 ⟨v, rfl, hown, hb1⟩
  obtain ⟨A1, c1, rfl, hn1, hc1, hsl1⟩ := Sl.of_own hown
  have B1 := Lib.hid hb1
  have S1 := Lib.hid hsl1
  have hm : min n 60 ≤ 60 := by omega
  generalize min n 60 = m at hm hn1 S1 hsl1 ⊢
  clear hown hb1 hsl1 hc1
  go_wp2_with fail
  refine (hash_bytes t A1 m c1 _ _ (by omega) (by omega) hn1 S1.out HZ.out).mono ?_
  rintro e w2 ⟨rfl, hb2⟩
  have S2 := Lib.hid ((S1.out.below hb2).more hb2.size)
  have B2 := Lib.hid (B1.out.trans (hb2.mono B1.out.size))
  clear hb2
  go_wp2_with fail
  refine (ref_bytes t A1 m c1 _ _ (by omega) (by omega) S2.out HZ.out).mono ?_
  rintro e w3 ⟨rfl, hb3⟩
  have B3 := Lib.hid (B2.out.trans (hb3.mono B2.out.size))
  clear hb3
  go_wp2_with fail
  refine (hash_pair x y _).mono ?_
  rintro e w4 ⟨rfl, hb4⟩
  have B4 := Lib.hid (B3.out.trans (hb4.mono B3.out.size))
  clear hb4
  go_wp2_with fail
  refine (ref_pair x y _).mono ?_
  rintro e w5 ⟨rfl, hb5⟩
  have B5 := Lib.hid (B4.out.trans (hb5.mono B4.out.size))
  clear hb5
  go_wp2_with fail
  refine (lives_any _).mono ?_
  rintro e w6 ⟨rfl, hb6⟩
  have B6 := Lib.hid (B5.out.trans (hb6.mono B5.out.size))
  clear hb6
  go_wp2
  go_ret
  exact ⟨rfl, B6.out⟩

set_option maxHeartbeats 1000000 in
theorem hashArguments_law (A B : Option Addr) (n c m d : Nat) (zs ys : List Int) (w : World) (hn : n ≤ c) (hc : c ≤ maxLen) (hm : m ≤ d) (hd : d ≤ maxLen) (h : Sl .i64 w w.heap.size A n zs) (hA : A = none → n = 0 ∧ c = 0) (h2 : Sl .u8 w w.heap.size B m ys) (hB : B = none → m = 0 ∧ d = 0) (hz : ∀ b ∈ ys, byteI b) :
    Calls Try.prog 10 #[.slice A n c, .slice B m d] w fun e w' => e = .returned (.bool true) ∧ Below w.heap.size w w' := by
  have HS := Lib.hid h
  have HS2 := Lib.hid h2
  have HZ := Lib.hid (few_byte hz 30)
  clear h h2 hz
  go_enter Try.func10, Try.ntmps10
  go_wp2_with fail
  refine (ints_any A n c 10 zs _ (by omega) hn hc HS.out hA).mono ?_
  rintro e w1 ⟨v, rfl, hown, hb1⟩
  obtain ⟨A1, c1, rfl, hn1, hc1, hsl1⟩ := Sl.of_own hown
  have B1 := Lib.hid hb1
  have S1 := Lib.hid hsl1
  obtain ⟨k, hk⟩ : ∃ k, k = min n 10 := ⟨_, rfl⟩
  have hk10 : k ≤ 10 := by omega
  rw [← hk] at hn1 S1 hsl1 ⊢
  have HK := Lib.hid hk
  clear hown hb1 hsl1 hn1 hc1 hk
  go_wp2_with fail
  refine (few_any B m d 30 ys _ (by omega) hm hd ((HS2.out.below B1.out).more B1.out.size) hB).mono ?_
  rintro e w2 ⟨v, rfl, hown, hb2⟩
  obtain ⟨A2, c2, rfl, hn2, hc2, hsl2⟩ := Sl.of_own hown
  have S2 := Lib.hid hsl2
  have S12 := Lib.hid ((S1.out.below hb2).more hb2.size)
  have B2 := Lib.hid (B1.out.trans (hb2.mono B1.out.size))
  obtain ⟨j, hj⟩ : ∃ j, j = min m 30 := ⟨_, rfl⟩
  have hj30 : j ≤ 30 := by omega
  rw [← hj] at hn2 S2 hsl2 ⊢
  have HJ := Lib.hid hj
  clear hown hb2 hsl2 hc2 hj
  go_wp2_with fail
  refine (hash_sum _ A1 k c1 _ _ (by decide) (by omega) S12.out).mono ?_
  rintro e w3 ⟨rfl, hb3⟩
  have S13 := Lib.hid ((S12.out.below hb3).more hb3.size)
  have S23 := Lib.hid ((S2.out.below hb3).more hb3.size)
  have B3 := Lib.hid (B2.out.trans (hb3.mono B2.out.size))
  clear hb3
  go_wp2_with fail
  refine (hash_bytes _ A2 j c2 _ _ (by decide) (by omega) hn2 S23.out HZ.out).mono ?_
  rintro e w4 ⟨rfl, hb4⟩
  have S14 := Lib.hid ((S13.out.below hb4).more hb4.size)
  have S24 := Lib.hid ((S23.out.below hb4).more hb4.size)
  have B4 := Lib.hid (B3.out.trans (hb4.mono B3.out.size))
  clear hb4
  go_wp2_with fail
  refine (ints_any A n c 10 zs _ (by omega) hn hc ((HS.out.below B4.out).more B4.out.size) hA).mono ?_
  rintro e w5 ⟨v, rfl, hown, hb5⟩
  obtain ⟨A5, c5, rfl, _, _, hsl5⟩ := Sl.of_own hown
  have S15 := Lib.hid ((S14.out.below hb5).more hb5.size)
  have S25 := Lib.hid ((S24.out.below hb5).more hb5.size)
  have B5 := Lib.hid (B4.out.trans (hb5.mono B4.out.size))
  rw [← HK.out] at hsl5 ⊢
  have S55 := Lib.hid hsl5
  clear hown hb5 hsl5
  go_wp2_with fail
  refine (sameInts A1 A5 k c1 c5 _ _ _ (by unfold maxLen; omega) S15.out S55.out).mono ?_
  rintro e w6 ⟨rfl, q6, rfl⟩
  have d6 : decide (zs.take 10 = zs.take 10) = true := by simp
  rw [d6]
  clear d6
  have B6 := Lib.hid (below_drewN B5.out q6)
  have S26 := Lib.hid (S25.out.drewN q6)
  have S16 := Lib.hid (S15.out.drewN q6)
  go_wp2_with fail
  refine (few_any B m d 30 ys _ (by omega) hm hd ((HS2.out.below B6.out).more B6.out.size) hB).mono ?_
  rintro e w7 ⟨v, rfl, hown, hb7⟩
  obtain ⟨A7, c7, rfl, _, _, hsl7⟩ := Sl.of_own hown
  have S17 := Lib.hid ((S16.out.below hb7).more hb7.size)
  have S27 := Lib.hid ((S26.out.below hb7).more hb7.size)
  have B7 := Lib.hid (B6.out.trans (hb7.mono B6.out.size))
  rw [← HJ.out] at hsl7 ⊢
  have S77 := Lib.hid hsl7
  clear hown hb7 hsl7
  go_wp2_with fail
  refine (sameBytes A2 A7 j c2 c7 _ _ _ (by unfold maxLen; omega) S27.out S77.out).mono ?_
  rintro e w8 ⟨rfl, q8, rfl⟩
  have d8 : decide (ys.take 30 = ys.take 30) = true := by simp
  rw [d8]
  clear d8
  have B8 := Lib.hid (below_drewN B7.out q8)
  have S18 := Lib.hid (S17.out.drewN q8)
  have S28 := Lib.hid (S27.out.drewN q8)
  go_wp2_with fail
  refine (hash_sum _ A1 k c1 _ _ (by decide) (by omega) S18.out).mono ?_
  rintro e w9 ⟨rfl, hb9⟩
  have S29 := Lib.hid ((S28.out.below hb9).more hb9.size)
  have B9 := Lib.hid (B8.out.trans (hb9.mono B8.out.size))
  clear hb9
  go_wp2_with fail
  refine (hash_bytes _ A2 j c2 _ _ (by decide) (by omega) hn2 S29.out HZ.out).mono ?_
  rintro e w10 ⟨rfl, hb10⟩
  have B10 := Lib.hid (B9.out.trans (hb10.mono B9.out.size))
  clear hb10
  go_wp2_with fail
  refine (lives_any _).mono ?_
  rintro e w11 ⟨rfl, hb11⟩
  have B11 := Lib.hid (B10.out.trans (hb11.mono B10.out.size))
  clear hb11
  go_wp2
  go_ret
  exact ⟨rfl, B11.out⟩

set_option maxHeartbeats 1000000 in
theorem hashPairs_law (a b c : Int) (w : World) (ha : u64 a) (hb : u64 b) :
    Calls Try.prog 9 #[.int .u64 a, .int .u64 b, .int .u64 c] w fun e w' => e = .returned (.bool true) ∧ Below w.heap.size w w' := by
  have hcase : ∃ v : Bool, (pairI a c == pairI b c) = v ∧ (pairI c a == pairI c b) = v ∧ (a == b) = v := by
    by_cases h : a = b
    · exact ⟨true, by simp [h], by simp [h], by simp [h]⟩
    · refine ⟨false, ?_, ?_, by simp [h]⟩
      · simp only [beq_eq_false_iff_ne]; exact fun e => h (pairI_left a b c ha hb e)
      · simp only [beq_eq_false_iff_ne]; exact fun e => h (pairI_right a b c ha hb e)
  obtain ⟨v, h1, h2, h3⟩ := hcase
  have h4 : pairI a b = sumI (sB ⟨#[112, 97, 105, 114]⟩) [wrap64 a, wrap64 b] := rfl
  have H4 := Lib.hid h4
  clear h4
  go_enter Try.func9, Try.ntmps9
  go_wp2_with fail
  refine (hash_pair a c _).mono ?_
  rintro e w1 ⟨rfl, hb1⟩
  have B1 := Lib.hid hb1
  clear hb1
  go_wp2_with fail
  refine (hash_pair b c _).mono ?_
  rintro e w2 ⟨rfl, hb2⟩
  have B2 := Lib.hid (B1.out.trans (hb2.mono B1.out.size))
  clear hb2
  cases v <;>
  · go_wp2_with fail
    refine (hash_pair c a _).mono ?_
    rintro e w3 ⟨rfl, hb3⟩
    have B3 := Lib.hid (B2.out.trans (hb3.mono B2.out.size))
    clear hb3
    go_wp2_with fail
    refine (hash_pair c b _).mono ?_
    rintro e w4 ⟨rfl, hb4⟩
    have B4 := Lib.hid (B3.out.trans (hb4.mono B3.out.size))
    clear hb4
    go_wp2_with fail
    refine (hash_pair a b _).mono ?_
    rintro e w5 ⟨rfl, hb5⟩
    have B5 := Lib.hid (B4.out.trans (hb5.mono B4.out.size))
    clear hb5
    go_wp2_with fail
    refine (hash_sum _ _ 2 2 [wrap64 a, wrap64 b] _ (by decide) (by omega) (two_cells .i64 w5 _ (wrap64 a) (wrap64 b))).mono ?_
    rintro e w6 ⟨rfl, hb6⟩
    have B6 := Lib.hid ((B5.out.alloc B5.out.size _).trans (hb6.mono (by have := B5.out.size; simp; omega)))
    clear hb6
    rw [← H4.out]
    go_wp2_with fail
    refine (lives_any _).mono ?_
    rintro e w7 ⟨rfl, hb7⟩
    have B7 := Lib.hid (B6.out.trans (hb7.mono B6.out.size))
    clear hb7
    go_wp2
    go_ret
    exact ⟨rfl, B7.out⟩
end Go.Proofs.Ytahgcedhhepodaa
