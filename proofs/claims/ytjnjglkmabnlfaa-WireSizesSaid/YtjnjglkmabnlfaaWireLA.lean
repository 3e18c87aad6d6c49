/- The law WireSizes: its walk. -/
import Derived.Test.YtjnjglkmabnlfaaWireV
namespace Go.Proofs.Ytjnjglkmabnlfaa
open Go.RowKit
set_option linter.unusedVariables false

/-- how many bytes a rest still takes -/
def dl (r : Int) : Int := if 0 < r then (encU r).length else 0
theorem encU_dl (n : Int) (h : 0 ≤ n) : ((encU n).length : Int) = 1 + dl (n / 128) := by
  unfold dl
  by_cases hn : n < 128
  · rw [encU_lt n hn, if_neg (by omega)]; rfl
  · rw [encU_ge n hn, if_pos (by omega), List.length_cons]; omega
theorem dl_step (r : Int) (h : 0 < r) : dl r = 1 + dl (r / 128) := by
  rw [← encU_dl r (by omega), dl, if_pos h]
theorem dl_zero (r : Int) (h : ¬ 0 < r) : dl r = 0 := by rw [dl, if_neg h]

theorem bound_any (n m : Int) (w : World) (h0 : -9223372036854775808 ≤ n) (h1 : n ≤ 9223372036854775807) (h2 : 0 ≤ m) (h3 : m ≤ 1000000) :
    Calls Try.prog 28 #[.int .i64 n, .int .i64 m] w fun e w' => e = .returned (.int .i64 (aroundI n (2 * m + 1) - m)) ∧ w = w' := by
  have hb := aroundI_bd n (2 * m + 1) (by omega)
  go_enter Try.func28, Try.ntmps28
  go_wp2_with fail
  refine (around_any n (2 * m + 1) _ h0 h1 (by omega) (by omega)).mono ?_
  rintro e w' ⟨rfl, rfl⟩
  go_wp2_with fail
  go_ret
  exact ⟨rfl, rfl⟩
theorem Sl.of_len {w : World} {base n : Nat} {e : TypeId} {v : Value} {xs : List Value} (h : w.ownsRow base e 1 v n xs) : ∃ A c, v = .slice A n c ∧ n ≤ c ∧ c ≤ maxLen ∧ True ∧ True := by
  rcases h.2 with ⟨rfl, rfl⟩ | ⟨g, cap, cur, rfl, hb, hg, hnc, hm, hcs, ht⟩
  · exact ⟨none, 0, rfl, Nat.le_refl _, Nat.zero_le _, trivial, trivial⟩
  · exact ⟨_, cap, rfl, hnc, hm, trivial, trivial⟩
theorem zig_small (m : Int) (h0 : -63 ≤ m) (h1 : m ≤ 63) : encU (zig m) = [zig m] := by
  rw [encU_lt]; unfold zig; split <;> omega

set_option maxHeartbeats 1000000 in
theorem wireSizes_law (u n sh : Int) (w : World) (hu : u64 u) (hn0 : -9223372036854775808 ≤ n) (hn1 : n ≤ 9223372036854775807) (hs0 : -9223372036854775808 ≤ sh) (hs1 : sh ≤ 9223372036854775807) :
    Calls Try.prog 8 #[.int .u64 u, .int .i64 n, .int .i64 sh] w fun e w' => e = .returned (.bool true) ∧ Below w.heap.size w w' := by
  obtain ⟨hu0, hu1⟩ := hu
  have hj := aroundI_bd sh 64 (by omega)
  go_enter Try.func8, Try.ntmps8
  go_wp2_with fail
  refine (around_any sh 64 _ hs0 hs1 (by omega) (by omega)).mono ?_
  rintro e w' ⟨rfl, rfl⟩
  obtain ⟨J, hJ⟩ : ∃ J : Nat, aroundI sh 64 = J := ⟨(aroundI sh 64).toNat, by omega⟩
  rw [hJ] at hj ⊢
  clear hJ
  have hJ64 : J < 64 := by omega
  clear hj
  go_wp2_with fail
  obtain ⟨K, hK⟩ : ∃ K, K = u / 2 ^ J := ⟨_, rfl⟩
  have hpJ : (0 : Int) < 2 ^ J := Int.pow_pos (by omega)
  have hK0 : 0 ≤ K := by rw [hK]; exact Int.ediv_nonneg hu0 (by omega)
  have hK1 : K ≤ u := by rw [hK]; exact Int.ediv_le_self _ hu0
  have hq : IntKind.u64.wrap (K.tdiv 128) = K / 128 := by rw [Int.tdiv_eq_ediv_of_nonneg hK0, IntKind.wrap_u64]; omega
  rw [← hK, hq]
  obtain ⟨L, hL⟩ : ∃ L : Nat, L = (encU K).length := ⟨_, rfl⟩
  have hL10 : L ≤ 10 := by rw [hL]; exact encU_len K (by unfold u64; omega)
  have HL := Lib.hid hL
  have HL0 := Lib.hid (show 1 + dl (K / 128) = (L : Int) by rw [hL, ← encU_dl K hK0])
  clear hK hq hpJ hL
  go_loopw [8, 9] (fun sz r wr => ∃ a b : Int, sz = .int .i64 a ∧ r = .int .u64 b ∧ 1 ≤ a ∧ a ≤ 10 ∧ 0 ≤ b ∧ b ≤ K ∧ Hid (a + dl b = L) ∧ wr = w) (fun _ r _ => (intOf r).toNat)
  case atStart => exact ⟨1, K / 128, rfl, rfl, by omega, by omega, by omega, by omega, HL0.out, rfl⟩
  case round =>
    obtain ⟨a, b, rfl, rfl, ha0, ha1, hb0, hb1, HA, rfl⟩ := hrel
    by_cases hb : 0 < b
    · have hst := dl_step b hb
      have hge : 0 ≤ dl (b / 128) := by unfold dl; split <;> omega
      have hA' : a + 1 + dl (b / 128) = L := by have := HA.out; omega
      have ha9 : a + 1 ≤ 10 := by omega
      have HA' := Lib.hid hA'
      clear hst hge hA'
      go_wp2_with fail
      go_roundw
      case rel => exact ⟨a + 1, b / 128, rfl, rfl, by omega, by omega, by omega, by omega, HA'.out, trivial⟩
      case measure => simp [intOf]; omega
    · have haL : a = L := by have := HA.out; rw [dl_zero b hb] at this; omega
      subst haL
      obtain rfl : b = 0 := by omega
      have hbd := aroundI_bd n 127 (by omega)
      go_wp2_with fail
      refine (w_uint wr.heap.size [] K _ (Wr.new wr) (by unfold u64; omega) (by simp)).mono ?_
      rintro e w1 ⟨rfl, h1, hb1⟩
      have B1 := Lib.hid (((Below.refl _ wr).alloc (Nat.le_refl _) _).trans hb1)
      have H1 := Lib.hid h1
      have hlt1 := h1.lt
      clear h1 hb1
      go_wp2_with fail
      refine (bound_any n 63 _ hn0 hn1 (by omega) (by omega)).mono ?_
      rintro e w2 ⟨rfl, rfl⟩
      rw [show (2 : Int) * 63 + 1 = 127 from rfl]
      obtain ⟨m, hm⟩ : ∃ m, m = aroundI n 127 - 63 := ⟨_, rfl⟩
      have hm0 : -63 ≤ m := by omega
      have hm1 : m ≤ 63 := by omega
      rw [← hm]
      clear hm hbd
      have hsz2 : Below w1.heap.size w1 (w1.alloc (.cells #[.slice none 0 0] 32)) := (Below.refl _ w1).alloc (Nat.le_refl _) _
      go_wp2_with fail
      refine (w_int w1.heap.size [] m _ (Wr.new w1) (by unfold i64; omega) (by simp)).mono ?_
      rintro e w3 ⟨rfl, h3, hb3⟩
      have Q3 := Lib.hid (hsz2.trans hb3)
      have H3 := Lib.hid h3
      clear h3 hb3 hsz2
      go_wp2_with fail
      refine (w_int w1.heap.size _ (-m) _ H3.out (by unfold i64; omega) (by rw [zig_small m hm0 hm1]; simp)).mono ?_
      rintro e w4 ⟨rfl, h4, hb4⟩
      have Q4 := Lib.hid (Q3.out.trans hb4)
      have H4 := Lib.hid h4
      clear h4 hb4
      have hz1 := zig_small m hm0 hm1
      have hz2 := zig_small (-m) (by omega) (by omega)
      have HZ1 := Lib.hid hz1
      have HZ2 := Lib.hid hz2
      clear hz1 hz2
      by_cases hmp : 0 < m
      all_goals
        go_wp2_with fail
        refine (w_bool w1.heap.size _ _ _ H4.out (by rw [HZ1.out, HZ2.out]; simp)).mono ?_
        rintro e w5 ⟨rfl, h5, hb5⟩
        rw [HZ1.out, HZ2.out] at h5
        have Q5 := Lib.hid (Q4.out.trans hb5)
        have H5 := Lib.hid h5
        clear h5 hb5
        have hl1 := H1.out.below Q5.out
        have B5 := Lib.hid (B1.out.trans (Q5.out.mono B1.out.size))
        have HH := Lib.hid hl1
        clear hl1
        go_wp2_with fail
        refine (w_done wr.heap.size _ _ HH.out (by rw [List.nil_append, ← HL.out]; omega)).mono ?_
        rintro e w6 ⟨v6, rfl, hown6, hb6⟩
        rw [List.nil_append, ← HL.out] at hown6
        obtain ⟨A6, c6, rfl, _, _, _, _⟩ := Sl.of_len hown6
        have H6 := Lib.hid (H5.out.below hb6)
        have B6 := Lib.hid (B5.out.trans (hb6.mono B5.out.size))
        clear hb6 hown6
        go_wp2_with fail
        refine (w_done w1.heap.size _ _ H6.out (by simp)).mono ?_
        rintro e w7 ⟨v7, rfl, hown7, hb7⟩
        obtain ⟨A7, c7, rfl, _, _, _, _⟩ := own_sl (k := .u8) hown7
        have B7 := Lib.hid (B6.out.trans (hb7.mono B6.out.size))
        clear hb7 hown7
        go_wp2_with fail
        refine (lives_any _).mono ?_
        rintro e w8 ⟨rfl, hb8⟩
        go_wp2_with fail
        go_ret
        exact ⟨rfl, B7.out.trans (hb8.mono B7.out.size)⟩
end Go.Proofs.Ytjnjglkmabnlfaa
