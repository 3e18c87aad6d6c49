/- The law HashGroups: its walk. -/
import Derived.Test.YtahgcedhhepodaaLawA
import Derived.Test.YtahgcedhhepodaaInjB
namespace Go.Proofs.Ytahgcedhhepodaa
open Go.RowKit
set_option linter.unusedVariables false

set_option maxHeartbeats 1000000 in
theorem hashGroups_law (s : ByteArray) (A : Option Addr) (n c : Nat) (zs : List Int) (w : World) (hs : s.size ≤ maxLen) (hn : n ≤ c) (hc : c ≤ maxLen) (h : Sl .u8 w w.heap.size A n zs) (hA : A = none → n = 0 ∧ c = 0) (hz : ∀ b ∈ zs, byteI b) :
    Calls Try.prog 8 #[.string s, .slice A n c] w fun e w' => e = .returned (.bool true) ∧ Below w.heap.size w w' := by
  have HS := Lib.hid h
  have HL0 := Lib.hid h.len
  have hzz := few_byte hz 60
  clear h hz
  have hss := shortB_size s 20
  obtain ⟨i0, hi, hz0, hz1, hz2⟩ := info_parts int_info
  obtain ⟨j0, hj, hjz0, hjz1, hjz2⟩ := info_parts u8_info
  go_enter Try.func8, Try.ntmps8
  go_wp2_with fail
  refine (short_any s 20 _ hs).mono ?_
  rintro e w' ⟨rfl, rfl⟩
  obtain ⟨t, ht⟩ : ∃ t, t = shortB s 20 := ⟨_, rfl⟩
  rw [← ht] at hss ⊢
  clear ht
  go_wp2_with fail
  refine (few_any A n c 60 zs _ (by omega) hn hc HS.out hA).mono ?_
  rintro e w1 ⟨v, rfl, hown, hb1⟩
  obtain ⟨A1, c1, rfl, hn1, hc1, hsl1⟩ := Sl.of_own hown
  have hA1 : A1 = none → min n 60 = 0 ∧ c1 = 0 := by
    rintro rfl
    rcases hown.2 with ⟨h1, h2⟩ | ⟨g, cap, cur, h1, _⟩
    · simp only [Value.slice.injEq] at h1; exact ⟨h1.2.1, h1.2.2⟩
    · simp at h1
  have B1 := Lib.hid hb1
  obtain ⟨m, hm⟩ : ∃ m, m = min n 60 := ⟨_, rfl⟩
  have hm60 : m ≤ 60 := by omega
  obtain ⟨xs, hxs⟩ : ∃ xs, xs = zs.take 60 := ⟨_, rfl⟩
  rw [← hm, ← hxs] at hsl1
  rw [← hm] at hn1 hA1 ⊢
  rw [← hxs] at hzz
  have S1 := Lib.hid hsl1
  have HL := Lib.hid hsl1.len
  have HZ := Lib.hid hzz
  clear hown hb1 hsl1 hm hxs hzz
  go_wp2_with fail
  refine (words_any A1 m c1 xs _ (by omega) S1.out HZ.out).mono ?_
  rintro e w2 ⟨v2, rfl, hown2, hb2⟩
  obtain ⟨A2, c2, rfl, _, _, hsl2⟩ := Sl.of_own hown2
  have B2 := Lib.hid (B1.out.trans (hb2.mono B1.out.size))
  have HSL2 := Lib.hid hsl2
  have HL2 := Lib.hid hsl2.len
  have S12 := Lib.hid ((S1.out.below hb2).more hb2.size)
  clear hown2 hb2 hsl2
  obtain ⟨K, hK⟩ : ∃ K, K = (m + 7) / 8 := ⟨_, rfl⟩
  rw [← hK] at HSL2 HL2 ⊢
  have hK2 : K ≤ 125000 := by omega
  clear hK
  go_wp2_with fail
  go_loopw [8, 9] (fun o i wr => ∃ k : Nat, k ≤ K ∧ i = .int .i64 k ∧ wr.ownsRow w2.heap.size 3 1 o k ((((wordsI xs).take k).map wrap64).map (Value.int .i64)) ∧ Below w2.heap.size w2 wr) (fun _ i _ => K - (intOf i).toNat)
  case atStart => exact ⟨0, Nat.zero_le _, rfl, by simpa using World.ownsRow_nil _ _ _ _, Below.refl _ _⟩
  case round =>
    obtain ⟨k, hk, rfl, hown, hbel⟩ := hrel
    have r1 : k + 1 ≤ maxLen := by unfold maxLen; omega
    have r2 : (k + 1) * 8 ≤ 140737488355328 := by omega
    by_cases hlt : k < K
    · obtain ⟨b, off, rfl, hb, hcl⟩ := HSL2.out.at_ (by omega)
      have hcell := (hbel.cell (p := ⟨b, off + k, none⟩) hb).trans (hcl k hlt)
      clear hcl
      have HT := Lib.hid (take_snoc_map wrap64 (wordsI xs) k (by rw [HL2.out]; exact hlt))
      go_wp2_with (at_builtin; refine wpList_append_own _ rfl _ _ _ rfl w2.heap.size 3 i0 _ 1 8 Try.underlying22 hi hz0 hz1 hz2 rfl (by omega) _ k ((((wordsI xs).take k).map wrap64).map (Value.int .i64)) rfl (hown.alloc _) ⟨wr.heap.size, 0, none⟩ 1 1 [Value.int .i64 (wrap64 ((wordsI xs)[k]?.getD 0))] rfl rfl (cell_one_new _ _ _) (by simp [Value.oneCell']) (by omega) (by omega) (by have := hbel.size; simp; omega) ?_; intro v1 w1 hown1 hg1 hnil1)
      go_roundw
      case rel =>
        refine ⟨k + 1, by omega, by go_num, ?_, ?_⟩
        · rw [HT.out, List.map_append]; exact hown1
        · exact (hbel.alloc hbel.size _).trans (below_of_grown hg1 (by have := hbel.size; simp; omega) (fun g hg' => (hown.lt g hg').1))
      case measure => simp [intOf]; omega
    · obtain rfl : K = k := by omega
      rw [List.take_of_length_le (by rw [HL2.out]; omega)] at hown
      have S1r := Lib.hid ((S12.out.below hbel).more hbel.size)
      have B3 := Lib.hid (B2.out.trans (hbel.mono B2.out.size))
      have e1 : ((wordsI xs).map wrap64).map (Value.int .i64) ++ [Value.int .i64 (m : Int)] = ((wordsI xs).map wrap64 ++ [(m : Int)]).map (Value.int .i64) := by rw [List.map_append]; rfl
      have E1 := Lib.hid e1
      clear e1
      have hbi : bytesI (sB t) xs = sumI (sB t) ((wordsI xs).map wrap64 ++ [(m : Int)]) := by rw [bytesI, HL.out]
      have HBI := Lib.hid hbi
      clear hbi
      go_wp2_with fail
      refine (hash_bytes t A1 m c1 _ _ (by omega) (by omega) hn1 S1r.out HZ.out).mono ?_
      rintro e w4 ⟨rfl, hb4⟩
      have hown4 := ownsRow_below' hown hb4
      have S14 := Lib.hid ((S1r.out.below hb4).more hb4.size)
      have hb24 : w2.heap.size ≤ w4.heap.size := Nat.le_trans hbel.size hb4.size
      have B4 := Lib.hid (B3.out.trans (hb4.mono B3.out.size))
      have B24 := Lib.hid (hbel.trans (hb4.mono hbel.size))
      clear hb4 hown hbel
      go_wp2_with (at_builtin; refine wpList_append_own _ rfl _ _ _ rfl w2.heap.size 3 i0 _ 1 8 Try.underlying22 hi hz0 hz1 hz2 rfl (by omega) _ K (((wordsI xs).map wrap64).map (Value.int .i64)) rfl (hown4.alloc _) ⟨w4.heap.size, 0, none⟩ 1 1 [Value.int .i64 (m : Int)] rfl rfl (cell_one_new _ _ _) (by simp [Value.oneCell']) (by omega) (by omega) (by simp; omega) ?_; intro v5 w5 hown5 hg5 hnil5; rw [E1.out] at hown5; obtain ⟨A5, c5, rfl, _, _, hsl5⟩ := Sl.of_own hown5; have S5 := Lib.hid hsl5; have H5 := Lib.hid ((B24.out.alloc B24.out.size _).trans (below_of_grown hg5 (by simp; omega) (fun g hg' => (hown4.lt g hg').1))); clear hown5 hg5 hnil5 hsl5)
      have S15 := Lib.hid ((S12.out.below H5.out).more H5.out.size)
      have B5 := Lib.hid (B2.out.trans (H5.out.mono B2.out.size))
      refine (hash_sum t A5 (K + 1) c5 _ _ (by omega) (by omega) S5.out).mono ?_
      rintro e w6 ⟨rfl, hb6⟩
      rw [← HBI.out]
      have B6 := Lib.hid (B5.out.trans (hb6.mono B5.out.size))
      have S16 := Lib.hid ((S15.out.below hb6).more hb6.size)
      clear hb6 hown4
      go_wp2_with fail
      refine (few_any A1 m c1 60 xs _ (by omega) hn1 hc1 S16.out hA1).mono ?_
      rintro e w7 ⟨v7, rfl, hown7, hb7⟩
      rw [List.take_of_length_le (by rw [HL.out]; omega), show min m 60 = m from by omega] at hown7
      have B7 := Lib.hid (B6.out.trans (hb7.mono B6.out.size))
      have S17 := Lib.hid ((S16.out.below hb7).more hb7.size)
      have h67 : w6.heap.size ≤ w7.heap.size := hb7.size
      have B67 := Lib.hid hb7
      clear hb7
      have e2 : xs.map (Value.int .u8) ++ [Value.int .u8 0] = (xs ++ [0]).map (Value.int .u8) := by rw [List.map_append]; rfl
      have E2 := Lib.hid e2
      clear e2
      have r3 : m + 1 ≤ maxLen := by unfold maxLen; omega
      by_cases h8 : m % 8 = 0
      · have h8' : ((m : Int) % 8 == 0) = true := by simp; omega
        go_wp2_with (at_builtin; refine wpList_append_own _ rfl _ _ _ rfl w6.heap.size 5 j0 _ 1 1 Try.underlying30 hj hjz0 hjz1 hjz2 rfl (by omega) _ m (xs.map (Value.int .u8)) rfl (hown7.alloc _) ⟨w7.heap.size, 0, none⟩ 1 1 [Value.int .u8 0] rfl rfl (cell_one_new _ _ _) (by simp [Value.oneCell']) (by omega) (by omega) (by simp; omega) ?_; intro v8 w8 hown8 hg8 hnil8; rw [E2.out] at hown8; obtain ⟨A8, c8, rfl, hn8, _, hsl8⟩ := Sl.of_own hown8; have S8 := Lib.hid hsl8; have H8 := Lib.hid ((B67.out.alloc B67.out.size _).trans (below_of_grown hg8 (by simp; omega) (fun g hg' => (hown7.lt g hg').1))); clear hown8 hg8 hnil8 hsl8)
        have S18 := Lib.hid ((S16.out.below H8.out).more H8.out.size)
        have B8 := Lib.hid (B6.out.trans (H8.out.mono B6.out.size))
        go_wp2_with fail
        refine (lives_any _).mono ?_
        rintro e w9 ⟨rfl, hb9⟩
        have B9 := Lib.hid (B8.out.trans (hb9.mono B8.out.size))
        go_wp2
        go_ret
        exact ⟨rfl, B9.out⟩
      · have h8' : ((m : Int) % 8 == 0) = false := by simp; omega
        have hne : (bytesI (sB t) (xs ++ [0]) != bytesI (sB t) xs) = true := by
          rw [bne_iff_ne]; exact bytesI_zero _ _ (by rw [HL.out]; exact h8) (by rw [HL.out]; omega)
        have hz1 : ∀ b ∈ xs ++ [0], byteI b := by
          intro b hb
          rcases List.mem_append.1 hb with h | h
          · exact HZ.out b h
          · have : b = 0 := by simpa using h
            subst this; unfold byteI; omega
        have HZ1 := Lib.hid hz1
        clear hz1
        go_wp2_with (at_builtin; refine wpList_append_own _ rfl _ _ _ rfl w6.heap.size 5 j0 _ 1 1 Try.underlying30 hj hjz0 hjz1 hjz2 rfl (by omega) _ m (xs.map (Value.int .u8)) rfl (hown7.alloc _) ⟨w7.heap.size, 0, none⟩ 1 1 [Value.int .u8 0] rfl rfl (cell_one_new _ _ _) (by simp [Value.oneCell']) (by omega) (by omega) (by simp; omega) ?_; intro v8 w8 hown8 hg8 hnil8; rw [E2.out] at hown8; obtain ⟨A8, c8, rfl, hn8, _, hsl8⟩ := Sl.of_own hown8; have S8 := Lib.hid hsl8; have H8 := Lib.hid ((B67.out.alloc B67.out.size _).trans (below_of_grown hg8 (by simp; omega) (fun g hg' => (hown7.lt g hg').1))); clear hown8 hg8 hnil8 hsl8)
        have S18 := Lib.hid ((S16.out.below H8.out).more H8.out.size)
        have B8 := Lib.hid (B6.out.trans (H8.out.mono B6.out.size))
        refine (hash_bytes t A8 (m + 1) c8 _ _ (by omega) (by omega) hn8 S8.out HZ1.out).mono ?_
        rintro e w9 ⟨rfl, hb9⟩
        have S19 := Lib.hid ((S18.out.below hb9).more hb9.size)
        have B9 := Lib.hid (B8.out.trans (hb9.mono B8.out.size))
        clear hb9
        go_wp2_with fail
        refine (hash_bytes t A1 m c1 _ _ (by omega) (by omega) hn1 S19.out HZ.out).mono ?_
        rintro e w10 ⟨rfl, hb10⟩
        have B10 := Lib.hid (B9.out.trans (hb10.mono B9.out.size))
        clear hb10
        go_wp2_with fail
        refine (lives_any _).mono ?_
        rintro e w11 ⟨rfl, hb11⟩
        have B11 := Lib.hid (B10.out.trans (hb11.mono B10.out.size))
        clear hb11
        go_wp2
        go_ret
        exact ⟨rfl, B11.out⟩
end Go.Proofs.Ytahgcedhhepodaa
