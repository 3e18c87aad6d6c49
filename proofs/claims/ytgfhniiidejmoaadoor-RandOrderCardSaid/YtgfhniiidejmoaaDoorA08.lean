/- The contracts of the reference's Sum, Bytes, Pair. -/
import Derived.Test.YtgfhniiidejmoaaDoorA07
import Derived.Test.YtgfhniiidejmoaaDoorA05
import Derived.Test.YtgfhniiidejmoaaDoorA01
import Derived.Test.YtgfhniiidejmoaaDoorA06
namespace Go.Proofs.YtgfhniiidejmoaaDoor
open Go.RowKit
set_option linter.unusedVariables false

set_option maxHeartbeats 1000000 in
theorem ref_sum (s : ByteArray) (B : Option Addr) (m d : Nat) (ws : List Int) (w : World) (hs : s.size ≤ 1000000) (hm : m ≤ 1000000) (h : Sl .i64 w w.heap.size B m ws) :
    Calls Tryd.prog 31 #[.string s, .slice B m d] w fun e w' => e = .returned (.int .u64 (sumI (sB s) ws)) ∧ Below w.heap.size w w' := by
  have HL := Lib.hid h.len
  have HS := Lib.hid h
  clear h
  obtain ⟨cap, w1, hconv, hb1, hsz1, hsl1, hcap1, hcap2⟩ := conv_bytes (P := Tryd.prog) w 9 58 5 s (by unfold maxLen; omega) Tryd.underlying9 Tryd.underlying58 Tryd.underlying5
  have HB1 := Lib.hid hb1
  have HSL1 := Lib.hid hsl1
  clear hb1 hsl1 hcap1 hcap2
  go_enter Tryd.func31, Tryd.ntmps31
  go_wp2_with fail
  refine (words_any _ s.size cap (sB s) _ hs HSL1.out (sB_byte s)).mono ?_
  rintro e w2 ⟨v, rfl, hown2, hb2⟩
  obtain ⟨A2, c2, rfl, _, _, hsl2⟩ := Sl.of_own hown2
  have hbb : Below w.heap.size w w2 := HB1.out.trans (hb2.mono (by omega))
  have HB2 := Lib.hid hbb
  have HSL2 := Lib.hid hsl2
  have HL2 := Lib.hid hsl2.len
  clear hown2 hb2 hbb hsl2 hconv
  obtain ⟨K, hK⟩ : ∃ K, K = (s.size + 7) / 8 := ⟨_, rfl⟩
  rw [← hK] at HSL2 HL2 ⊢
  have hK2 : K ≤ 1000000 := by omega
  clear hK
  go_wp2_with fail
  go_loop [5, 7] (fun st i => ∃ k : Nat, k ≤ K ∧ i = .int .i64 k ∧ st = .int .u64 (foldM 0 ((wordsI (sB s)).take k))) (fun _ i => K - (intOf i).toNat)
  case atStart => exact ⟨0, Nat.zero_le _, rfl, rfl⟩
  case round =>
    obtain ⟨k, hk, rfl, rfl⟩ := hrel
    by_cases hlt : k < K
    · obtain ⟨b, off, rfl, _, hc⟩ := HSL2.out.at_ (by omega)
      have hcell := hc k hlt
      clear hc
      have HT := Lib.hid (take_snoc_id (wordsI (sB s)) k (by rw [HL2.out]; exact hlt))
      go_wp2_with (go_at_call 60; ((with_reducible refine (ref_mix _ _ _).mono ?_); rintro e w' ⟨rfl, rfl⟩))
      go_round
      case rel => exact ⟨k + 1, by omega, by go_num, by rw [HT.out, foldM_snoc]⟩
      case measure => simp [intOf]; omega
    · obtain rfl : k = K := by omega
      obtain ⟨S1, hS1⟩ : ∃ S1, S1 = foldM 0 ((wordsI (sB s)).take k) := ⟨_, rfl⟩
      have hS2 : S1 = foldM 0 (wordsI (sB s)) := by rw [hS1, List.take_of_length_le (by rw [HL2.out]; omega)]
      have HS1 := Lib.hid hS2
      rw [← hS1]
      clear hS1 hS2
      go_wp2_with (go_at_call 60; ((with_reducible refine (ref_mix _ _ _).mono ?_); rintro e w' ⟨rfl, rfl⟩))
      obtain ⟨S2, hS2⟩ : ∃ S2, S2 = mixI (mixI S1 ↑s.size) ↑m := ⟨_, rfl⟩
      rw [← hS2]
      have HS2 := Lib.hid hS2
      clear hS2
      go_loop [5, 8] (fun st i => ∃ j : Nat, j ≤ m ∧ i = .int .i64 j ∧ st = .int .u64 (foldM S2 ((ws.take j).map toU))) (fun _ i => m - (intOf i).toNat)
      case atStart => exact ⟨0, Nat.zero_le _, rfl, rfl⟩
      case round =>
        obtain ⟨j, hj, rfl, rfl⟩ := hrel
        by_cases hjt : j < m
        · obtain ⟨b, off, rfl, hb, hc⟩ := HS.out.at_ (by omega)
          have hcell := (HB2.out.cell (p := ⟨b, off + j, none⟩) hb).trans (hc j hjt)
          clear hc
          have HT := Lib.hid (take_snoc_map toU ws j (by rw [HL.out]; exact hjt))
          go_wp2_with (go_at_call 60; ((with_reducible refine (ref_mix _ _ _).mono ?_); rintro e w' ⟨rfl, rfl⟩))
          go_round
          case rel => exact ⟨j + 1, by omega, by go_num, by rw [HT.out, foldM_snoc, toU_def, List.map_take]⟩
          case measure => simp [intOf]; omega
        · obtain rfl : m = j := by omega
          go_wp2_with (go_at_call 60; ((with_reducible refine (ref_mix _ _ _).mono ?_); rintro e w' ⟨rfl, rfl⟩))
          go_ret
          refine ⟨ret_int ?_, HB2.out⟩
          rw [List.take_of_length_le (by simp [HL.out]), HS2.out, HS1.out, sumI, sB_len, HL.out]

/-! ### Bytes, Pair -/
end Go.Proofs.YtgfhniiidejmoaaDoor
