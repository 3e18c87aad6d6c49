/- The contracts of the reference's Sum, Bytes, Pair. -/
import Derived.Test.YtahgcedhhepodaaRefW
import Derived.Test.YtahgcedhhepodaaConv
import Derived.Test.YtahgcedhhepodaaSumM
namespace Go.Proofs.Ytahgcedhhepodaa
open Go.RowKit
set_option linter.unusedVariables false

theorem take_snoc_map {α : Type} (f : Int → α) (zs : List Int) (k : Nat) (h : k < zs.length) : (zs.take (k + 1)).map f = (zs.take k).map f ++ [f (zs[k]?.getD 0)] := by
  rw [List.take_succ_eq_append_getElem h, List.getElem?_eq_getElem h, List.map_append]; rfl
theorem take_snoc_id (zs : List Int) (k : Nat) (h : k < zs.length) : zs.take (k + 1) = zs.take k ++ [zs[k]?.getD 0] := by
  rw [List.take_succ_eq_append_getElem h, List.getElem?_eq_getElem h]; rfl

set_option maxHeartbeats 1000000 in
theorem ref_sum (s : ByteArray) (B : Option Addr) (m d : Nat) (ws : List Int) (w : World) (hs : s.size ≤ 1000000) (hm : m ≤ 1000000) (h : Sl .i64 w w.heap.size B m ws) :
    Calls Try.prog 14 #[.string s, .slice B m d] w fun e w' => e = .returned (.int .u64 (sumI (sB s) ws)) ∧ Below w.heap.size w w' := by
  have HL := Lib.hid h.len
  have HS := Lib.hid h
  clear h
  obtain ⟨cap, w1, hconv, hb1, hsz1, hsl1, hcap1, hcap2⟩ := conv_bytes (P := Try.prog) w 9 30 5 s (by unfold maxLen; omega) Try.underlying9 Try.underlying30 Try.underlying5
  have HB1 := Lib.hid hb1
  have HSL1 := Lib.hid hsl1
  clear hb1 hsl1 hcap1 hcap2
  go_enter Try.func14, Try.ntmps14
  go_wp2_with fail
  refine (words_any _ s.size cap (sB s) _ hs HSL1.out (sB_byte s)).mono ?_
  rintro e w2 ⟨v, rfl, hown2, hb2⟩
  obtain ⟨A2, c2, rfl, _, _, hsl2⟩ := Sl.of_own hown2
  have hbb : Below w.heap.size w w2 := HB1.out.trans (hb2.mono (by omega))
  have HB2 := Lib.hid hbb
  have HSL2 := Lib.hid hsl2
  have HL2 := Lib.hid hsl2.len
  clear hown2 hb2 hbb hsl2 hconv
  obtain ⟨K, hK⟩ : ∃ K, K = (s.size + 7) / 8 := ⟨_, rfl⟩
  rw [← hK] at HSL2 HL2 ⊢
  have hK2 : K ≤ 1000000 := by omega
  clear hK
  go_wp2_with fail
  go_loop [5, 7] (fun st i => ∃ k : Nat, k ≤ K ∧ i = .int .i64 k ∧ st = .int .u64 (foldM 0 ((wordsI (sB s)).take k))) (fun _ i => K - (intOf i).toNat)
  case atStart => exact ⟨0, Nat.zero_le _, rfl, rfl⟩
  case round =>
    obtain ⟨k, hk, rfl, rfl⟩ := hrel
    by_cases hlt : k < K
    · obtain ⟨b, off, rfl, _, hc⟩ := HSL2.out.at_ (by omega)
      have hcell := hc k hlt
      clear hc
      have HT := Lib.hid (take_snoc_id (wordsI (sB s)) k (by rw [HL2.out]; exact hlt))
      go_wp2_with (go_at_call 27; ((with_reducible refine (ref_mix _ _ _).mono ?_); rintro e w' ⟨rfl, rfl⟩))
      go_round
      case rel => exact ⟨k + 1, by omega, by go_num, by rw [HT.out, foldM_snoc]⟩
      case measure => simp [intOf]; omega
    · obtain rfl : k = K := by omega
      obtain ⟨S1, hS1⟩ : ∃ S1, S1 = foldM 0 ((wordsI (sB s)).take k) := ⟨_, rfl⟩
      have hS2 : S1 = foldM 0 (wordsI (sB s)) := by rw [hS1, List.take_of_length_le (by rw [HL2.out]; omega)]
      have HS1 := Lib.hid hS2
      rw [← hS1]
      clear hS1 hS2
      go_wp2_with (go_at_call 27; ((with_reducible refine (ref_mix _ _ _).mono ?_); rintro e w' ⟨rfl, rfl⟩))
      obtain ⟨S2, hS2⟩ : ∃ S2, S2 = mixI (mixI S1 ↑s.size) ↑m := ⟨_, rfl⟩
      rw [← hS2]
      have HS2 := Lib.hid hS2
      clear hS2
      go_loop [5, 8] (fun st i => ∃ j : Nat, j ≤ m ∧ i = .int .i64 j ∧ st = .int .u64 (foldM S2 ((ws.take j).map toU))) (fun _ i => m - (intOf i).toNat)
      case atStart => exact ⟨0, Nat.zero_le _, rfl, rfl⟩
      case round =>
        obtain ⟨j, hj, rfl, rfl⟩ := hrel
        by_cases hjt : j < m
        · obtain ⟨b, off, rfl, hb, hc⟩ := HS.out.at_ (by omega)
          have hcell := (HB2.out.cell (p := ⟨b, off + j, none⟩) hb).trans (hc j hjt)
          clear hc
          have HT := Lib.hid (take_snoc_map toU ws j (by rw [HL.out]; exact hjt))
          go_wp2_with (go_at_call 27; ((with_reducible refine (ref_mix _ _ _).mono ?_); rintro e w' ⟨rfl, rfl⟩))
          go_round
          case rel => exact ⟨j + 1, by omega, by go_num, by rw [HT.out, foldM_snoc, toU_def, List.map_take]⟩
          case measure => simp [intOf]; omega
        · obtain rfl : m = j := by omega
          go_wp2_with (go_at_call 27; ((with_reducible refine (ref_mix _ _ _).mono ?_); rintro e w' ⟨rfl, rfl⟩))
          go_ret
          refine ⟨ret_int ?_, HB2.out⟩
          rw [List.take_of_length_le (by simp [HL.out]), HS2.out, HS1.out, sumI, sB_len, HL.out]

/-! ### Bytes, Pair -/
set_option maxHeartbeats 1000000 in
theorem ref_bytes (s : ByteArray) (B : Option Addr) (m d : Nat) (zs : List Int) (w : World) (hs : s.size ≤ 1000000) (hm : m ≤ 1000000) (h : Sl .u8 w w.heap.size B m zs) (hz : ∀ b ∈ zs, byteI b) :
    Calls Try.prog 18 #[.string s, .slice B m d] w fun e w' => e = .returned (.int .u64 (bytesI (sB s) zs)) ∧ Below w.heap.size w w' := by
  have HL := Lib.hid h.len
  have HS := Lib.hid h
  have HZ := Lib.hid hz
  clear h hz
  obtain ⟨i0, hi, hz0, hz1, hz2⟩ := info_parts int_info
  go_enter Try.func18, Try.ntmps18
  go_wp2_with fail
  refine (words_any _ m d zs _ hm HS.out HZ.out).mono ?_
  rintro e w2 ⟨v, rfl, hown2, hb2⟩
  obtain ⟨A2, c2, rfl, _, _, hsl2⟩ := Sl.of_own hown2
  have HB2 := Lib.hid hb2
  have HSL2 := Lib.hid hsl2
  have HL2 := Lib.hid hsl2.len
  clear hown2 hb2 hsl2
  obtain ⟨K, hK⟩ : ∃ K, K = (m + 7) / 8 := ⟨_, rfl⟩
  rw [← hK] at HSL2 HL2 ⊢
  have hK2 : K ≤ 125000 := by omega
  clear hK
  go_wp2_with fail
  go_loopw [6, 7] (fun o i wr => ∃ k : Nat, k ≤ K ∧ i = .int .i64 k ∧ wr.ownsRow w2.heap.size 3 1 o k ((((wordsI zs).take k).map wrap64).map (Value.int .i64)) ∧ Below w2.heap.size w2 wr) (fun _ i _ => K - (intOf i).toNat)
  case atStart => exact ⟨0, Nat.zero_le _, rfl, by simpa using World.ownsRow_nil _ _ _ _, Below.refl _ _⟩
  case round =>
    obtain ⟨k, hk, rfl, hown, hbel⟩ := hrel
    have r1 : k + 1 ≤ maxLen := by unfold maxLen; omega
    have r2 : (k + 1) * 8 ≤ 140737488355328 := by omega
    by_cases hlt : k < K
    · obtain ⟨b, off, rfl, hb, hc⟩ := HSL2.out.at_ (by omega)
      have hcell := (hbel.cell (p := ⟨b, off + k, none⟩) hb).trans (hc k hlt)
      clear hc
      have HT := Lib.hid (take_snoc_map wrap64 (wordsI zs) k (by rw [HL2.out]; exact hlt))
      go_wp2_with (at_builtin; refine wpList_append_own _ rfl _ _ _ rfl w2.heap.size 3 i0 _ 1 8 Try.underlying22 hi hz0 hz1 hz2 rfl (by omega) _ k ((((wordsI zs).take k).map wrap64).map (Value.int .i64)) rfl (hown.alloc _) ⟨wr.heap.size, 0, none⟩ 1 1 [Value.int .i64 (wrap64 ((wordsI zs)[k]?.getD 0))] rfl rfl (cell_one_new _ _ _) (by simp [Value.oneCell']) (by omega) (by omega) (by have := hbel.size; simp; omega) ?_; intro v1 w1 hown1 hg1 hnil1)
      go_roundw
      case rel =>
        refine ⟨k + 1, by omega, by go_num, ?_, ?_⟩
        · rw [HT.out, List.map_append]; exact hown1
        · exact (hbel.alloc hbel.size _).trans (below_of_grown hg1 (by have := hbel.size; simp; omega) (fun g hg' => (hown.lt g hg').1))
      case measure => simp [intOf]; omega
    · obtain rfl : K = k := by omega
      rw [List.take_of_length_le (by rw [HL2.out]; omega)] at hown
      have e1 : ((wordsI zs).map wrap64).map (Value.int .i64) ++ [Value.int .i64 (m : Int)] = ((wordsI zs).map wrap64 ++ [(m : Int)]).map (Value.int .i64) := by rw [List.map_append]; rfl
      have E1 := Lib.hid e1
      clear e1
      go_wp2_with (at_builtin; refine wpList_append_own _ rfl _ _ _ rfl w2.heap.size 3 i0 _ 1 8 Try.underlying22 hi hz0 hz1 hz2 rfl (by omega) _ K (((wordsI zs).map wrap64).map (Value.int .i64)) rfl (hown.alloc _) ⟨wr.heap.size, 0, none⟩ 1 1 [Value.int .i64 (m : Int)] rfl rfl (cell_one_new _ _ _) (by simp [Value.oneCell']) (by omega) (by omega) (by have := hbel.size; simp; omega) ?_; intro v1 w1 hown1 hg1 hnil1; rw [E1.out] at hown1; obtain ⟨A3, c3, rfl, _, _, hsl3⟩ := Sl.of_own hown1; have HSL3 := Lib.hid hsl3; clear hsl3; have HB3 := Lib.hid ((hbel.alloc hbel.size _).trans (below_of_grown hg1 (by have := hbel.size; simp; omega) (fun g hg' => (hown.lt g hg').1))); clear hown1 hg1 hnil1)
      refine (ref_sum s _ (K + 1) _ _ _ hs (by omega) HSL3.out).mono ?_
      rintro e w4 ⟨rfl, hb4⟩
      go_wp2
      go_ret
      exact ⟨ret_int (by rw [bytesI, HL.out]), HB2.out.trans ((HB3.out.mono HB2.out.size).trans (hb4.mono (Nat.le_trans HB2.out.size HB3.out.size)))⟩

theorem two_cells (k : IntKind) (w : World) (t : TypeId) (a b : Int) : Sl k (w.alloc (.cells #[.int k a, .int k b] t)) (w.alloc (.cells #[.int k a, .int k b] t)).heap.size (some ⟨w.heap.size, 0, none⟩) 2 [a, b] := by
  refine ⟨rfl, .inr ⟨w.heap.size, 0, rfl, by simp, fun j hj => ?_⟩⟩
  have : j = 0 ∨ j = 1 := by omega
  rcases this with rfl | rfl <;> (rw [cell_of_row _ _ _ _ _ _ (heap_alloc_new w _)]; rfl)
theorem one_cell (k : IntKind) (w : World) (t : TypeId) (a : Int) : Sl k (w.alloc (.cells #[.int k a] t)) (w.alloc (.cells #[.int k a] t)).heap.size (some ⟨w.heap.size, 0, none⟩) 1 [a] := by
  refine ⟨rfl, .inr ⟨w.heap.size, 0, rfl, by simp, fun j hj => ?_⟩⟩
  have : j = 0 := by omega
  subst this; rw [cell_of_row _ _ _ _ _ _ (heap_alloc_new w _)]; rfl

set_option maxHeartbeats 400000 in
theorem ref_pair (a b : Int) (w : World) :
    Calls Try.prog 20 #[.int .u64 a, .int .u64 b] w fun e w' => e = .returned (.int .u64 (pairI a b)) ∧ Below w.heap.size w w' := by
  go_enter Try.func20, Try.ntmps20
  go_wp2_with fail
  refine (ref_sum _ _ 2 2 [wrap64 a, wrap64 b] _ (by decide) (by omega) (two_cells .i64 w _ (wrap64 a) (wrap64 b))).mono ?_
  rintro e w4 ⟨rfl, hb4⟩
  go_wp2
  go_ret
  exact ⟨ret_int rfl, ((Below.refl _ w).alloc (Nat.le_refl _) _).trans (hb4.mono (by simp))⟩
end Go.Proofs.Ytahgcedhhepodaa
