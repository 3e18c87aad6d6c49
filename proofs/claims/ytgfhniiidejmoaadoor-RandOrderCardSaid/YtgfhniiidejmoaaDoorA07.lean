/- The contract of the reference's Words. -/
import Derived.Test.YtgfhniiidejmoaaDoorA03
import Derived.Test.YtgfhniiidejmoaaDoorA01
import Derived.Maps.AppendAt
namespace Go.Proofs.YtgfhniiidejmoaaDoor
open Go.RowKit
set_option linter.unusedVariables false

theorem append_one_room (j n : Nat) (hn : n ≤ 1000000) (hj : 8 * j < n) : j + 1 ≤ maxLen ∧ (j + 1) * 8 ≤ 140737488355328 := by unfold maxLen; omega

set_option maxHeartbeats 1000000 in
theorem words_any (A : Option Addr) (n c : Nat) (zs : List Int) (w : World) (hn : n ≤ 1000000) (h : Sl .u8 w w.heap.size A n zs) (hz : ∀ b ∈ zs, byteI b) :
    Calls Tryd.prog 59 #[.slice A n c] w fun e w' => ∃ v, e = .returned v ∧ w'.ownsRow w.heap.size 22 1 v ((n + 7) / 8) ((wordsI zs).map (Value.int .u64)) ∧ Below w.heap.size w w' := by
  obtain ⟨i0, hi, hz0, hz1, hz2⟩ := info_parts u64_info
  have hl := h.len
  have HS := Lib.hid h
  have HL := Lib.hid hl
  have HZ := Lib.hid hz
  clear h hl hz
  go_enter Tryd.func59, Tryd.ntmps59
  go_wp2_with fail
  go_loopw [3, 4] (fun o i wr => ∃ j p : Nat, p = 8 * j ∧ i = .int .i64 (p : Int) ∧ p < n + 8 ∧ wr.ownsRow w.heap.size 22 1 o j ((wordsUpto zs j).map (Value.int .u64)) ∧ Below w.heap.size w wr) (fun _ i _ => n + 8 - (intOf i).toNat)
  case atStart => exact ⟨0, 0, rfl, rfl, by omega, by simpa [wordsUpto] using World.ownsRow_nil _ _ _ _, Below.refl _ _⟩
  case round =>
    obtain ⟨j, p, hp, rfl, hj, hown, hbel⟩ := hrel
    have HP := Lib.hid hp
    clear hp
    by_cases hlt : p < n
    · by_cases h8 : n < p + 8
      · have h8' : (n : Int) < (p : Int) + 8 := by omega
        go_wp2
        go_loop [5, 6] (fun x k => ∃ q : Nat, p ≤ q ∧ q ≤ n ∧ k = .int .i64 ((q : Int) - 1) ∧ x = .int .u64 (leI (seg zs q (n)))) (fun _ k => (intOf k + 1).toNat - p)
        case atStart => exact ⟨n, by omega, Nat.le_refl _, rfl, by rw [seg_self]; rfl⟩
        case round =>
          obtain ⟨q, hq1, hq2, rfl, rfl⟩ := hrel
          by_cases hgt : p < q
          · obtain ⟨q', rfl⟩ : ∃ q', q = q' + 1 := ⟨q - 1, by omega⟩
            obtain ⟨b, off, rfl, hb, hc⟩ := HS.out.at_ (by omega)
            have hcell := (hbel.cell (p := ⟨b, off + q', none⟩) hb).trans (hc q' (by omega))
            have hbd := getD_bd zs HZ.out q' (by rw [HL.out]; omega)
            have hsb := seg_bd zs HZ.out (q' + 1) (n) (by rw [HL.out]; omega)
            have hpw := pow_le7 (n - (q' + 1)) (by omega)
            have hst := seg_cons zs q' (n) (by omega) (by rw [HL.out]; omega)
            obtain ⟨W, hW⟩ : ∃ W, W = leI (seg zs (q' + 1) (n)) := ⟨_, rfl⟩
            obtain ⟨z, hzz⟩ : ∃ z, z = zs[q']?.getD 0 := ⟨_, rfl⟩
            rw [← hW] at hsb ⊢
            rw [← hzz] at hcell hbd hst
            have hn1 : leI (seg zs q' (n)) = 256 * W + z := by rw [hst, leI_cons, hW]
            have HN := Lib.hid hn1
            obtain ⟨hb0, hb1⟩ := hbd
            obtain ⟨hs0, hs1⟩ := hsb
            have hs2 : W ≤ 72057594037927935 := by omega
            have hq'' : (p : Int) ≤ (q' : Int) := by omega
            clear hn1 hW hzz hst hpw hs1 hc
            rw [show (((q' + 1 : Nat) : Int) - 1) = (q' : Int) from by omega]
            go_wp2
            go_round
            case rel => exact ⟨q', by omega, by omega, rfl, by rw [HN.out]⟩
            case measure => simp [intOf]; omega
          · obtain rfl : p = q := by omega
            have hq'' : ¬ (p : Int) ≤ (p : Int) - 1 := by omega
            have hw1 : leI (seg zs p (n)) = wordAt zs j := by
              unfold wordAt
              have h1 := HP.out
              rw [← h1, HL.out, show min (p + 8) n = n from by omega]
            have HW := Lib.hid hw1
            obtain ⟨r1, r2⟩ := append_one_room j n hn (by have := HP.out; omega)
            obtain ⟨W, hWW⟩ : ∃ W, W = leI (seg zs p (n)) := ⟨_, rfl⟩
            rw [← hWW] at hw1 ⊢
            have HW2 := Lib.hid hw1
            clear hw1 hWW HW
            go_wp2_with (at_builtin; refine wpList_append_own _ rfl _ _ _ rfl w.heap.size 22 i0 _ 1 8 Tryd.underlying97 hi hz0 hz1 hz2 rfl (by omega) _ j ((wordsUpto zs j).map (Value.int .u64)) rfl (hown.alloc _) ⟨wr.heap.size, 0, none⟩ 1 1 [Value.int .u64 W] rfl rfl (cell_one_new _ _ _) (by simp [Value.oneCell']) (by omega) (by omega) (by have := hbel.size; simp; omega) ?_; intro v1 w1 hown1 hg1 hnil1)
            go_roundw
            case rel =>
              refine ⟨j + 1, p + 8, by have := HP.out; omega, by go_num, by omega, ?_, ?_⟩
              · rw [wordsUpto_succ, List.map_append, ← HW2.out]; exact hown1
              · exact (hbel.alloc hbel.size _).trans (below_of_grown hg1 (by have := hbel.size; simp; omega) (fun g hg' => (hown.lt g hg').1))
            case measure => simp [intOf]; omega
      · have h8' : ¬ (n : Int) < (p : Int) + 8 := by omega
        go_wp2
        go_loop [5, 6] (fun x k => ∃ q : Nat, p ≤ q ∧ q ≤ p + 8 ∧ k = .int .i64 ((q : Int) - 1) ∧ x = .int .u64 (leI (seg zs q (p + 8)))) (fun _ k => (intOf k + 1).toNat - p)
        case atStart => exact ⟨p + 8, by omega, Nat.le_refl _, by go_num, by rw [seg_self]; rfl⟩
        case round =>
          obtain ⟨q, hq1, hq2, rfl, rfl⟩ := hrel
          by_cases hgt : p < q
          · obtain ⟨q', rfl⟩ : ∃ q', q = q' + 1 := ⟨q - 1, by omega⟩
            obtain ⟨b, off, rfl, hb, hc⟩ := HS.out.at_ (by omega)
            have hcell := (hbel.cell (p := ⟨b, off + q', none⟩) hb).trans (hc q' (by omega))
            have hbd := getD_bd zs HZ.out q' (by rw [HL.out]; omega)
            have hsb := seg_bd zs HZ.out (q' + 1) (p + 8) (by rw [HL.out]; omega)
            have hpw := pow_le7 (p + 8 - (q' + 1)) (by omega)
            have hst := seg_cons zs q' (p + 8) (by omega) (by rw [HL.out]; omega)
            obtain ⟨W, hW⟩ : ∃ W, W = leI (seg zs (q' + 1) (p + 8)) := ⟨_, rfl⟩
            obtain ⟨z, hzz⟩ : ∃ z, z = zs[q']?.getD 0 := ⟨_, rfl⟩
            rw [← hW] at hsb ⊢
            rw [← hzz] at hcell hbd hst
            have hn1 : leI (seg zs q' (p + 8)) = 256 * W + z := by rw [hst, leI_cons, hW]
            have HN := Lib.hid hn1
            obtain ⟨hb0, hb1⟩ := hbd
            obtain ⟨hs0, hs1⟩ := hsb
            have hs2 : W ≤ 72057594037927935 := by omega
            have hq'' : (p : Int) ≤ (q' : Int) := by omega
            clear hn1 hW hzz hst hpw hs1 hc
            rw [show (((q' + 1 : Nat) : Int) - 1) = (q' : Int) from by omega]
            go_wp2
            go_round
            case rel => exact ⟨q', by omega, by omega, rfl, by rw [HN.out]⟩
            case measure => simp [intOf]; omega
          · obtain rfl : p = q := by omega
            have hq'' : ¬ (p : Int) ≤ (p : Int) - 1 := by omega
            have hw1 : leI (seg zs p (p + 8)) = wordAt zs j := by
              unfold wordAt
              have h1 := HP.out
              rw [← h1, HL.out, show min (p + 8) n = p + 8 from by omega]
            have HW := Lib.hid hw1
            obtain ⟨r1, r2⟩ := append_one_room j n hn (by have := HP.out; omega)
            obtain ⟨W, hWW⟩ : ∃ W, W = leI (seg zs p (p + 8)) := ⟨_, rfl⟩
            rw [← hWW] at hw1 ⊢
            have HW2 := Lib.hid hw1
            clear hw1 hWW HW
            go_wp2_with (at_builtin; refine wpList_append_own _ rfl _ _ _ rfl w.heap.size 22 i0 _ 1 8 Tryd.underlying97 hi hz0 hz1 hz2 rfl (by omega) _ j ((wordsUpto zs j).map (Value.int .u64)) rfl (hown.alloc _) ⟨wr.heap.size, 0, none⟩ 1 1 [Value.int .u64 W] rfl rfl (cell_one_new _ _ _) (by simp [Value.oneCell']) (by omega) (by omega) (by have := hbel.size; simp; omega) ?_; intro v1 w1 hown1 hg1 hnil1)
            go_roundw
            case rel =>
              refine ⟨j + 1, p + 8, by have := HP.out; omega, by go_num, by omega, ?_, ?_⟩
              · rw [wordsUpto_succ, List.map_append, ← HW2.out]; exact hown1
              · exact (hbel.alloc hbel.size _).trans (below_of_grown hg1 (by have := hbel.size; simp; omega) (fun g hg' => (hown.lt g hg').1))
            case measure => simp [intOf]; omega
    · go_wp2
      go_ret
      have hn8 : j = (n + 7) / 8 := by have := HP.out; omega
      subst hn8
      exact ⟨_, rfl, by rw [wordsI, HL.out]; exact hown, hbel⟩
end Go.Proofs.YtgfhniiidejmoaaDoor
