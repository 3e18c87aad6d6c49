/- The reference's encodings: Uint, Zigzag, Int, Bool, Raw, Ints, Encode. -/
import Derived.Test.YtjnjglkmabnlfaaValF
namespace Go.Proofs.Ytjnjglkmabnlfaa
open Go.RowKit
set_option linter.unusedVariables false

/-- a row of bytes of the call's own is what comes back -/
def OwnB (w w' : World) (e : Ending) (l : List Int) : Prop := ∃ v, e = .returned v ∧ w'.ownsRow w.heap.size 5 1 v l.length (cB l) ∧ Below w.heap.size w w'

set_option maxHeartbeats 1000000 in
theorem ref_uint (n : Int) (w : World) (hn : u64 n) :
    Calls Try.prog 40 #[.int .u64 n] w fun e w' => OwnB w w' e (encU n) := by
  obtain ⟨i0, hi, hz0, hz1, hz2⟩ := info_parts u8_info
  have hen := encU_len n hn
  unfold u64 at hn
  go_enter Try.func40, Try.ntmps40
  go_wp2
  go_loopw [0, 3] (fun i o wr => ∃ (k : Int) (xs : List Int), 0 ≤ k ∧ k ≤ n ∧ i = .int .u64 k ∧ Hid (xs ++ encU k = encU n) ∧ wr.ownsRow w.heap.size 5 1 o xs.length (cB xs) ∧ Below w.heap.size w wr) (fun i _ _ => (intOf i).toNat)
  case atStart => exact ⟨n, [], hn.1, Int.le_refl _, rfl, rfl, World.ownsRow_nil _ _ _ _, Below.refl _ _⟩
  case round =>
    obtain ⟨k, xs, hk0, hk1, rfl, HE, hown, hbel⟩ := hrel
    have hxl : xs.length ≤ 10 := by
      have := congrArg List.length HE.out
      simp only [List.length_append] at *; omega
    have hsz := hbel.size
    obtain ⟨A, c, rfl, hnc, hcm⟩ := own_shape hown
    have hr1 : xs.length + 1 ≤ maxLen := by unfold maxLen; omega
    have hr2 : (xs.length + 1) * 1 ≤ 140737488355328 := by omega
    have hlo := fun g hg => (hown.lt g hg).1
    have HLO := Lib.hid hlo
    have BB := Lib.hid hbel
    clear hlo hbel
    by_cases hlt : 127 < k
    · have HS := Lib.hid (encU_ge k (by omega))
      have E1 := Lib.hid (show cB xs ++ [Value.int .u8 (128 + k % 128)] = cB (xs ++ [128 + k % 128]) from cB_snoc _ _)
      have hl1 : xs.length + 1 = (xs ++ [128 + k % 128]).length := by simp
      have HL1 := Lib.hid hl1
      have hmod : (128 + k % 128) % 256 = 128 + k % 128 := by omega
      clear hl1
      go_wp2_with (at_builtin; refine wpList_append_own _ rfl _ _ _ rfl w.heap.size 5 i0 _ 1 1 Try.underlying24 hi hz0 hz1 hz2 rfl (by omega) _ xs.length (cB xs) rfl (hown.alloc _) ⟨wr.heap.size, 0, none⟩ 1 1 [.int .u8 (128 + k % 128)] rfl rfl (cell_one_new _ _ _) (by simp [Value.oneCell']) hr1 hr2 (by simp; omega) ?_; intro v1 w1 hown1 hg1 hnil1; rw [E1.out] at hown1; have hb1 := below_row (BB.out.alloc hsz (.cells #[.int .u8 (128 + k % 128)] 5)) hg1 (by simp; omega) HLO.out; have HO1 := Lib.hid hown1; have HB1 := Lib.hid hb1; clear hown1 hg1 hnil1 hb1)
      first
        | (go_roundw
           case rel => exact ⟨k / 128, xs ++ [128 + k % 128], by omega, by omega, rfl, (by show _ = _; rw [← HE.out, HS.out]; simp), (by rw [← HL1.out]; exact HO1.out), HB1.out⟩
           case measure => simp [intOf]; omega)
        | exact ⟨⟨k / 128, xs ++ [128 + k % 128], by omega, by omega, rfl, (by show _ = _; rw [← HE.out, HS.out]; simp), (by rw [← HL1.out]; exact HO1.out), HB1.out⟩, by simp [intOf]; omega⟩
    · have hk256 : k % 256 = k := by omega
      have E1 := Lib.hid (show cB xs ++ [Value.int .u8 k] = cB (xs ++ [k]) from cB_snoc _ _)
      have hl1 : xs.length + 1 = (xs ++ [k]).length := by simp
      have HL1 := Lib.hid hl1
      clear hl1
      go_wp2_with (at_builtin; refine wpList_append_own _ rfl _ _ _ rfl w.heap.size 5 i0 _ 1 1 Try.underlying24 hi hz0 hz1 hz2 rfl (by omega) _ xs.length (cB xs) rfl (hown.alloc _) ⟨wr.heap.size, 0, none⟩ 1 1 [.int .u8 k] rfl rfl (cell_one_new _ _ _) (by simp [Value.oneCell']) hr1 hr2 (by simp; omega) ?_; intro v1 w1 hown1 hg1 hnil1; rw [E1.out] at hown1; have hb1 := below_row (BB.out.alloc hsz (.cells #[.int .u8 k] 5)) hg1 (by simp; omega) HLO.out; have HO1 := Lib.hid hown1; have HB1 := Lib.hid hb1; clear hown1 hg1 hnil1 hb1)
      go_ret
      have e := HE.out
      rw [encU_lt k (by omega)] at e
      exact ⟨_, rfl, by rw [← e, ← HL1.out]; exact HO1.out, HB1.out⟩

theorem ref_zigzag (n : Int) (w : World) (h : i64 n) :
    Calls Try.prog 60 #[.int .i64 n] w fun e w' => e = .returned (.int .u64 (zig n)) ∧ w = w' := by
  obtain ⟨h0, h1⟩ := h
  by_cases hn : n < 0
  · go_enter Try.func60, Try.ntmps60
    go_wp2
    go_ret
    exact ⟨ret_int (by rw [zig, if_pos hn]; omega), rfl⟩
  · go_enter Try.func60, Try.ntmps60
    go_wp2
    go_ret
    exact ⟨ret_int (by rw [zig, if_neg (by omega)]), rfl⟩
theorem ref_int (n : Int) (w : World) (h : i64 n) :
    Calls Try.prog 41 #[.int .i64 n] w fun e w' => OwnB w w' e (encU (zig n)) := by
  go_enter Try.func41, Try.ntmps41
  go_wp2_with fail
  refine (ref_zigzag n _ h).mono ?_
  rintro e w1 ⟨rfl, rfl⟩
  go_wp2_with fail
  refine (ref_uint _ _ (zig_u64 n h)).mono ?_
  rintro e w1 ⟨v, rfl, hown, hb⟩
  go_wp2_with fail
  go_ret
  exact ⟨_, rfl, hown, hb⟩
theorem own_lit1 (w : World) (x : Int) : (w.alloc (.cells #[.int .u8 x] 5)).ownsRow w.heap.size 5 1 (.slice (some ⟨w.heap.size, 0, none⟩) 1 1) 1 (cB [x]) :=
  World.ownsRow_lit w #[.int .u8 x] 1 (Nat.le_refl _) (by unfold maxLen; omega) rfl
theorem ref_bool (b : Bool) (w : World) :
    Calls Try.prog 42 #[.bool b] w fun e w' => OwnB w w' e [bitI b] := by
  cases b
  all_goals
    go_enter Try.func42, Try.ntmps42
    go_wp2
    go_ret
    exact ⟨_, rfl, own_lit1 w _, (Below.refl _ _).alloc (Nat.le_refl _) _⟩
end Go.Proofs.Ytjnjglkmabnlfaa
