/- Layer 5's laws: RandWords. -/
import Derived.Test.YtgfhniiidejmoaaDoorA43
namespace Go.Proofs.YtgfhniiidejmoaaDoor
open Go.RowKit Go.Shelf
set_option linter.unusedVariables false

set_option maxRecDepth 100000 in
set_option maxHeartbeats 4000000 in
theorem randWords_law (seed i : Int) (s : ByteArray) (w : World) (hs : s.size ≤ maxLen) (hR : RoundsAt w) :
    Calls Tryd.prog 3 #[.int .u64 seed, .string s, .int .i64 i] w fun e w' => e = .returned (.bool true) ∧ Below w.heap.size w w' := by
  have HB := Lib.hid (Below.refl w.heap.size w)
  have HR := Lib.hid hR
  clear hR
  go_enter Tryd.func3, Tryd.ntmps3
  go_wp2_with fail
  refine (short_any s 20 _ hs).mono ?_
  rintro e w1 ⟨rfl, rfl⟩
  have hsz := shortB_size s 20
  obtain ⟨S, hS⟩ : ∃ S, S = shortB s 20 := ⟨_, rfl⟩
  rw [← hS] at hsz ⊢
  have hsz2 : S.size ≤ 1000000 := by omega
  clear hS hs
  obtain ⟨X, hX⟩ : ∃ X, X = wordI (sB S) seed i := ⟨_, rfl⟩
  obtain ⟨Y, hY⟩ : ∃ Y, Y = splitI (sB S) seed i := ⟨_, rfl⟩
  have HW := Lib.hid (fun w => sword_any seed i S w hsz2)
  have HW2 := Lib.hid (fun w => rword_any seed i S w hsz2)
  have HP := Lib.hid (fun w => split_any seed i S w hsz2)
  have HP2 := Lib.hid (fun w => rsplit_any seed i S w hsz2)
  have HS1 := Lib.hid (fun (w : World) t => hash_sum S (some ⟨w.heap.size, 0, none⟩) 2 2 [wrap64 seed, i] (w.alloc (.cells #[.int .i64 (wrap64 seed), .int .i64 i] t)) hsz2 (by omega) (two_cells .i64 w t (wrap64 seed) i))
  have HS2 := Lib.hid (fun (w : World) t => hash_sum splitB (some ⟨w.heap.size, 0, none⟩) 1 1 [wrap64 X] (w.alloc (.cells #[.int .i64 (wrap64 X)] t)) (by decide) (by omega) (one_cell .i64 w t (wrap64 X)))
  replace HS1 := Lib.hid (show ∀ (w : World) t, Calls Tryd.prog 13 #[.string S, .slice (some ⟨w.heap.size, 0, none⟩) 2 2] (w.alloc (.cells #[.int .i64 (wrap64 seed), .int .i64 i] t)) (fun e w' => e = .returned (.int .u64 X) ∧ Below (w.alloc (.cells #[.int .i64 (wrap64 seed), .int .i64 i] t)).heap.size (w.alloc (.cells #[.int .i64 (wrap64 seed), .int .i64 i] t)) w') from by rw [hX]; exact HS1.out)
  replace HS2 := Lib.hid (show ∀ (w : World) t, Calls Tryd.prog 13 #[.string ⟨#[115, 112, 108, 105, 116]⟩, .slice (some ⟨w.heap.size, 0, none⟩) 1 1] (w.alloc (.cells #[.int .i64 (wrap64 X)] t)) (fun e w' => e = .returned (.int .u64 Y) ∧ Below (w.alloc (.cells #[.int .i64 (wrap64 X)] t)).heap.size (w.alloc (.cells #[.int .i64 (wrap64 X)] t)) w') from by rw [hY]; unfold splitI; rw [← hX]; exact HS2.out)
  rw [← hX] at HW HW2
  rw [← hY] at HP HP2
  have hd1 : (X != X) = false := by simp
  have hd2 : (Y != Y) = false := by simp
  have hd3 : (Y == Y) = true := by simp
  clear hX hY
  go_wp2_with fail
  refine (HW.out _).mono ?_
  rintro e w2 ⟨rfl, b⟩
  replace HB := Lib.hid (bstep HB.out b)
  replace HR := Lib.hid (HR.out.below b)
  clear b
  go_wp2_with fail
  refine (HP.out _).mono ?_
  rintro e w3 ⟨rfl, b⟩
  replace HB := Lib.hid (bstep HB.out b)
  replace HR := Lib.hid (HR.out.below b)
  clear b
  go_wp2_with fail
  refine (HW2.out _).mono ?_
  rintro e w4 ⟨rfl, b⟩
  replace HB := Lib.hid (bstep HB.out b)
  replace HR := Lib.hid (HR.out.below b)
  clear b
  go_wp2_with fail
  refine (HS1.out _ _).mono ?_
  rintro e w5 ⟨rfl, b⟩
  replace b := bstep (al_below w4 _) b
  replace HB := Lib.hid (bstep HB.out b)
  replace HR := Lib.hid (HR.out.below b)
  clear b
  go_wp2_with fail
  refine (HS2.out _ _).mono ?_
  rintro e w6 ⟨rfl, b⟩
  replace b := bstep (al_below w5 _) b
  replace HB := Lib.hid (bstep HB.out b)
  replace HR := Lib.hid (HR.out.below b)
  clear b
  go_wp2_with fail
  refine (HP2.out _).mono ?_
  rintro e w7 ⟨rfl, b⟩
  replace HB := Lib.hid (bstep HB.out b)
  replace HR := Lib.hid (HR.out.below b)
  clear b
  go_wp2_with fail
  refine (rlives_any _ HR.out).mono ?_
  rintro e w8 ⟨rfl, b⟩
  replace HB := Lib.hid (bstep HB.out b)
  clear b HR
  go_wp2_with fail
  go_ret
  exact ⟨rfl, HB.out⟩
end Go.Proofs.YtgfhniiidejmoaaDoor
