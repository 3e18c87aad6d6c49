/- The contract of lives. -/
import Derived.Test.YtahgcedhhepodaaHashS
namespace Go.Proofs.Ytahgcedhhepodaa
open Go.RowKit
set_option linter.unusedVariables false

theorem live1 : (sumI (sB ⟨#[97]⟩) [5] != sumI (sB ⟨#[97]⟩) [6]) = true := by decide +kernel
theorem live2 : (bytesI (sB ⟨#[97]⟩) [1, 2] == sumI (sB ⟨#[97]⟩) [513, 2]) = true := by decide +kernel
theorem live3 : (pairI 1 2 != pairI 1 3) = true := by decide +kernel

set_option maxHeartbeats 1000000 in
theorem lives_any (w : World) :
    Calls Try.prog 15 #[] w fun e w' => e = .returned (.bool true) ∧ Below w.heap.size w w' := by
  have l1 := live1
  have l2 := live2
  have l3 := live3
  go_enter Try.func15, Try.ntmps15
  go_wp2_with fail
  refine (hash_sum _ _ 1 1 [5] _ (by decide) (by omega) (one_cell .i64 w _ 5)).mono ?_
  rintro e w1 ⟨rfl, hb1⟩
  have b1 : Below w.heap.size w w1 := ((Below.refl _ w).alloc (Nat.le_refl _) _).trans (hb1.mono (by simp))
  have B1 := Lib.hid b1
  clear b1 hb1
  go_wp2_with fail
  refine (hash_sum _ _ 1 1 [6] _ (by decide) (by omega) (one_cell .i64 w1 _ 6)).mono ?_
  rintro e w2 ⟨rfl, hb2⟩
  have b2 : Below w.heap.size w w2 := (B1.out.alloc B1.out.size _).trans (hb2.mono (by have := B1.out.size; simp; omega))
  have B2 := Lib.hid b2
  clear b2 hb2
  go_wp2_with fail
  refine (hash_bytes _ _ 2 2 [1, 2] _ (by decide) (by omega) (by omega) (two_cells .u8 w2 _ 1 2) (by simp [byteI])).mono ?_
  rintro e w3 ⟨rfl, hb3⟩
  have b3 : Below w.heap.size w w3 := (B2.out.alloc B2.out.size _).trans (hb3.mono (by have := B2.out.size; simp; omega))
  have B3 := Lib.hid b3
  clear b3 hb3
  go_wp2_with fail
  refine (hash_sum _ _ 2 2 [513, 2] _ (by decide) (by omega) (two_cells .i64 w3 _ 513 2)).mono ?_
  rintro e w4 ⟨rfl, hb4⟩
  have b4 : Below w.heap.size w w4 := (B3.out.alloc B3.out.size _).trans (hb4.mono (by have := B3.out.size; simp; omega))
  have B4 := Lib.hid b4
  clear b4 hb4
  go_wp2_with fail
  refine (hash_pair 1 2 _).mono ?_
  rintro e w5 ⟨rfl, hb5⟩
  have b5 : Below w.heap.size w w5 := B4.out.trans (hb5.mono B4.out.size)
  have B5 := Lib.hid b5
  clear b5 hb5
  go_wp2_with fail
  refine (hash_pair 1 3 _).mono ?_
  rintro e w6 ⟨rfl, hb6⟩
  have b6 : Below w.heap.size w w6 := B5.out.trans (hb6.mono B5.out.size)
  have B6 := Lib.hid b6
  clear b6 hb6
  go_wp2
  go_ret
  exact ⟨rfl, B6.out⟩
end Go.Proofs.Ytahgcedhhepodaa
