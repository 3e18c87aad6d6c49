/- The contract of package wire's lives. -/
import Derived.Test.YtjnjglkmabnlfaaWireN
namespace Go.Proofs.Ytjnjglkmabnlfaa
open Go.RowKit
set_option linter.unusedVariables false

theorem sB_ab : sB ⟨#[97, 98]⟩ = [97, 98] := by decide +kernel
theorem enc300 : encU 300 = [172, 2] := by rw [encU_ge _ (by omega), encU_lt _ (by omega)]; rfl
theorem zigm1 : encU (zig (-1)) = [1] := by rw [show zig (-1) = 1 from rfl, encU_lt _ (by omega)]
theorem enc_ab : encR (sB ⟨#[97, 98]⟩) = [2, 97, 98] := by rw [encR, sB_ab, encU_lt _ (by decide)]; rfl
theorem lv_bytes : (([] ++ encU 300) ++ encU (zig (-1))) ++ encR (sB ⟨#[97, 98]⟩) = [172, 2, 1, 2, 97, 98] := by rw [enc300, zigm1, enc_ab]; rfl
theorem lv1 : rdU ⟨[172, 2, 1, 2, 97, 98], 0⟩ = (300, ⟨[1, 2, 97, 98], 0⟩) := by simp [rdU, decA, Dec.val, Dec.st]
theorem lv2 : rdI ⟨[1, 2, 97, 98], 0⟩ = (-1, ⟨[2, 97, 98], 0⟩) := by simp [rdI, rdU, decA, Dec.val, Dec.st, unzig]
theorem lv3 : rdL rdO ⟨[2, 97, 98], 0⟩ = ([97, 98], ⟨[], 0⟩) := by simp [rdL, rdU, decA, Dec.val, Dec.st, rdN, rdO]
theorem lv4 : rdI ⟨[128, 0], 0⟩ = (0, bad 2) := by simp [rdI, rdU, decA, Dec.val, Dec.st, unzig, bad]
theorem lv5 : strOf [97, 98] = ⟨#[97, 98]⟩ := by decide +kernel
theorem two_bytes (w : World) (t : TypeId) : Sl .u8 (w.alloc (.cells #[.int .u8 128, .int .u8 0] t)) (w.alloc (.cells #[.int .u8 128, .int .u8 0] t)).heap.size (some ⟨w.heap.size, 0, none⟩) 2 [128, 0] := two_cells .u8 w t 128 0
theorem six_bytes (w : World) (t : TypeId) : Sl .u8 (w.alloc (.cells #[.int .u8 172, .int .u8 2, .int .u8 1, .int .u8 2, .int .u8 97, .int .u8 98] t)) (w.alloc (.cells #[.int .u8 172, .int .u8 2, .int .u8 1, .int .u8 2, .int .u8 97, .int .u8 98] t)).heap.size (some ⟨w.heap.size, 0, none⟩) 6 [172, 2, 1, 2, 97, 98] := by
  refine ⟨rfl, .inr ⟨w.heap.size, 0, rfl, by simp, fun j hj => ?_⟩⟩
  have : j = 0 ∨ j = 1 ∨ j = 2 ∨ j = 3 ∨ j = 4 ∨ j = 5 := by omega
  rcases this with rfl | rfl | rfl | rfl | rfl | rfl <;> (rw [cell_of_row _ _ _ _ _ _ (heap_alloc_new w _)]; rfl)

set_option maxHeartbeats 2000000 in
theorem lives_any (w : World) :
    Calls Try.prog 18 #[] w fun e w' => e = .returned (.bool true) ∧ Below w.heap.size w w' := by
  go_enter Try.func18, Try.ntmps18
  go_wp2_with fail
  refine (w_uint w.heap.size [] 300 _ (Wr.new w) (by unfold u64; omega) (by simp)).mono ?_
  rintro e w1 ⟨rfl, h1, hb1⟩
  have B1 := Lib.hid (((Below.refl _ w).alloc (Nat.le_refl _) _).trans hb1)
  have H1 := Lib.hid h1
  clear h1 hb1
  go_wp2_with fail
  refine (w_int w.heap.size _ (-1) _ H1.out (by unfold i64; omega) (by rw [enc300]; simp)).mono ?_
  rintro e w2 ⟨rfl, h2, hb2⟩
  have B2 := Lib.hid (B1.out.trans hb2)
  have H2 := Lib.hid h2
  clear h2 hb2
  go_wp2_with fail
  refine (w_text w.heap.size _ _ _ H2.out (by rw [enc300, zigm1]; decide)).mono ?_
  rintro e w3 ⟨rfl, h3, hb3⟩
  rw [lv_bytes] at h3
  have B3 := Lib.hid (B2.out.trans hb3)
  have H3 := Lib.hid h3
  clear h3 hb3
  go_wp2_with fail
  refine (w_done w.heap.size _ _ H3.out (by simp)).mono ?_
  rintro e w4 ⟨v, rfl, hown4, hb4⟩
  obtain ⟨A4, c4, rfl, _, _, hA4, hs4⟩ := own_sl (k := .u8) hown4
  have B4 := Lib.hid (B3.out.trans (hb4.mono B3.out.size))
  have S4 := Lib.hid hs4
  have HA4 := Lib.hid hA4
  clear hown4 hb4 hs4 hA4
  simp only [List.length_cons, List.length_nil, Nat.reduceAdd] at *
  go_wp2_with fail
  refine (r_read A4 6 c4 _ _ S4.out HA4.out (by omega) (by simp [byteI])).mono ?_
  rintro e w5 ⟨p, rfl, hp, h5, hb5⟩
  have S5 := Lib.hid ((S4.out.below hb5).more hb5.size)
  have B5 := Lib.hid (B4.out.trans (hb5.mono B4.out.size))
  have H5 := Lib.hid h5
  have hps := h5.lt
  clear h5 hb5
  go_wp2_with fail
  refine (r_read (some ⟨w5.heap.size, 0, none⟩) 2 2 [128, 0] _ (two_bytes w5 _) (by simp) (by omega) (by simp [byteI])).mono ?_
  rintro e w6 ⟨q, rfl, hq, h6, hb6⟩
  simp only [World.size_alloc] at hq
  have hbb : Below w5.heap.size w5 w6 := ((Below.refl _ w5).alloc (Nat.le_refl _) _).trans (hb6.mono (by simp))
  have S6 := Lib.hid ((S5.out.below hbb).more hbb.size)
  have B6 := Lib.hid (B5.out.trans (hbb.mono B5.out.size))
  have H6 := Lib.hid (Rd.below H5.out hbb)
  have K6 := Lib.hid h6
  have hne : p ≠ q := by omega
  clear h6 hb6 hbb
  go_wp2_with fail
  refine (r_uint p _ _ _ H6.out).mono ?_
  rw [lv1]
  rintro e w7 ⟨rfl, h7, hg7⟩
  have hwp : w.heap.size ≤ p := by have := B4.out.size; omega
  have hwq : w.heap.size ≤ q := by have := B5.out.size; omega
  have S7 := Lib.hid ((Rd.sl H6.out S6.out (Nat.le_refl _) hg7).more hg7.size)
  have B7 := Lib.hid (below_grown1 B6.out hg7 B6.out.size hwp)
  have K7 := Lib.hid (Rd.other K6.out H6.out hne.symm hg7)
  have H7 := Lib.hid h7
  clear h7 hg7
  go_wp2_with fail
  refine (r_int p _ _ _ H7.out).mono ?_
  rw [lv2]
  rintro e w8 ⟨rfl, h8, hg8⟩
  have S8 := Lib.hid ((Rd.sl H7.out S7.out (Nat.le_refl _) hg8).more hg8.size)
  have B8 := Lib.hid (below_grown1 B7.out hg8 B7.out.size hwp)
  have K8 := Lib.hid (Rd.other K7.out H7.out hne.symm hg8)
  have H8 := Lib.hid h8
  clear h8 hg8
  go_wp2_with fail
  refine (r_text p _ _ _ H8.out (by simp)).mono ?_
  rw [lv3]
  rintro e w9 ⟨rfl, h9, hg9⟩
  rw [lv5]
  have S9 := Lib.hid ((Rd.sl H8.out S8.out (Nat.le_refl _) hg9).more hg9.size)
  have B9 := Lib.hid (below_grown1 B8.out hg9 B8.out.size hwp)
  have K9 := Lib.hid (Rd.other K8.out H8.out hne.symm hg9)
  have H9 := Lib.hid h9
  clear h9 hg9
  go_wp2_with fail
  refine (r_int q _ _ _ K9.out).mono ?_
  rw [lv4]
  rintro e w10 ⟨rfl, k10, hg10⟩
  have S10 := Lib.hid ((Rd.sl K9.out S9.out (Nat.le_refl _) hg10).more hg10.size)
  have B10 := Lib.hid (below_grown1 B9.out hg10 B9.out.size hwq)
  have H10 := Lib.hid (Rd.other H9.out K9.out hne hg10)
  have K10 := Lib.hid k10
  clear k10 hg10
  go_wp2_with fail
  have hb11 : Below w10.heap.size w10 (w10.alloc (.cells #[.int .u8 172, .int .u8 2, .int .u8 1, .int .u8 2, .int .u8 97, .int .u8 98] 5)) := (Below.refl _ _).alloc (Nat.le_refl _) _
  refine (sameBytes A4 (some ⟨w10.heap.size, 0, none⟩) 6 c4 6 _ _ _ (by unfold maxLen; omega) ((S10.out.below hb11).more hb11.size) (six_bytes w10 _)).mono ?_
  rintro e w11 ⟨rfl, qd, rfl⟩
  have H11 := Lib.hid (Rd.drewN (Rd.below H10.out hb11) qd)
  have K11 := Lib.hid (Rd.drewN (Rd.below K10.out hb11) qd)
  have B11 := Lib.hid (below_drewN (B10.out.trans (hb11.mono B10.out.size)) qd)
  have d : decide (([172, 2, 1, 2, 97, 98] : List Int) = [172, 2, 1, 2, 97, 98]) = true := by decide
  rw [d]
  clear d hb11
  go_wp2_with fail
  refine (r_end p _ _ _ H11.out (by simp)).mono ?_
  rintro e w12 ⟨rfl, rfl⟩
  go_wp2_with fail
  refine (r_end q _ _ _ K11.out (by simp [bad])).mono ?_
  rintro e w12 ⟨rfl, rfl⟩
  go_wp2_with fail
  go_ret
  exact ⟨rfl, B11.out⟩
end Go.Proofs.Ytjnjglkmabnlfaa
