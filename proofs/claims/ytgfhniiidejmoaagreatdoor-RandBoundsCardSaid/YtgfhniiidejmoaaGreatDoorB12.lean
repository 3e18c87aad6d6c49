/- Small lemmas on what lies below; three cells; exclusive or of ints. · Orders: mask. · Orders: forward. · Orders: backward. -/
import Derived.Test.YtgfhniiidejmoaaGreatDoorB11
import Derived.Deep.RegionHeld3
import Derived.Test.YtgfhniiidejmoaaGreatDoorB10
import Derived.Deep.RegionWith
import Derived.Laws.Rows
namespace Go.Proofs.YtgfhniiidejmoaaGreatDoor
open Go.RowKit
set_option linter.unusedVariables false

theorem rb_dr {B : Nat} {w W : World} (h : Below B w W) : Below B w W.drew := ⟨h.os, h.tape, h.output, h.size, h.block⟩
theorem rb_sz (w : World) (p : Addr) (v : Value) : (w.setCell p v).heap.size = w.heap.size := by simp [World.setCell]
theorem rb_un {w w' : World} (h : Below w.drew.heap.size w.drew w') : Below w.heap.size w w' := ⟨h.os, h.tape, h.output, h.size, h.block⟩
theorem rb_st {w w1 w2 : World} (h : Below w.heap.size w w1) (b : Below w1.heap.size w1 w2) : Below w.heap.size w w2 := h.trans (b.mono h.size)
theorem cell_lt' {w : World} {b o : Nat} {v : Value} (h : w.cell? ⟨b, o, none⟩ = some v) : b < w.heap.size := by
  unfold World.cell? at h
  cases ho : w.heap[b]? with
  | none => simp [ho] at h
  | some x => exact (Array.getElem?_eq_some_iff.1 ho).1
theorem rb_cell {w w' : World} {b o : Nat} {v : Value} (h : w.cell? ⟨b, o, none⟩ = some v) (hb : Below w.heap.size w w') : w'.cell? ⟨b, o, none⟩ = some v := (hb.cell (p := ⟨b, o, none⟩) (cell_lt' h)).trans h
theorem two_new (w : World) (t : TypeId) (a b : Value) : (w.alloc (.cells #[a, b] t)).cell? ⟨w.heap.size, 0, none⟩ = some a ∧ (w.alloc (.cells #[a, b] t)).cell? ⟨w.heap.size, 1, none⟩ = some b := by
  have h := World.alloc_heap_new w (.cells #[a, b] t)
  unfold World.cell?
  simp only [h]
  exact ⟨rfl, rfl⟩
theorem three_cells (k : IntKind) (w : World) (t : TypeId) (a b c : Int) : Sl k (w.alloc (.cells #[.int k a, .int k b, .int k c] t)) (w.alloc (.cells #[.int k a, .int k b, .int k c] t)).heap.size (some ⟨w.heap.size, 0, none⟩) 3 [a, b, c] := by
  refine ⟨rfl, .inr ⟨w.heap.size, 0, rfl, by simp, fun j hj => ?_⟩⟩
  have h := World.alloc_heap_new w (.cells #[.int k a, .int k b, .int k c] t)
  unfold World.cell?
  simp only [h]
  match j, hj with
  | 0, _ => rfl
  | 1, _ => rfl
  | 2, _ => rfl
theorem three_drew (k : IntKind) (w : World) (t : TypeId) (a b c : Int) : Sl k (w.alloc (.cells #[.int k a, .int k b, .int k c] t)).drew (w.alloc (.cells #[.int k a, .int k b, .int k c] t)).drew.heap.size (some ⟨w.heap.size, 0, none⟩) 3 [a, b, c] := three_cells k w t a b c
/-- "order" -/
def orderB : ByteArray := ⟨#[111, 114, 100, 101, 114]⟩
/-- what a round changes one half by -/
def maskI (seed size r half : Int) : Int := sumI (sB orderB) [wrap64 seed, r, half] % size
theorem maskI_bd (seed size r half : Int) (h : 1 ≤ size) : 0 ≤ maskI seed size r half ∧ maskI seed size r half < size := ⟨Int.emod_nonneg _ (by omega), Int.emod_lt_of_pos _ (by omega)⟩

theorem bits_xor_nat (a b : Nat) (ha : a < 4611686018427387904) (hb : b < 4611686018427387904) : bits BinOp.xor IntKind.i64 (a : Int) (b : Int) = ((a ^^^ b : Nat) : Int) := by
  have hx : a ^^^ b < 2 ^ 62 := Nat.xor_lt_two_pow (by omega) (by omega)
  show IntKind.i64.wrap ((BitVec.ofInt 64 (a : Int) ^^^ BitVec.ofInt 64 (b : Int)).toNat : Int) = _
  rw [BitVec.toNat_xor, BitVec.ofInt_natCast, BitVec.ofInt_natCast, BitVec.toNat_ofNat, BitVec.toNat_ofNat, Nat.mod_eq_of_lt (by omega), Nat.mod_eq_of_lt (by omega)]
  exact IntWalk.i64_in _ (by omega)
end Go.Proofs.YtgfhniiidejmoaaGreatDoor
namespace Go.Proofs.YtgfhniiidejmoaaGreatDoor
open Go.RowKit Go.Shelf
set_option linter.unusedVariables false

set_option maxRecDepth 100000 in
set_option maxHeartbeats 2000000 in
theorem mask_any (seed size r half : Int) (w : World) (h1 : 2 ≤ size) (h2 : size ≤ 1073741824) :
    Calls Tryz.prog 108 #[.agg #[.int .u64 seed, .int .i64 size], .int .i64 r, .int .i64 half] w fun e w' => e = .returned (.int .i64 (maskI seed size r half)) ∧ Below w.heap.size w w' := by
  have hM := maskI_bd seed size r half (by omega)
  have hS : 0 ≤ sumI (sB orderB) [wrap64 seed, r, half] ∧ sumI (sB orderB) [wrap64 seed, r, half] ≤ 18446744073709551615 := sumI_u64 _ _
  have hmm : sumI (sB orderB) [wrap64 seed, r, half] % size = maskI seed size r half := rfl
  have hem : (sumI (sB orderB) [wrap64 seed, r, half]).tmod size = maskI seed size r half := Int.tmod_eq_emod_of_nonneg hS.1
  obtain ⟨M, hMM⟩ : ∃ M, M = maskI seed size r half := ⟨_, rfl⟩
  rw [← hMM] at hM hmm hem ⊢
  clear hMM
  obtain ⟨S, hSS⟩ : ∃ S, S = sumI (sB orderB) [wrap64 seed, r, half] := ⟨_, rfl⟩
  rw [← hSS] at hS hmm hem
  rw [← IntWalk.i64_left seed] at hSS
  have HSS := Lib.hid hSS
  clear hSS
  have hne : ¬ size = 0 := by omega
  go_enter Tryz.func108, Tryz.ntmps108
  go_wp2_with fail
  have ht := two_new w 138 (.int .u64 seed) (.int .i64 size)
  obtain ⟨W, hW⟩ : ∃ W, W = w.alloc (.cells #[.int .u64 seed, .int .i64 size] 138) := ⟨_, rfl⟩
  have hBW : Below w.heap.size w W := by rw [hW]; exact (Below.refl _ w).alloc (Nat.le_refl _) _
  rw [← hW] at ht ⊢
  clear hW
  obtain ⟨q0, q1⟩ := ht
  have ba := (Below.refl _ W).alloc (Nat.le_refl _) (.cells #[.int .i64 (IntKind.i64.wrap seed), .int .i64 r, .int .i64 half] 3)
  have qa0 := rb_cell q0 ba
  have qa1 := rb_cell q1 ba
  have HBW := Lib.hid hBW
  have HBA := Lib.hid (hBW.trans (ba.mono hBW.size))
  clear hBW ba
  have hsw : IntKind.u64.wrap size = size := by rw [IntKind.wrap_u64]; omega
  have hmw : IntKind.i64.wrap M = M := IntWalk.i64_in _ (by omega)
  go_region_with
    (first
      | (go_at_call 104
         refine (hash_sum orderB _ 3 3 [IntKind.i64.wrap seed, r, half] _ (by decide) (by omega) (three_drew .i64 _ _ _ _ _)).mono ?_
         rintro e wn ⟨rfl, hbn0⟩
         have hbn := rb_un hbn0
         clear hbn0
         have rn1 := rb_cell qa1 hbn
         have HBN := Lib.hid (HBA.out.trans (hbn.mono HBA.out.size))
         clear hbn
         rw [← HSS.out]))
  all_goals
    go_wp2_with fail
    go_ret
    exact ⟨rfl, HBN.out⟩
end Go.Proofs.YtgfhniiidejmoaaGreatDoor
namespace Go.Proofs.YtgfhniiidejmoaaGreatDoor
open Go.RowKit Go.Shelf
set_option linter.unusedVariables false

/-- the variable 'rounds' holds the numbers of the rounds -/
def RoundsAt (w : World) : Prop := ∃ (t : TypeId) (fr : Nat × Nat), w.heap[0]? = some (.cells #[.int .i64 0, .int .i64 1, .int .i64 2, .int .i64 3] t fr)
theorem RoundsAt.lt {w : World} (h : RoundsAt w) : 0 < w.heap.size := by obtain ⟨t, fr, h⟩ := h; exact (Array.getElem?_eq_some_iff.1 h).1
theorem RoundsAt.below {w w' : World} (h : RoundsAt w) (hb : Below w.heap.size w w') : RoundsAt w' := by
  have hl := h.lt
  obtain ⟨t, fr, h⟩ := h
  exact ⟨t, fr, (hb.block 0 hl).trans h⟩
/-- what a round changes one half by, as a natural number -/
def maskN (seed : Int) (s : Nat) (r x : Nat) : Nat := (maskI seed s r x).toNat
theorem maskN_eq (seed : Int) (s r x : Nat) (hs : 1 ≤ s) : maskI seed s r x = (maskN seed s r x : Int) := (Int.toNat_of_nonneg (maskI_bd seed s r x (by omega)).1).symm
theorem maskN_lt (seed : Int) (s r x : Nat) (hs : 1 ≤ s) : maskN seed s r x < s := by
  have := maskI_bd seed s r x (by omega)
  unfold maskN; omega

end Go.Proofs.YtgfhniiidejmoaaGreatDoor
namespace Go.Proofs.YtgfhniiidejmoaaGreatDoor
open Go.RowKit Go.Shelf
set_option linter.unusedVariables false

set_option maxRecDepth 100000 in
set_option maxHeartbeats 4000000 in
theorem backward_any (seed : Int) (h x : Nat) (w : World) (hh : 1 ≤ h) (hh2 : h ≤ 30) (hx : x < 2 ^ h * 2 ^ h) (hR : RoundsAt w) :
    Calls Tryz.prog 94 #[.agg #[.int .u64 seed, .int .i64 (2 ^ h : Nat)], .int .i64 x] w fun e w' => e = .returned (.int .i64 (turnB (maskN seed (2 ^ h)) (2 ^ h) x : Nat)) ∧ Below w.heap.size w w' := by
  have hF : ∀ r y, maskN seed (2 ^ h) r y < 2 ^ h := fun r y => maskN_lt seed _ r y Nat.one_le_two_pow
  have hin := split_in (Nat.two_pow_pos h) hx
  have hlt := (turn_perm (F := maskN seed (2 ^ h)) hF).g_lt x hx
  have hs2 : 2 ≤ 2 ^ h := by have := Nat.pow_le_pow_right (n := 2) (by omega) hh; simpa using this
  have hs3 : 2 ^ h ≤ 1073741824 := by have := Nat.pow_le_pow_right (n := 2) (by omega) hh2; simpa using this
  unfold turnB at hlt ⊢
  have HE := Lib.hid (fun r y => maskN_eq seed (2 ^ h) r y (by omega))
  have HFl := Lib.hid hF
  obtain ⟨F, hFF⟩ : ∃ F, F = maskN seed (2 ^ h) := ⟨_, rfl⟩
  rw [← hFF] at hlt HE HFl ⊢
  clear hF
  obtain ⟨s, hs⟩ : ∃ s, s = 2 ^ h := ⟨_, rfl⟩
  rw [← hs] at hin hlt hs2 hs3 HE HFl hx ⊢
  have hss : s * s ≤ 1073741824 * 1073741824 := Nat.mul_le_mul hs3 hs3
  have hd1 : x / s < s := hin.1
  have hd2 : x % s < s := Nat.mod_lt _ (by omega)
  have HSS := Lib.hid hs
  have hbi : ∀ (r : Nat) (p : Nat × Nat), InS s p → InS s (oneB F r p) := fun r p hp => by
    rw [hs] at hp ⊢
    exact oneB_in (h := h) (by rw [← hs]; exact HFl.out) r p hp
  have HBI := Lib.hid hbi
  clear hbi
  have HLT := Lib.hid hlt
  clear hs hFF hlt
  have hne : ¬ (s : Int) = 0 := by omega
  have hx62 : (x : Int) ≤ 4611686018427387904 := by omega
  go_enter Tryz.func94, Tryz.ntmps94
  go_wp2_with fail
  have ht := two_new w 138 (.int .u64 seed) (.int .i64 s)
  obtain ⟨W, hW⟩ : ∃ W, W = w.alloc (.cells #[.int .u64 seed, .int .i64 s] 138) := ⟨_, rfl⟩
  have hBW : Below w.heap.size w W := by rw [hW]; exact (Below.refl _ w).alloc (Nat.le_refl _) _
  rw [← hW] at ht ⊢
  clear hW
  obtain ⟨q0, q1⟩ := ht
  have hw1 : wrap64 ((x : Int) / (s : Int)) = ((x / s : Nat) : Int) := by
    rw [← IntWalk.i64_left, show (x : Int) / (s : Int) = ((x / s : Nat) : Int) from rfl]
    exact (show ∀ d : Nat, d < s → IntKind.i64.wrap (d : Int) = d from fun d hd => IntWalk.i64_in _ (by omega)) _ hd1
  have hw2 : (x : Int) % (s : Int) = ((x % s : Nat) : Int) := rfl
  have HW1 := Lib.hid hw1
  have HW2 := Lib.hid hw2
  clear hw1 hw2
  go_quiet (fail)
  rw [HW1.out, HW2.out]
  obtain ⟨V, hV⟩ : ∃ V, V = W.drewN nq := ⟨_, rfl⟩
  have hBV : Below w.heap.size w V := by rw [hV]; exact below_drewN hBW nq
  have q2 : V.cell? ⟨w.heap.size, 0, none⟩ = some (.int .u64 seed) := by rw [hV]; exact q0
  have q3 : V.cell? ⟨w.heap.size, 1, none⟩ = some (.int .i64 s) := by rw [hV]; exact q1
  have hRV : RoundsAt V := hR.below hBV
  rw [← hV]
  clear q0 q1 hBW hV hR
  obtain ⟨tt, fr, hg1⟩ := hRV
  have HG := Lib.hid hg1
  have hlen : w.heap.size < V.heap.size := cell_lt' q2
  have HBV := Lib.hid hBV
  have HIN := Lib.hid hin
  clear hBV hg1 hin
  have KP := Lib.hid (show ∀ (k : Nat) (hk : k < 4) X, Below V.heap.size V X → X.cell? ⟨w.heap.size, 0, none⟩ = some (.int .u64 seed) ∧ X.cell? ⟨w.heap.size, 1, none⟩ = some (.int .i64 s) ∧ X.cell? ⟨0, k, none⟩ = some (.int .i64 k) ∧ Below V.heap.size V X from fun k hk X hb => ⟨rb_cell q2 hb, rb_cell q3 hb, rb_cell (by
    have := HG.out
    unfold World.cell?
    simp only [this]
    match k, hk with
    | 0, _ => rfl
    | 1, _ => rfl
    | 2, _ => rfl
    | 3, _ => rfl) hb, hb⟩)
  go_wp2_with fail
  go_loopw [7, 5, 6] (fun i l r wr => ∃ (j : Nat) (p : Nat × Nat), j ≤ 4 ∧ i = .int .i64 ((j : Int) - 1) ∧ l = .int .i64 p.1 ∧ r = .int .i64 p.2 ∧ InS s p ∧ runB F p j = runB F (x / s, x % s) 4 ∧ Below V.heap.size V wr) (fun i _ _ _ => (intOf i + 1).toNat)
  case atStart => exact ⟨4, (x / s, x % s), by omega, rfl, rfl, rfl, HIN.out, rfl, Below.refl _ _⟩
  case round =>
    obtain ⟨j, ⟨L, R⟩, hj, rfl, rfl, rfl, hp, hrun, hB⟩ := hrel
    have hp1 : L < s := hp.1
    have hp2 : R < s := hp.2
    have HP := Lib.hid hp
    have HRUN := Lib.hid hrun
    clear hp hrun q2 q3
    by_cases hlt : 0 < j
    · obtain ⟨k, rfl⟩ : ∃ k, j = k + 1 := ⟨j - 1, by omega⟩
      have hk4 : k < 4 := by omega
      have hki : (k : Int) < 4 := by omega
      have hk0 : (0 : Int) ≤ (k : Int) := by omega
      have hki2 : ((k + 1 : Nat) : Int) - 1 = (k : Int) := by omega
      rw [hki2]
      clear hki2
      have KQ := Lib.hid (KP.out k hk4)
      have hm := fun X => mask_any seed s k L X (by omega) (by omega)
      rw [HE.out k L] at hm
      have HM := Lib.hid hm
      have hfl := HFl.out k L
      have hxr := bits_xor_nat R (F k L) (by omega) (by omega)
      have HX := Lib.hid hxr
      clear hm hxr
      have HB0 := Lib.hid hB
      clear hB
      go_wp2_with fail
      go_region_held3 (fun X => X.cell? ⟨w.heap.size, 0, none⟩ = some (.int .u64 seed) ∧ X.cell? ⟨w.heap.size, 1, none⟩ = some (.int .i64 s) ∧ X.cell? ⟨0, k, none⟩ = some (.int .i64 k) ∧ Below V.heap.size V X)
        (first | with_reducible exact KQ.out _ HB0.out | with_reducible exact KQ.out _ (rb_dr HB0.out) | with_reducible exact KQ.out _ (by first | assumption | exact And.right (And.right (And.right (by assumption)))) | with_reducible exact KQ.out _ (rb_dr (by first | assumption | exact And.right (And.right (And.right (by assumption))))))
        (first
          | (go_at_call 108
             refine (HM.out _).mono ?_
             rintro e wn ⟨rfl, hbn⟩
             have hXn : Below V.heap.size V wn := rb_st (by first | assumption | exact And.right (And.right (And.right (by assumption)))) hbn))
      rw [HX.out]
      have HXN := Lib.hid hXn
      clear hbn hXn
      go_wp2_with fail
      go_roundw
      case rel =>
        (repeat apply Exists.intro)
        exact ⟨⟨k, oneB F k (L, R), by omega, rfl, rfl, rfl, HBI.out k _ HP.out, HRUN.out, HXN.out⟩, rfl⟩
      case measure => simp [intOf]
    · obtain rfl : j = 0 := by omega
      have hj := HLT.out
      have hrun := HRUN.out
      rw [show runB F (L, R) 0 = (L, R) from rfl] at hrun
      rw [← hrun] at hj
      simp only at hj
      have hmul : L * s ≤ s * s := Nat.mul_le_mul_right s (by omega)
      obtain ⟨M, hM⟩ : ∃ M, L * s = M := ⟨_, rfl⟩
      rw [hM] at hj hmul
      have hMi : (L : Int) * (s : Int) = (M : Int) := by rw [← hM]; exact (Int.natCast_mul _ _).symm
      have hM0 : (0 : Int) ≤ (L : Int) * (s : Int) := by rw [hMi]; omega
      have hM1 : (L : Int) * (s : Int) ≤ 1152921504606846976 := by rw [hMi]; omega
      have HF := Lib.hid (show Ending.returned (.int .i64 ((L : Int) * (s : Int) + R)) = .returned (.int .i64 ((runB F (x / s, x % s) 4).1 * s + (runB F (x / s, x % s) 4).2 : Nat)) from ret_int (by rw [hMi, ← hrun]; simp only; rw [hM]; omega))
      have HB := Lib.hid (HBV.out.trans (hB.mono (by omega)))
      have r3 := ((KP.out 0 (by omega) wr hB).2).1
      clear hM hMi hj hB hrun
      go_wp2_with fail
      go_ret
      exact ⟨HF.out, HB.out⟩
end Go.Proofs.YtgfhniiidejmoaaGreatDoor
