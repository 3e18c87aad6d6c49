/- The reference of rand: turned, Order. -/
import Derived.Test.YtgfhniiidejmoaaDoorA13
import Derived.Test.YtgfhniiidejmoaaDoorA38
namespace Go.Proofs.YtgfhniiidejmoaaDoor
open Go.RowKit Go.Shelf
set_option linter.unusedVariables false

theorem three_at' (k : IntKind) (w : World) (t : TypeId) (a b c : Int) (g : Nat) (hg : w.heap.size = g) : Sl k (w.alloc (.cells #[.int k a, .int k b, .int k c] t)) (w.alloc (.cells #[.int k a, .int k b, .int k c] t)).heap.size (some ⟨g, 0, none⟩) 3 [a, b, c] := by
  subst hg; exact three_cells k w t a b c
/-- what a round's sum is -/
def roundS (seed r x : Int) : Int := sumI (sB orderB) [wrap64 seed, r, x]
theorem rsum_any (seed r x : Int) (w : World) (t : TypeId) : Calls Tryd.prog 31 #[.string ⟨#[111, 114, 100, 101, 114]⟩, .slice (some ⟨w.heap.size, 0, none⟩) 3 3] (w.alloc (.cells #[.int .i64 (wrap64 seed), .int .i64 r, .int .i64 x] t)) fun e w' => e = .returned (.int .u64 (roundS seed r x)) ∧ Below w.heap.size w w' := by
  refine (ref_sum orderB (some ⟨w.heap.size, 0, none⟩) 3 3 [wrap64 seed, r, x] _ (by decide) (by omega) (three_at' .i64 w t _ _ _ _ rfl)).mono ?_
  rintro e w' ⟨rfl, b⟩
  exact ⟨rfl, bstep (al_below w _) b⟩

set_option maxRecDepth 100000 in
set_option maxHeartbeats 4000000 in
theorem turned_any (seed : Int) (h x : Nat) (w : World) (hh : 1 ≤ h) (hh2 : h ≤ 30) (hx : x < 2 ^ h * 2 ^ h) :
    Calls Tryd.prog 47 #[.int .u64 seed, .int .i64 x, .int .i64 (2 ^ h : Nat)] w fun e w' => e = .returned (.int .i64 (turnF (maskN seed (2 ^ h)) (2 ^ h) x : Nat)) ∧ Below w.heap.size w w' := by
  have hF : ∀ r y, maskN seed (2 ^ h) r y < 2 ^ h := fun r y => maskN_lt seed _ r y Nat.one_le_two_pow
  have hin := runF_in hF _ (split_in (Nat.two_pow_pos h) hx)
  have hlt := (turn_perm (F := maskN seed (2 ^ h)) hF).f_lt x hx
  have hs2 : 2 ≤ 2 ^ h := by have := Nat.pow_le_pow_right (n := 2) (by omega) hh; simpa using this
  have hs3 : 2 ^ h ≤ 1073741824 := by have := Nat.pow_le_pow_right (n := 2) (by omega) hh2; simpa using this
  unfold turnF at hlt ⊢
  have HE := Lib.hid (show ∀ r y : Nat, (roundS seed r y) % ((2 ^ h : Nat) : Int) = (maskN seed (2 ^ h) r y : Int) from fun r y => maskN_eq seed (2 ^ h) r y (by omega))
  have HFl := Lib.hid hF
  obtain ⟨F, hFF⟩ : ∃ F, F = maskN seed (2 ^ h) := ⟨_, rfl⟩
  rw [← hFF] at hin hlt HE HFl ⊢
  obtain ⟨s, hs⟩ : ∃ s, s = 2 ^ h := ⟨_, rfl⟩
  rw [← hs] at hin hlt hs2 hs3 HE HFl hx ⊢
  have hss : s * s ≤ 1073741824 * 1073741824 := Nat.mul_le_mul hs3 hs3
  have hd1 : x / s < s := by have := (hin 0).1; exact this
  have hd2 : x % s < s := Nat.mod_lt _ (by omega)
  have HI := Lib.hid hin
  have HSS := Lib.hid hs
  have HLT := Lib.hid hlt
  clear hin hs hFF hlt hF
  have hne : ¬ (s : Int) = 0 := by omega
  have hx62 : (x : Int) ≤ 4611686018427387904 := by omega
  have hx0 : (0 : Int) ≤ (x : Int) := by omega
  obtain ⟨xs, hxs⟩ : ∃ xs, xs = x / s := ⟨_, rfl⟩
  obtain ⟨xr, hxr⟩ : ∃ xr, xr = x % s := ⟨_, rfl⟩
  have hw1 : (x : Int).tdiv (s : Int) = (xs : Int) := by rw [hxs]; exact Int.tdiv_eq_ediv_of_nonneg hx0
  have hw2 : (x : Int).tmod (s : Int) = (xr : Int) := by rw [hxr]; exact Int.tmod_eq_emod_of_nonneg hx0
  have hw3 : (x : Int) / (s : Int) = (xs : Int) := by rw [hxs]; rfl
  have hw4 : (x : Int) % (s : Int) = (xr : Int) := by rw [hxr]; rfl
  rw [← hxs] at hd1
  rw [← hxr] at hd2
  have hv1 : wrap64 ((x : Int) / (s : Int)) = ((x / s : Nat) : Int) := by
    rw [← IntWalk.i64_left, hw3, ← hxs]
    exact IntWalk.i64_in _ (by omega)
  have HV1 := Lib.hid hv1
  have HV2 := Lib.hid (show (x : Int) % (s : Int) = ((x % s : Nat) : Int) from rfl)
  clear hv1
  have HXS := Lib.hid hxs
  have HXR := Lib.hid hxr
  have HW1 := Lib.hid hw1
  have HW2 := Lib.hid hw2
  have HW3 := Lib.hid hw3
  have HW4 := Lib.hid hw4
  clear hxs hxr hw1 hw2 hw3 hw4
  go_enter Tryd.func47, Tryd.ntmps47
  go_wp2_with fail
  obtain ⟨P, hP⟩ : ∃ P, P = runF F (x / s, x % s) := ⟨_, rfl⟩
  have hP0 : P 0 = (x / s, x % s) := by rw [hP]; rfl
  have hPs : ∀ k, P (k + 1) = oneF F k (P k) := fun k => by rw [hP]; rfl
  rw [← hP] at HI HLT
  have HPP := Lib.hid hP
  have HP0 := Lib.hid hP0
  have HPS := Lib.hid hPs
  clear hP hP0 hPs
  go_loopw [9, 7, 8] (fun i l r wr => ∃ k : Nat, k ≤ 4 ∧ i = .int .i64 k ∧ l = .int .i64 (P k).1 ∧ r = .int .i64 (P k).2 ∧ Below w.heap.size w wr) (fun i _ _ _ => 4 - (intOf i).toNat)
  case atStart => exact ⟨0, by omega, rfl, by rw [HP0.out, HV1.out], by rw [HP0.out, HV2.out], Below.refl _ _⟩
  case round =>
    obtain ⟨k, hk, rfl, rfl, rfl, hB⟩ := hrel
    have hI1 := (HI.out k).1
    have hI2 := (HI.out k).2
    have hn1 : (s : Int) ≤ 1073741824 := by omega
    by_cases hlt : k < 4
    · have hki : (k : Int) < 4 := by omega
      have he := HE.out k (P k).2
      have hfl := HFl.out k (P k).2
      have HX := Lib.hid (bits_xor_nat (P k).1 (F k (P k).2) (by omega) (by omega))
      have HN := Lib.hid (HPS.out k)
      have HRS := Lib.hid (fun w t => rsum_any seed k (P k).2 w t)
      have hsb : 0 ≤ roundS seed k (P k).2 ∧ roundS seed k (P k).2 ≤ 18446744073709551615 := sumI_u64 _ _
      obtain ⟨Z, hZ⟩ : ∃ Z, Z = roundS seed k (P k).2 := ⟨_, rfl⟩
      rw [← hZ] at he HRS hsb
      have hsw : IntKind.u64.wrap (s : Int) = s := by rw [IntKind.wrap_u64]; omega
      have hem : Z.tmod (s : Int) = (F k (P k).2 : Int) := by rw [Int.tmod_eq_emod_of_nonneg hsb.1, he]
      have hmw : IntKind.i64.wrap (F k (P k).2 : Int) = (F k (P k).2 : Int) := IntWalk.i64_in _ (by omega)
      have HBH := Lib.hid hB
      clear hZ hB
      go_wp2_with fail
      refine (HRS.out _ _).mono ?_
      rintro e wn ⟨rfl, hbn⟩
      have HBN := Lib.hid (bstep HBH.out hbn)
      clear hbn HRS
      go_wp2_with fail
      go_roundw
      case rel => exact ⟨k + 1, by omega, by go_num, by rw [HN.out]; rfl, by rw [HX.out, HN.out]; rfl, HBN.out⟩
      case measure => simp [intOf]; omega
    · obtain rfl : k = 4 := by omega
      have hj := HLT.out
      have hmul : (P 4).1 * s ≤ s * s := Nat.mul_le_mul_right s (by omega)
      obtain ⟨L, hL⟩ : ∃ L, (P 4).1 = L := ⟨_, rfl⟩
      obtain ⟨T, hT⟩ : ∃ T, (P 4).2 = T := ⟨_, rfl⟩
      rw [hL] at hmul hI1 hj ⊢
      rw [hT] at hI2 hj ⊢
      obtain ⟨M, hM⟩ : ∃ M, L * s = M := ⟨_, rfl⟩
      rw [hM] at hj hmul
      have hMi : (L : Int) * (s : Int) = (M : Int) := by rw [← hM]; exact (Int.natCast_mul _ _).symm
      have hM0 : (0 : Int) ≤ (L : Int) * (s : Int) := by rw [hMi]; omega
      have hM1 : (L : Int) * (s : Int) ≤ 1152921504606846976 := by rw [hMi]; omega
      have HF := Lib.hid (show Ending.returned (.int .i64 ((L : Int) * (s : Int) + T)) = .returned (.int .i64 ((runF F (x / s, x % s) 4).1 * s + (runF F (x / s, x % s) 4).2 : Nat)) from ret_int (by rw [hMi, ← HPP.out, hL, hT, hM]; omega))
      have HB := Lib.hid hB
      clear hL hT hM hMi hj hB
      go_wp2_with fail
      go_ret
      exact ⟨HF.out, HB.out⟩

theorem turned_sz (seed : Int) (n x : Nat) (w : World) (hn : n ≤ 1099511627776) (hx : x < sizeH n * sizeH n) :
    Calls Tryd.prog 47 #[.int .u64 seed, .int .i64 x, .int .i64 (sizeH n)] w fun e w' => e = .returned (.int .i64 (ordF seed n x : Nat)) ∧ Below w.heap.size w w' :=
  turned_any seed (roomH n) x w (roomH_room n hn).2.1 (by have := (roomH_room n hn).2.2; omega) hx

set_option maxHeartbeats 1000000 in
theorem rorder_bad (seed n k : Int) (w : World) (he : placeE n k ≠ 0) :
    Calls Tryd.prog 25 #[.int .u64 seed, .int .i64 n, .int .i64 k] w fun e w' => e = .returned (.tuple #[.int .i64 0, .int .i64 (placeE n k)]) ∧ w = w' := by
  by_cases h1 : n < 1
  · have HE := Lib.hid (show placeE n k = 1 by unfold placeE; rw [if_pos (.inl h1)])
    go_enter Tryd.func25, Tryd.ntmps25
    go_wp2
    go_ret2
    exact ⟨by rw [HE.out]; rfl, rfl⟩
  by_cases h2 : 1099511627776 < n
  · have HE := Lib.hid (show placeE n k = 1 by unfold placeE; rw [if_pos (.inr h2)])
    go_enter Tryd.func25, Tryd.ntmps25
    go_wp2
    go_ret2
    exact ⟨by rw [HE.out]; rfl, rfl⟩
  by_cases h3 : k < 0
  · have HE := Lib.hid (show placeE n k = 5 by unfold placeE; rw [if_neg (by omega), if_pos (.inl h3)])
    go_enter Tryd.func25, Tryd.ntmps25
    go_wp2
    go_ret2
    exact ⟨by rw [HE.out]; rfl, rfl⟩
  by_cases h4 : n ≤ k
  · have HE := Lib.hid (show placeE n k = 5 by unfold placeE; rw [if_neg (by omega), if_pos (.inr h4)])
    go_enter Tryd.func25, Tryd.ntmps25
    go_wp2
    go_ret2
    exact ⟨by rw [HE.out]; rfl, rfl⟩
  · exact absurd (by unfold placeE; rw [if_neg (by omega), if_neg (by omega)]) he

set_option maxRecDepth 100000 in
set_option maxHeartbeats 4000000 in
theorem rorder_good (seed : Int) (n k y t : Nat) (w : World) (hn : n ≤ 1099511627776) (hk : k < n) (hit : Hit (ordF seed n) n k y t) :
    Calls Tryd.prog 25 #[.int .u64 seed, .int .i64 n, .int .i64 k] w fun e w' => e = .returned (.tuple #[.int .i64 y, .int .i64 0]) ∧ Below w.heap.size w w' := by
  have hroom := sizeH_room n hn
  have hlt := fun i => (ord_perm seed n).iter_lt k (by omega) i
  have hstep := fun x W hx => turned_sz seed n x W hn hx
  obtain ⟨T, hT⟩ : ∃ T, T = ordF seed n := ⟨_, rfl⟩
  rw [← hT] at hit hlt hstep
  obtain ⟨h1, h2, h3, h4⟩ := hit
  obtain ⟨m, hm⟩ : ∃ m, m = sizeH n * sizeH n := ⟨_, rfl⟩
  rw [← hm] at hroom hlt hstep
  have hms : sizeH n ≤ 1048576 := by have := Nat.pow_le_pow_right (n := 2) (by omega) (roomH_room n hn).2.2; simpa [sizeH] using this
  have hmm : m ≤ 1048576 * 1048576 := by rw [hm]; exact Nat.mul_le_mul hms hms
  have HST := Lib.hid hstep
  have HLT := Lib.hid hlt
  have HY := Lib.hid h2
  have HM := Lib.hid h4
  clear hT hm hstep hlt h2 h4
  obtain ⟨I, hI⟩ : ∃ I, I = fun i => iter T i k := ⟨_, rfl⟩
  have HIS := Lib.hid (show ∀ i, T (I i) = I (i + 1) from fun i => by rw [hI]; rfl)
  have HI0 := Lib.hid (show T k = I 1 by rw [hI]; rfl)
  replace HLT := Lib.hid (show ∀ i, I i < m from fun i => by rw [hI]; exact HLT.out i)
  replace HY := Lib.hid (show I t = y by rw [hI]; exact HY.out)
  replace HM := Lib.hid (show ∀ i, 1 ≤ i → i < t → n ≤ I i from fun i => by rw [hI]; exact HM.out i)
  clear hI
  have d1 : ¬ (n : Int) < 1 := by omega
  have d2 : ¬ (1099511627776 : Int) < (n : Int) := by omega
  have d3 : ¬ (k : Int) < 0 := by omega
  have d4 : ¬ (n : Int) ≤ (k : Int) := by omega
  go_enter Tryd.func25, Tryd.ntmps25
  go_wp2
  go_loop [8] (fun s => ∃ j : Nat, 1 ≤ j ∧ j ≤ 20 ∧ s = .int .i64 (2 ^ j : Nat) ∧ ∀ i, 1 ≤ i → i < j → 2 ^ i * 2 ^ i < n) (fun s => (1048577 - intOf s).toNat)
  case atStart => exact ⟨1, by omega, by omega, rfl, fun i h1 h2 => by omega⟩
  case round =>
    obtain ⟨j, hj, hj20, rfl, hl⟩ := hrel
    have hs2 : 2 ≤ 2 ^ j := by have := Nat.pow_le_pow_right (n := 2) (by omega) hj; simpa using this
    have hs3 : 2 ^ j ≤ 1048576 := by have := Nat.pow_le_pow_right (n := 2) (by omega) hj20; simpa using this
    have hss : 2 ^ j * 2 ^ j ≤ 1048576 * 1048576 := Nat.mul_le_mul hs3 hs3
    have HL := Lib.hid hl
    have HN := Lib.hid (show 2 ^ (j + 1) = 2 ^ j * 2 from Nat.pow_succ 2 j)
    have HR := Lib.hid (fun h => roomH_of (n := n) hj (by omega) h hl)
    obtain ⟨s, hs⟩ : ∃ s, s = 2 ^ j := ⟨_, rfl⟩
    have HSQ := Lib.hid hs
    rw [← hs] at hs2 hs3 hss HN HR ⊢
    obtain ⟨q, hq⟩ : ∃ q, q = s * s := ⟨_, rfl⟩
    have hqi : (s : Int) * (s : Int) = (q : Int) := by rw [hq]; exact (Int.natCast_mul _ _).symm
    rw [← hq] at hss HR
    have hm0 : (0 : Int) ≤ (s : Int) * (s : Int) := by rw [hqi]; omega
    have hm1 : (s : Int) * (s : Int) ≤ 1099511627776 := by rw [hqi]; omega
    have HQ := Lib.hid hq
    by_cases hlt : q < n
    · have hli : (s : Int) * (s : Int) < (n : Int) := by rw [hqi]; omega
      have HLT := Lib.hid hlt
      clear hs hq hqi hl hlt
      go_wp2_with fail
      go_round
      case rel =>
        have hj2 : j < 20 := by
          by_cases e : j = 20
          · subst e
            have h1 := HLT.out
            rw [HQ.out, HSQ.out] at h1
            omega
          · omega
        exact ⟨j + 1, by omega, by omega, by rw [HN.out]; go_num, fun i h1 h2 => by
          by_cases e : i = j
          · subst e; have := HLT.out; rw [HQ.out, HSQ.out] at this; exact this
          · exact HL.out i h1 (by omega)⟩
      case measure => simp [intOf]; omega
    · have hli : ¬ (s : Int) * (s : Int) < (n : Int) := by rw [hqi]; omega
      have hRR := HR.out (by omega)
      have hsz : sizeH n = s := by rw [sizeH, hRR, HSQ.out]
      rw [hsz] at HST
      clear hs hq hqi hl hlt hRR hsz HR HL HN HQ
      have HF0 := Lib.hid (HST.out k w (by omega))
      rw [HI0.out] at HF0
      have hb1 := HLT.out 1
      go_wp2_with fail
      refine HF0.out.mono ?_
      rintro e w1 ⟨rfl, hb⟩
      have HB1 := Lib.hid hb
      clear hb hli hm0 hm1
      go_wp2_with fail
      go_loopg [9] t (fun gk v wr => ∃ i : Nat, gk + i = t + 1 ∧ 1 ≤ i ∧ i ≤ t ∧ v = .int .i64 (I i) ∧ Below w.heap.size w wr)
      case atStart => exact ⟨1, by omega, by omega, h1, rfl, HB1.out⟩
      case round =>
        obtain ⟨i, hgi, hi, hit0, rfl, hB⟩ := hrel
        have hbi := HLT.out i
        by_cases hlt : n ≤ I i
        · have hli : (n : Int) ≤ (I i : Int) := by omega
          have hit : i < t := by
            by_cases e : i = t
            · subst e; have := HY.out; omega
            · omega
          have hbn := HLT.out (i + 1)
          have hf := HST.out (I i) wr hbi
          rw [HIS.out i] at hf
          have HF := Lib.hid hf
          have HB := Lib.hid hB
          clear hf hB
          go_wp2_with fail
          refine HF.out.mono ?_
          rintro e w2 ⟨rfl, hb⟩
          have HB2 := Lib.hid (HB.out.trans (hb.mono HB.out.size))
          clear hb
          go_wp2_with fail
          go_roundg (gk - 1)
          case measure => omega
          case rel => exact ⟨i + 1, by omega, by omega, by omega, rfl, HB2.out⟩
        · have hli : ¬ (n : Int) ≤ (I i : Int) := by omega
          have hie : i = t := by
            by_cases e : i = t
            · exact e
            · have := HM.out i hi (by omega); omega
          subst hie
          rw [HY.out] at hli hbi ⊢
          have HB := Lib.hid hB
          clear hB hgi
          go_wp2_with fail
          go_ret2
          exact ⟨rfl, HB.out⟩
end Go.Proofs.YtgfhniiidejmoaaDoor
