/- Orders: checkPlace, orderOf, walk. · Orders: walk. · rand.Order, rand.Place. -/
import Derived.Test.YtgfhniiidejmoaaGreatDoorB12
import Derived.Deep.LoopGhost
namespace Go.Proofs.YtgfhniiidejmoaaGreatDoor
open Go.RowKit Go.Shelf
set_option linter.unusedVariables false

/-- the error of a place -/
def placeE (n k : Int) : Int := if n < 1 ∨ 1099511627776 < n then 1 else if k < 0 ∨ n ≤ k then 5 else 0
set_option maxHeartbeats 1000000 in
theorem check_any (n k : Int) (w : World) :
    Calls Tryz.prog 91 #[.int .i64 n, .int .i64 k] w fun e w' => e = .returned (.int .i64 (placeE n k)) ∧ w = w' := by
  by_cases h1 : n < 1
  · have he := Lib.hid (show placeE n k = 1 by unfold placeE; rw [if_pos (.inl h1)])
    go_enter Tryz.func91, Tryz.ntmps91
    go_wp2
    go_ret
    exact ⟨ret_int he.out.symm, rfl⟩
  by_cases h2 : 1099511627776 < n
  · have he := Lib.hid (show placeE n k = 1 by unfold placeE; rw [if_pos (.inr h2)])
    go_enter Tryz.func91, Tryz.ntmps91
    go_wp2
    go_ret
    exact ⟨ret_int he.out.symm, rfl⟩
  by_cases h3 : k < 0
  · have he := Lib.hid (show placeE n k = 5 by unfold placeE; rw [if_neg (by omega), if_pos (.inl h3)])
    go_enter Tryz.func91, Tryz.ntmps91
    go_wp2
    go_ret
    exact ⟨ret_int he.out.symm, rfl⟩
  by_cases h4 : n ≤ k
  · have he := Lib.hid (show placeE n k = 5 by unfold placeE; rw [if_neg (by omega), if_pos (.inr h4)])
    go_enter Tryz.func91, Tryz.ntmps91
    go_wp2
    go_ret
    exact ⟨ret_int he.out.symm, rfl⟩
  · have he := Lib.hid (show placeE n k = 0 by unfold placeE; rw [if_neg (by omega), if_neg (by omega)])
    go_enter Tryz.func91, Tryz.ntmps91
    go_wp2
    go_ret
    exact ⟨ret_int he.out.symm, rfl⟩

/-- the least exponent, at least 1, for which n numbers have room -/
def roomFrom (n : Nat) : Nat → Nat → Nat
  | 0, h => h
  | f + 1, h => if 2 ^ h * 2 ^ h < n then roomFrom n f (h + 1) else h
def roomH (n : Nat) : Nat := roomFrom n 20 1
theorem roomFrom_of (n j : Nat) (h1 : n ≤ 2 ^ j * 2 ^ j) (h2 : ∀ i, 1 ≤ i → i < j → 2 ^ i * 2 ^ i < n) : ∀ f a, j ≤ a + f → 1 ≤ a → a ≤ j → roomFrom n f a = j := by
  intro f
  induction f with
  | zero => intro a ha h0 hj; simp only [roomFrom]; omega
  | succ f ih =>
    intro a ha h0 hj
    simp only [roomFrom]
    by_cases e : a = j
    · subst e; rw [if_neg (by omega)]
    · rw [if_pos (h2 a h0 (by omega))]; exact ih _ (by omega) (by omega) (by omega)
theorem roomH_of {n j : Nat} (h0 : 1 ≤ j) (hj : j ≤ 21) (h1 : n ≤ 2 ^ j * 2 ^ j) (h2 : ∀ i, 1 ≤ i → i < j → 2 ^ i * 2 ^ i < n) : roomH n = j := roomFrom_of n j h1 h2 20 1 (by omega) (by omega) h0
theorem roomFrom_room (n : Nat) (hn : n ≤ 2 ^ 20 * 2 ^ 20) : ∀ f a, 20 ≤ a + f → a ≤ 20 → n ≤ 2 ^ roomFrom n f a * 2 ^ roomFrom n f a ∧ a ≤ roomFrom n f a ∧ roomFrom n f a ≤ 20 := by
  intro f
  induction f with
  | zero => intro a ha h0; simp only [roomFrom]; obtain rfl : a = 20 := by omega
            exact ⟨hn, by omega, by omega⟩
  | succ f ih =>
    intro a ha h0
    simp only [roomFrom]
    by_cases e : 2 ^ a * 2 ^ a < n
    · rw [if_pos e]
      by_cases h20 : a = 20
      · subst h20; omega
      · have := ih (a + 1) (by omega) (by omega); exact ⟨this.1, by omega, this.2.2⟩
    · rw [if_neg e]; exact ⟨by omega, by omega, h0⟩
theorem roomH_room (n : Nat) (hn : n ≤ 1099511627776) : n ≤ 2 ^ roomH n * 2 ^ roomH n ∧ 1 ≤ roomH n ∧ roomH n ≤ 20 := roomFrom_room n (by omega) 20 1 (by omega) (by omega)

/-- the number of halves of an order of n numbers -/
def sizeH (n : Nat) : Nat := 2 ^ roomH n
set_option maxRecDepth 100000 in
set_option maxHeartbeats 2000000 in
theorem orderOf_any (seed : Int) (n : Nat) (w : World) (hn : n ≤ 1099511627776) :
    Calls Tryz.prog 93 #[.int .u64 seed, .int .i64 n] w fun e w' => e = .returned (.agg #[.int .u64 seed, .int .i64 (sizeH n)]) ∧ Below w.heap.size w w' := by
  go_enter Tryz.func93, Tryz.ntmps93
  go_wp2
  go_loop [5] (fun s => ∃ j : Nat, 1 ≤ j ∧ j ≤ 20 ∧ s = .int .i64 (2 ^ j : Nat) ∧ ∀ i, 1 ≤ i → i < j → 2 ^ i * 2 ^ i < n) (fun s => (1048577 - intOf s).toNat)
  case atStart => exact ⟨1, by omega, by omega, rfl, fun i h1 h2 => by omega⟩
  case round =>
    obtain ⟨j, hj, hj20, rfl, hl⟩ := hrel
    have hs2 : 2 ≤ 2 ^ j := by have := Nat.pow_le_pow_right (n := 2) (by omega) hj; simpa using this
    have hs3 : 2 ^ j ≤ 1048576 := by have := Nat.pow_le_pow_right (n := 2) (by omega) hj20; simpa using this
    have hss : 2 ^ j * 2 ^ j ≤ 1048576 * 1048576 := Nat.mul_le_mul hs3 hs3
    have HL := Lib.hid hl
    have HN := Lib.hid (show 2 ^ (j + 1) = 2 ^ j * 2 from Nat.pow_succ 2 j)
    have HR := Lib.hid (fun h => roomH_of (n := n) hj (by omega) h hl)
    obtain ⟨s, hs⟩ : ∃ s, s = 2 ^ j := ⟨_, rfl⟩
    have HSQ := Lib.hid hs
    rw [← hs] at hs2 hs3 hss HN HR ⊢
    obtain ⟨q, hq⟩ : ∃ q, q = s * s := ⟨_, rfl⟩
    have hqi : (s : Int) * (s : Int) = (q : Int) := by rw [hq]; exact (Int.natCast_mul _ _).symm
    rw [← hq] at hss HR
    have hm0 : (0 : Int) ≤ (s : Int) * (s : Int) := by rw [hqi]; omega
    have hm1 : (s : Int) * (s : Int) ≤ 1099511627776 := by rw [hqi]; omega
    have HQ := Lib.hid hq
    by_cases hlt : q < n
    · have hli : (s : Int) * (s : Int) < (n : Int) := by rw [hqi]; omega
      have HLT := Lib.hid hlt
      clear hs hq hqi hl hlt
      go_wp2_with fail
      go_round
      case rel =>
        have hj2 : j < 20 := by
          by_cases e : j = 20
          · subst e
            have h1 := HLT.out
            rw [HQ.out, HSQ.out] at h1
            omega
          · omega
        exact ⟨j + 1, by omega, by omega, by rw [HN.out]; go_num, fun i h1 h2 => by
          by_cases e : i = j
          · subst e; have := HLT.out; rw [HQ.out, HSQ.out] at this; exact this
          · exact HL.out i h1 (by omega)⟩
      case measure => simp [intOf]; omega
    · have hli : ¬ (s : Int) * (s : Int) < (n : Int) := by rw [hqi]; omega
      have hRR := HR.out (by omega)
      have HF := Lib.hid (show Ending.returned (.agg #[.int .u64 seed, .int .i64 (s : Int)]) = .returned (.agg #[.int .u64 seed, .int .i64 (sizeH n)]) from by rw [sizeH, hRR, HSQ.out])
      have hc := two_new w 138 (.int .u64 seed) (.int .i64 s)
      clear hs hq hqi hl hlt hRR
      go_wp2_with fail
      exact bodyPost_ret (v := .agg #[.int .u64 seed, .int .i64 s]) (by simp [results, Tryz.results93, go_sem, hc.1, hc.2]) rfl ⟨HF.out, (Below.refl _ _).alloc (Nat.le_refl _) _⟩
end Go.Proofs.YtgfhniiidejmoaaGreatDoor
namespace Go.Proofs.YtgfhniiidejmoaaGreatDoor
open Go.RowKit Go.Shelf
set_option linter.unusedVariables false

set_option maxRecDepth 100000 in
set_option maxHeartbeats 2000000 in
theorem walkB_any (seed : Int) (h n k y t : Nat) (w : World) (hh : 1 ≤ h) (hh2 : h ≤ 30) (hn : n ≤ 2 ^ h * 2 ^ h) (hk : k < n) (hR : RoundsAt w) (hit : Hit (turnB (maskN seed (2 ^ h)) (2 ^ h)) n k y t) :
    Calls Tryz.prog 92 #[.func (.func 94) #[.agg #[.int .u64 seed, .int .i64 (2 ^ h : Nat)]] #[], .int .i64 n, .int .i64 k] w fun e w' => e = .returned (.int .i64 y) ∧ Below w.heap.size w w' := by
  have hF : ∀ r x, maskN seed (2 ^ h) r x < 2 ^ h := fun r x => maskN_lt seed _ r x Nat.one_le_two_pow
  have hlt := fun i => (turn_perm hF).symm.iter_lt k (by omega) i
  have hstep := fun x hx W hW => backward_any seed h x W hh hh2 hx hW
  have hs3 : 2 ^ h ≤ 1073741824 := by have := Nat.pow_le_pow_right (n := 2) (by omega) hh2; simpa using this
  have hss : 2 ^ h * 2 ^ h ≤ 1073741824 * 1073741824 := Nat.mul_le_mul hs3 hs3
  obtain ⟨T, hT⟩ : ∃ T, T = turnB (maskN seed (2 ^ h)) (2 ^ h) := ⟨_, rfl⟩
  rw [← hT] at hit hlt hstep
  obtain ⟨s, hs⟩ : ∃ s, s = 2 ^ h := ⟨_, rfl⟩
  rw [← hs] at hn hlt hstep hss ⊢
  obtain ⟨h1, h2, h3, h4⟩ := hit
  obtain ⟨m, hm⟩ : ∃ m, m = s * s := ⟨_, rfl⟩
  rw [← hm] at hn hlt hstep hss
  have HST := Lib.hid hstep
  have HLT := Lib.hid hlt
  have HY := Lib.hid h2
  have HM := Lib.hid h4
  have HR := Lib.hid hR
  clear hT hs hm hstep hlt hF h2 h4 hR hs3
  have hf0 := HST.out k (by omega) w HR.out
  have HF0 := Lib.hid hf0
  have hit1 : T k = iter T 1 k := rfl
  have hb1 := HLT.out 1
  rw [hit1] at HF0
  clear hf0 hit1
  obtain ⟨I, hI⟩ : ∃ I, I = fun i => iter T i k := ⟨_, rfl⟩
  have hIs : ∀ i, T (I i) = I (i + 1) := fun i => by rw [hI]; rfl
  have HIS := Lib.hid hIs
  rw [show iter T 1 k = I 1 from by rw [hI]] at HF0 hb1
  replace HLT := Lib.hid (show ∀ i, I i < m from fun i => by rw [hI]; exact HLT.out i)
  replace HY := Lib.hid (show I t = y by rw [hI]; exact HY.out)
  replace HM := Lib.hid (show ∀ i, 1 ≤ i → i < t → n ≤ I i from fun i => by rw [hI]; exact HM.out i)
  clear hI hIs
  go_enter Tryz.func92, Tryz.ntmps92
  go_wp2_with (go_at_call 94; refine HF0.out.mono ?_; rintro e w1 ⟨rfl, hb⟩; have HB1 := Lib.hid hb; clear hb)
  go_loopg [7] t (fun gk v wr => ∃ i : Nat, gk + i = t + 1 ∧ 1 ≤ i ∧ i ≤ t ∧ v = .int .i64 (I i) ∧ Below w.heap.size w wr)
  case atStart => exact ⟨1, by omega, by omega, h1, rfl, HB1.out⟩
  case round =>
    obtain ⟨i, hgi, hi, hit0, rfl, hB⟩ := hrel
    have hbi := HLT.out i
    by_cases hlt : n ≤ I i
    · have hli : (n : Int) ≤ (I i : Int) := by omega
      have hit : i < t := by
        by_cases e : i = t
        · subst e; have := HY.out; omega
        · omega
      have hbn := HLT.out (i + 1)
      have hf := HST.out (I i) hbi wr (HR.out.below hB)
      rw [HIS.out i] at hf
      have HF := Lib.hid hf
      have HB := Lib.hid hB
      clear hf hB
      go_wp2_with (go_at_call 94; refine HF.out.mono ?_; rintro e w1 ⟨rfl, hb⟩; have HB2 := Lib.hid (HB.out.trans (hb.mono HB.out.size)); clear hb)
      go_roundg (gk - 1)
      case measure => omega
      case rel => exact ⟨i + 1, by omega, by omega, by omega, rfl, HB2.out⟩
    · have hli : ¬ (n : Int) ≤ (I i : Int) := by omega
      have hie : i = t := by
        by_cases e : i = t
        · exact e
        · have := HM.out i hi (by omega); omega
      subst hie
      rw [HY.out] at hli hbi ⊢
      have HB := Lib.hid hB
      clear hB hgi
      go_wp2_with fail
      go_ret
      exact ⟨rfl, HB.out⟩

end Go.Proofs.YtgfhniiidejmoaaGreatDoor
namespace Go.Proofs.YtgfhniiidejmoaaGreatDoor
open Go.RowKit Go.Shelf
set_option linter.unusedVariables false

/-- what an order of n numbers does to a number, and what undoes it -/
def ordF (seed : Int) (n : Nat) : Nat → Nat := turnF (maskN seed (sizeH n)) (sizeH n)
def ordB (seed : Int) (n : Nat) : Nat → Nat := turnB (maskN seed (sizeH n)) (sizeH n)
theorem ord_perm (seed : Int) (n : Nat) : Perm (sizeH n * sizeH n) (ordF seed n) (ordB seed n) :=
  turn_perm (h := roomH n) fun r x => maskN_lt seed _ r x Nat.one_le_two_pow
theorem sizeH_room (n : Nat) (hn : n ≤ 1099511627776) : n ≤ sizeH n * sizeH n := (roomH_room n hn).1
theorem ordB_hits (seed : Int) (n k : Nat) (hn : n ≤ 1099511627776) (hk : k < n) : ∃ y t, Hit (ordB seed n) n k y t := (ord_perm seed n).symm.hits n k hk (sizeH_room n hn)
theorem walkB_sz (seed : Int) (n k y t : Nat) (w : World) (hn : n ≤ 1099511627776) (hk : k < n) (hR : RoundsAt w) (hit : Hit (ordB seed n) n k y t) :
    Calls Tryz.prog 92 #[.func (.func 94) #[.agg #[.int .u64 seed, .int .i64 (sizeH n)]] #[], .int .i64 n, .int .i64 k] w fun e w' => e = .returned (.int .i64 y) ∧ Below w.heap.size w w' :=
  walkB_any seed (roomH n) n k y t w (roomH_room n hn).2.1 (by have := (roomH_room n hn).2.2; omega) (roomH_room n hn).1 hk hR hit

set_option maxRecDepth 100000 in
set_option maxHeartbeats 1000000 in
theorem place_good (seed : Int) (n k y t : Nat) (w : World) (hn : n ≤ 1099511627776) (hk : k < n) (hR : RoundsAt w) (hit : Hit (ordB seed n) n k y t) :
    Calls Tryz.prog 72 #[.int .u64 seed, .int .i64 n, .int .i64 k] w fun e w' => e = .returned (.tuple #[.int .i64 y, .int .i64 0]) ∧ Below w.heap.size w w' := by
  have HE := Lib.hid (show placeE n k = 0 by unfold placeE; rw [if_neg (by omega), if_neg (by omega)])
  have HH := Lib.hid hit
  have HR := Lib.hid hR
  clear hit hR
  go_enter Tryz.func72, Tryz.ntmps72
  go_wp2_with fail
  refine (check_any n k _).mono ?_
  rintro e w1 ⟨rfl, rfl⟩
  rw [HE.out]
  go_wp2_with fail
  refine (orderOf_any seed n _ hn).mono ?_
  rintro e w1 ⟨rfl, hb⟩
  have HB := Lib.hid hb
  clear hb
  go_wp2_with fail
  refine (walkB_sz seed n k y t _ hn hk (HR.out.below HB.out) HH.out).mono ?_
  rintro e w2 ⟨rfl, hb⟩
  have HB2 := Lib.hid (HB.out.trans (hb.mono HB.out.size))
  clear hb
  go_wp2_with fail
  go_ret2
  exact ⟨rfl, HB2.out⟩

end Go.Proofs.YtgfhniiidejmoaaGreatDoor
