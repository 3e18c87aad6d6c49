/- rand.Shuffle. -/
import Derived.Test.YtgfhniiidejmoaaGreatDoorB13
import Derived.Test.YtgfhniiidejmoaaGreatDoorB18
namespace Go.Proofs.YtgfhniiidejmoaaGreatDoor
open Go.RowKit Go.Shelf
set_option linter.unusedVariables false

/-- a list of places -/
def PlaceL (seed : Int) (n k : Nat) (L : List Int) : Prop := L.length = n ∧ ∀ j, j < k → ∃ y t : Nat, L[j]?.getD 0 = (y : Int) ∧ Hit (ordB seed n) n j y t
theorem PlaceL.step {seed : Int} {n k : Nat} {L : List Int} (h : PlaceL seed n k L) (hk : k < n) {y t : Nat} (hit : Hit (ordB seed n) n k y t) : PlaceL seed n (k + 1) (L.set k (y : Int)) := by
  refine ⟨by rw [List.length_set]; exact h.1, fun j hj => ?_⟩
  by_cases e : j = k
  · subst e
    exact ⟨y, t, by rw [List.getElem?_set_self (by rw [h.1]; exact hk)]; rfl, hit⟩
  · obtain ⟨y', t', h1, h2⟩ := h.2 j (by omega)
    exact ⟨y', t', by rw [List.getElem?_set_ne (by omega)]; exact h1, h2⟩
/-- what rand.Shuffle gives -/
def ShufR (seed : Int) (n : Nat) (w : World) (e : Ending) (w' : World) : Prop :=
  ∃ (G : Nat) (L : List Int), e = .returned (.tuple #[.slice (some ⟨G, 0, none⟩) n n, .int .i64 0]) ∧ RowW .i64 w' G 3 L ∧ PlaceL seed n n L ∧ Below w.heap.size w w'

set_option maxRecDepth 100000 in
set_option maxHeartbeats 4000000 in
theorem shuffle_good (seed : Int) (n : Nat) (w : World) (hn0 : 1 ≤ n) (hn1 : n ≤ 1024) (hR : RoundsAt w) :
    Calls Tryz.prog 42 #[.int .u64 seed, .int .i64 n] w (ShufR seed n w) := by
  obtain ⟨i0, hi, hz0, hz1, hz2⟩ := info_parts int_info
  have h1 : ¬ (n : Int) < 1 := by omega
  have h2 : ¬ (1024 : Int) < (n : Int) := by omega
  have HR0 := Lib.hid hR
  clear hR
  go_enter Tryz.func42, Tryz.ntmps42
  go_wp2_with (at_make; refine wpList_make_full _ rfl _ _ _ rfl w.heap.size 3 i0 _ 1 Tryz.underlying23 hi hz0 hz1 _ _ _ _ n rfl rfl (by omega) (by omega) (by rw [hz2]; omega) (by unfold maxLen; omega) (Nat.le_refl _) ?_; intro w4 hown4 hg4)
  have HW := Lib.hid (row_made hown4)
  have HB := Lib.hid (below_of_grown hg4 (Nat.le_refl _) (by simp))
  obtain ⟨G, hG⟩ : ∃ G, G = w.heap.size := ⟨_, rfl⟩
  rw [← hG] at HW HB ⊢
  have HG := Lib.hid hG
  clear hown4 hg4 hG
  go_wp2_with fail
  go_loopw [18] (fun i wr => ∃ (k : Nat) (L : List Int), k ≤ n ∧ i = .int .i64 k ∧ RowW .i64 wr G 3 L ∧ PlaceL seed n k L ∧ Below G w wr) (fun i _ => n - (intOf i).toNat)
  case atStart => exact ⟨0, List.replicate n 0, Nat.zero_le _, rfl, HW.out, ⟨by simp, fun j hj => by omega⟩, HB.out⟩
  case round =>
    obtain ⟨k, L, hk, rfl, hW, hP, hB⟩ := hrel
    have HWr := Lib.hid hW
    have HP := Lib.hid hP
    have HBr := Lib.hid hB
    clear hW hP hB
    by_cases hlt : k < n
    · obtain ⟨y, t, hit⟩ := ordB_hits seed n k (by omega) hlt
      have HIT := Lib.hid hit
      have hki : (k : Int) < (n : Int) := by omega
      have hRw : RoundsAt wr := HR0.out.below (by rw [← HG.out]; exact HBr.out)
      have HRw := Lib.hid hRw
      clear hit hRw
      go_wp2_with (go_at_call 72; refine (place_good seed n k y t _ (by omega) hlt HRw.out HIT.out).mono ?_; rintro e w5 ⟨rfl, hb⟩; have HW5 := Lib.hid (HWr.out.below hb HWr.out.lt); have HB5 := Lib.hid (HBr.out.trans (hb.mono (by have := HWr.out.lt; omega))); have hc5 := HW5.out.cell k (by rw [HP.out.1]; exact hlt); have hf5 := HW5.out.free k; clear hb)
      go_roundw
      case rel => exact ⟨k + 1, _, by omega, by go_num, HW5.out.set_ k (by rw [HP.out.1]; exact hlt) _, HP.out.step hlt HIT.out, HB5.out.setCell (p := ⟨G, k, none⟩) (Nat.le_refl _) _⟩
      case measure => simp [intOf]; omega
    · obtain rfl : k = n := by omega
      have HF := Lib.hid (show ShufR seed k w (.returned (.tuple #[.slice (some ⟨G, 0, none⟩) k k, .int .i64 0])) wr from ⟨G, L, rfl, HWr.out, HP.out, by rw [← HG.out]; exact HBr.out⟩)
      go_wp2_with fail
      go_ret2
      exact HF.out
end Go.Proofs.YtgfhniiidejmoaaGreatDoor
