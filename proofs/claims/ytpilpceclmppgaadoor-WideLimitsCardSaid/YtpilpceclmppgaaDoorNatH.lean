/- Long division by digits (no Go). -/
import Derived.Test.YtpilpceclmppgaaDoorNums
namespace Go.Proofs.YtpilpceclmppgaaDoor
open Go.RowKit
set_option linter.unusedVariables false

theorem dv_all_zero (B : Int) : ∀ l : List Int, (∀ j : Nat, l[j]?.getD 0 = 0) → dv B l = 0
  | [], _ => rfl
  | d :: t, h => by
    have h0 := h 0
    have ht := dv_all_zero B t (fun j => by have := h (j + 1); simpa using this)
    simp at h0
    show d + B * dv B t = 0
    rw [ht, h0]; simp
theorem tail_zero {B : Int} (hB : 1 < B) {l : List Int} (h : Dig B l) {k : Nat} (hlt : dv B l < B ^ k) (j : Nat) (hj : k ≤ j) : l[j]?.getD 0 = 0 := by
  rcases Nat.lt_or_ge j l.length with hl | hl
  · have e1 := dv_split B l (j + 1) (by omega)
    have e2 := dv_take B l j
    have h1 := dv_nonneg (show 0 < B by omega) (h.take j)
    have h2 := dv_nonneg (show 0 < B by omega) (h.drop (j + 1))
    have h3 := Int.mul_nonneg (Int.le_of_lt (pow_pos' (show 0 < B by omega) (j + 1))) h2
    have h4 := h.get (show 0 < B by omega) j
    have h5 := pow_mono' (show 0 < B by omega) hj
    have hp := pow_pos' (show 0 < B by omega) j
    rcases Int.lt_or_eq_of_le h4.1 with h6 | h6
    · have h7 := Int.mul_le_mul_of_nonneg_left (show 1 ≤ l[j]?.getD 0 by omega) (Int.le_of_lt hp)
      omega
    · exact h6.symm
  · rw [List.getElem?_eq_none hl]; rfl
theorem lt_of_tail {B : Int} (hB : 1 < B) {l : List Int} (h : Dig B l) {k : Nat} (hz : ∀ j, k ≤ j → l[j]?.getD 0 = 0) : dv B l < B ^ k := by
  rcases Nat.lt_or_ge k l.length with hl | hl
  · have e1 := dv_split B l k (by omega)
    have e2 := dv_all_zero B (l.drop k) (fun j => by rw [List.getElem?_drop]; exact hz _ (by omega))
    rw [e2, Int.mul_zero, Int.add_zero] at e1
    have h2 := dv_lt (show 0 < B by omega) (h.take k)
    rw [List.length_take, Nat.min_eq_left (by omega)] at h2
    omega
  · exact Int.lt_of_lt_of_le (dv_lt (show 0 < B by omega) h) (pow_mono' (show 0 < B by omega) hl)
/-- a number whose digits end at i + p, by its part from i on -/
theorem part_split {B : Int} (hB : 1 < B) {L : List Int} (h : Dig B L) {i p : Nat} (hi : i + p ≤ L.length) (hlt : dv B L < B ^ (i + p)) : dv B L = dv B (L.take i) + B ^ i * dv B ((L.drop i).take p) := by
  have e1 := dv_split B L (i + p) hi
  have e2 := dv_all_zero B (L.drop (i + p)) (fun j => by rw [List.getElem?_drop]; exact tail_zero hB h hlt _ (by omega))
  rw [e2, Int.mul_zero, Int.add_zero, List.take_add, dv_app, List.length_take, Nat.min_eq_left (by omega)] at e1
  exact e1
/-- the state of a long division of X by D at place k: rest L, quotient K -/
def DivS (B X D : Int) (k : Nat) (L K : List Int) : Prop :=
  Dig B L ∧ Dig B K ∧ X = D * (B ^ k * dv B (K.drop k)) + dv B L ∧ dv B L < D * B ^ k
theorem DivS.bound {B X D : Int} {i l : Nat} {L K : List Int} (h : DivS B X D (i + 1) L K) (hB : 1 < B) (hD : D < B ^ l) : dv B L < B ^ (i + (l + 1)) := by
  have h4 := h.2.2.2
  have hp := pow_pos' (show 0 < B by omega) (i + 1)
  have := Int.mul_le_mul_of_nonneg_right (Int.le_of_lt hD) (Int.le_of_lt hp)
  rw [← Int.pow_add, show l + (i + 1) = i + (l + 1) by omega] at this
  omega
theorem DivS.part {B X D : Int} {i : Nat} {L K : List Int} {low P : Int} (h : DivS B X D (i + 1) L K) (hB : 1 < B) (hl : 0 ≤ low) (e : dv B L = low + B ^ i * P) : P < D * B := by
  have h4 := h.2.2.2
  have hp := pow_pos' (show 0 < B by omega) i
  have h5 : B ^ i * P < B ^ i * (D * B) := by
    have : B ^ i * (D * B) = D * B ^ (i + 1) := by rw [Int.pow_succ]; grind
    omega
  exact Int.lt_of_mul_lt_mul_left h5 (Int.le_of_lt hp)
theorem DivS.done {B X D : Int} {i : Nat} {L L' K : List Int} {low P G : Int} (h : DivS B X D (i + 1) L K) (hB : 1 < B) (hD : 0 < D) (hi : i < K.length) (hl : 0 ≤ low) (hl2 : low < B ^ i) (e : dv B L = low + B ^ i * P) (hG : P / D ≤ G) (hG0 : 0 ≤ G) (hG1 : G < B) (hL : Dig B L') (e2 : dv B L' = dv B L - B ^ i * (G * D)) : DivS B X D i L' (K.set i G) := by
  have hp := pow_pos' (show 0 < B by omega) i
  have hn := dv_nonneg (show 0 < B by omega) hL
  have e3 : dv B L' = low + B ^ i * (P - G * D) := by rw [e2, e]; grind
  have h1 : 0 ≤ P - G * D := by
    rcases Int.lt_or_le (P - G * D) 0 with h5 | h5
    · have := Int.mul_le_mul_of_nonneg_left (show P - G * D ≤ -1 by omega) (Int.le_of_lt hp)
      omega
    · exact h5
  have h2 : G ≤ P / D := (quo_le hD).2 (by omega)
  obtain rfl : G = P / D := by omega
  have h3 : P - P / D * D < D := by
    have := Int.emod_lt_of_pos P hD
    have h6 := Int.emod_def P D
    rw [Int.mul_comm] at h6
    omega
  refine ⟨hL, h.2.1.set _ ⟨hG0, hG1⟩, ?_, ?_⟩
  · have e4 : (K.set i (P / D)).drop i = (P / D) :: K.drop (i + 1) := by
      rw [List.drop_eq_getElem_cons (by rw [List.length_set]; exact hi), List.getElem_set_self, List.drop_set_of_lt (by omega)]
    rw [e4, h.2.2.1, e2, Int.pow_succ]
    show _ = D * (B ^ i * (P / D + B * dv B (K.drop (i + 1)))) + _
    grind
  · have := Int.mul_le_mul_of_nonneg_left (show P - P / D * D ≤ D - 1 by omega) (Int.le_of_lt hp)
    rw [e3, Int.mul_comm D]
    have e5 : B ^ i * (D - 1) = B ^ i * D - B ^ i := by grind
    omega
/-- too much taken away -/
theorem over_gt {B D low P G : Int} {i l : Nat} {L L' : List Int} (hB : 1 < B) (hD : 0 < D) (hl : 0 ≤ low) (e : dv B L = low + B ^ i * P) (hL : Dig B L') (hz : ∀ j, i + (l + 1) ≤ j → L'[j]?.getD 0 = 0) (e2 : dv B L' = dv B L - B ^ i * (G * D) + B ^ (i + (l + 1))) : P / D < G := by
  rcases Int.lt_or_le (P / D) G with h | h
  · exact h
  · have h1 := (quo_le hD).1 h
    have hlt := lt_of_tail hB hL hz
    have hp := pow_pos' (show 0 < B by omega) i
    have := Int.mul_nonneg (Int.le_of_lt hp) (show 0 ≤ P - G * D by omega)
    have e3 : dv B L - B ^ i * (G * D) = low + B ^ i * (P - G * D) := by rw [e]; grind
    omega
/-- what is paid back: once too much or done -/
theorem paid_back {B D G cy : Int} {i l : Nat} {L L' L'' : List Int} (hB : 1 < B) (hG : 1 ≤ G) (hD : 0 < D) (hb : dv B L < B ^ (i + (l + 1))) (e : dv B L' = dv B L - B ^ i * (G * D) + B ^ (i + (l + 1))) (hL : Dig B L'') (e2 : dv B L'' + B ^ (i + (l + 1)) * cy = dv B L' + B ^ i * D) (c0 : 0 ≤ cy) :
    (cy ≠ 0 → dv B L'' = dv B L - B ^ i * ((G - 1) * D)) ∧ (cy = 0 → dv B L'' = dv B L - B ^ i * ((G - 1) * D) + B ^ (i + (l + 1))) := by
  have e3 : B ^ i * ((G - 1) * D) = B ^ i * (G * D) - B ^ i * D := by grind
  have hp := pow_pos' (show 0 < B by omega) i
  have hq := pow_pos' (show 0 < B by omega) (i + (l + 1))
  have hn := dv_nonneg (show 0 < B by omega) hL
  have h0 : 0 ≤ B ^ i * ((G - 1) * D) := Int.mul_nonneg (Int.le_of_lt hp) (Int.mul_nonneg (by omega) (Int.le_of_lt hD))
  constructor
  · intro hc
    obtain rfl : cy = 1 := by
      rcases Int.lt_or_le cy 2 with h | h
      · omega
      · have := Int.mul_le_mul_of_nonneg_left h (Int.le_of_lt hq)
        omega
    omega
  · rintro rfl; omega
/-- the guess by the highest digits is never too small -/
theorem guess_ge {B D H d P : Int} {l : Nat} {T ds : List Int} (hB : 1 < B) (hT : Dig B T) (hds : Dig B ds) (hTl : T.length = l + 1) (hdl : ds.length = l) (hl : 0 < l) (hH : H = T[l - 1]?.getD 0 + B * T[l]?.getD 0) (hd : d = ds[l - 1]?.getD 0) (hd0 : 0 < d) (hP : dv B T = P) (hD : dv B ds = D) : P / D ≤ H / d := by
  have e1 : dv B (T.drop (l - 1)) = H := by
    rw [List.drop_eq_getElem_cons (by omega), show l - 1 + 1 = l by omega, List.drop_eq_getElem_cons (by omega), List.drop_of_length_le (by omega)]
    show T[l - 1] + B * (T[l] + B * 0) = H
    rw [hH, List.getElem?_eq_getElem (by omega), List.getElem?_eq_getElem (by omega)]
    simp
  have e2 : dv B (ds.drop (l - 1)) = d := by
    rw [List.drop_eq_getElem_cons (by omega), show l - 1 + 1 = l by omega, List.drop_of_length_le (by omega)]
    show ds[l - 1] + B * 0 = d
    rw [hd, List.getElem?_eq_getElem (by omega)]
    simp
  have h1 := top_part hB hT (l - 1) (by omega)
  have h2 := top_part hB hds (l - 1) (by omega)
  rw [e1, hP] at h1
  rw [e2, hD] at h2
  have h3 := dv_nonneg (show 0 < B by omega) (hT.drop (l - 1))
  rw [e1] at h3
  exact (quo_bd (pow_pos' (show 0 < B by omega) (l - 1)) hd0 h3 h1.1 h1.2 h2.1 h2.2).2
theorem quo_small {B D P : Int} (hD : 0 < D) (h : P < D * B) : P / D ≤ B - 1 := by
  have : P / D < B := Int.ediv_lt_of_lt_mul hD (by rw [Int.mul_comm]; exact h)
  omega
/-- the end of a division of x F by y F -/
theorem div_end {x y F Q R : Int} (hy : 0 < y) (hF : 0 < F) (h : x * F = y * F * Q + R) (h0 : 0 ≤ R) (h1 : R < y * F) : Q = x / y ∧ R = x % y * F ∧ R / F = x % y := by
  have e1 : R = (x - y * Q) * F := by grind
  have h2 : 0 ≤ x - y * Q := by
    rcases Int.lt_or_le (x - y * Q) 0 with h | h
    · have := Int.mul_le_mul_of_nonneg_right (show x - y * Q ≤ -1 by omega) (Int.le_of_lt hF)
      omega
    · exact h
  have h3 : x - y * Q < y := by
    rw [e1] at h1
    exact Int.lt_of_mul_lt_mul_right h1 (Int.le_of_lt hF)
  have e2 : x / y = Q ∧ x % y = x - y * Q := (Int.ediv_emod_unique hy).2 ⟨by omega, h2, h3⟩
  refine ⟨e2.1.symm, by rw [e2.2, e1], ?_⟩
  rw [e1, Int.mul_ediv_cancel _ (by omega), e2.2]
end Go.Proofs.YtpilpceclmppgaaDoor
