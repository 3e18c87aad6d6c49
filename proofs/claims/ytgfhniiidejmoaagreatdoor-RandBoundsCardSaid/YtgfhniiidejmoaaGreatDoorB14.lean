/- Digits to a base, the least first: their value, the digits of a number, order. No Go text. · Sums, differences, products and quotients digit by digit. No Go text. · How many bits an integer takes; what that says of its digits. No Go text. · Long division by digits (no Go). · Decimal texts: the text of an integer, the integer of a text. No Go text. · The bound of the range, and how long its digits are. No Go text. · What a reader of decimal texts meets. No Go text. · Texts of integers at the bound of the range. No Go text. -/
import Derived.RowKit
namespace Go.Proofs.YtgfhniiidejmoaaGreatDoor
open Go.RowKit
set_option linter.unusedVariables false

/-- the number that digits make -/
def dv (B : Int) : List Int → Int
  | [] => 0
  | d :: t => d + B * dv B t
def Dig (B : Int) (l : List Int) : Prop := ∀ d ∈ l, 0 ≤ d ∧ d < B
/-- no zero on top -/
def Top (l : List Int) : Prop := l.getLast? ≠ some 0
theorem Dig.nil {B : Int} : Dig B [] := fun _ h => by cases h
theorem Dig.cons {B d : Int} {t : List Int} (h1 : 0 ≤ d ∧ d < B) (h : Dig B t) : Dig B (d :: t) := fun x hx => by
  rcases List.mem_cons.1 hx with rfl | hx
  · exact h1
  · exact h x hx
theorem Dig.tail {B d : Int} {t : List Int} (h : Dig B (d :: t)) : Dig B t := fun x hx => h x (List.mem_cons_of_mem _ hx)
theorem Dig.head {B d : Int} {t : List Int} (h : Dig B (d :: t)) : 0 ≤ d ∧ d < B := h d (List.mem_cons_self ..)
theorem Dig.app {B : Int} {a b : List Int} (h : Dig B a) (k : Dig B b) : Dig B (a ++ b) := fun x hx => by
  rcases List.mem_append.1 hx with hx | hx
  · exact h x hx
  · exact k x hx
theorem Dig.take {B : Int} {l : List Int} (h : Dig B l) (k : Nat) : Dig B (l.take k) := fun x hx => h x (List.mem_of_mem_take hx)
theorem Dig.drop {B : Int} {l : List Int} (h : Dig B l) (k : Nat) : Dig B (l.drop k) := fun x hx => h x (List.mem_of_mem_drop hx)
theorem Dig.get {B : Int} {l : List Int} (h : Dig B l) (hB : 0 < B) (i : Nat) : 0 ≤ l[i]?.getD 0 ∧ l[i]?.getD 0 < B := by
  by_cases hi : i < l.length
  · rw [List.getElem?_eq_getElem hi]; exact h _ (List.getElem_mem hi)
  · rw [List.getElem?_eq_none (by omega)]; exact ⟨Int.le_refl _, hB⟩
theorem Dig.set {B v : Int} {l : List Int} (h : Dig B l) (i : Nat) (hv : 0 ≤ v ∧ v < B) : Dig B (l.set i v) := fun x hx => by
  rcases List.mem_or_eq_of_mem_set hx with h1 | rfl
  · exact h x h1
  · exact hv
theorem pow_pos' {B : Int} (hB : 0 < B) (n : Nat) : 0 < B ^ n := by
  induction n with
  | zero => simp
  | succ n ih => rw [Int.pow_succ]; exact Int.mul_pos ih hB
theorem dv_app (B : Int) (a b : List Int) : dv B (a ++ b) = dv B a + B ^ a.length * dv B b := by
  induction a with
  | nil => simp [dv]
  | cons d t ih => simp only [List.cons_append, dv, ih, List.length_cons, Int.pow_succ]; grind
theorem dv_nonneg {B : Int} (hB : 0 < B) {l : List Int} (h : Dig B l) : 0 ≤ dv B l := by
  induction l with
  | nil => simp [dv]
  | cons d t ih =>
    have h1 := h.head
    have h2 := ih h.tail
    have := Int.mul_nonneg (Int.le_of_lt hB) h2
    simp only [dv]; omega
theorem dv_lt {B : Int} (hB : 0 < B) {l : List Int} (h : Dig B l) : dv B l < B ^ l.length := by
  induction l with
  | nil => simp [dv]
  | cons d t ih =>
    have h1 := h.head
    have h2 : dv B t + 1 ≤ B ^ t.length := ih h.tail
    have h3 := Int.mul_le_mul_of_nonneg_left h2 (Int.le_of_lt hB)
    rw [Int.mul_add, Int.mul_one] at h3
    simp only [dv, List.length_cons, Int.pow_succ]
    rw [Int.mul_comm (B ^ t.length) B]; omega
/-- one digit more -/
theorem dv_take (B : Int) (l : List Int) (i : Nat) : dv B (l.take (i + 1)) = dv B (l.take i) + B ^ i * l[i]?.getD 0 := by
  by_cases h : i < l.length
  · rw [List.take_succ_eq_append_getElem h, dv_app, List.length_take, Nat.min_eq_left (by omega), List.getElem?_eq_getElem h]
    simp [dv]
  · rw [List.take_of_length_le (by omega), List.take_of_length_le (by omega), List.getElem?_eq_none (by omega)]; simp
theorem dv_split (B : Int) (l : List Int) (i : Nat) (h : i ≤ l.length) : dv B l = dv B (l.take i) + B ^ i * dv B (l.drop i) := by
  have := dv_app B (l.take i) (l.drop i)
  rw [List.take_append_drop, List.length_take, Nat.min_eq_left h] at this
  exact this
theorem dv_zeros (B : Int) (n : Nat) : dv B (List.replicate n 0) = 0 := by
  induction n with
  | zero => rfl
  | succ n ih => rw [List.replicate_succ, dv, ih]; simp
theorem dv_set (B : Int) (l : List Int) (i : Nat) (v : Int) (h : i < l.length) : dv B (l.set i v) = dv B l + B ^ i * (v - l[i]?.getD 0) := by
  induction l generalizing i with
  | nil => simp at h
  | cons d t ih =>
    cases i with
    | zero => simp [dv]; omega
    | succ i =>
      simp only [List.set_cons_succ, dv, List.getElem?_cons_succ, Int.pow_succ]
      rw [ih i (by simpa using h)]; grind

/-! ### the digits of a number -/
def digs (B : Int) (x : Int) : List Int := if h : 1 < B ∧ 0 < x then x % B :: digs B (x / B) else []
termination_by x.toNat
decreasing_by
  have h1 : x / B < x := Int.ediv_lt_self_of_pos_of_ne_one h.2 (by omega) |> fun h => h
  have h2 : 0 ≤ x / B := Int.ediv_nonneg (by omega) (by omega)
  omega
theorem digs_pos {B x : Int} (hB : 1 < B) (hx : 0 < x) : digs B x = x % B :: digs B (x / B) := by
  rw [digs, dif_pos ⟨hB, hx⟩]
theorem digs_neg {B x : Int} (hx : x ≤ 0) : digs B x = [] := by
  rw [digs, dif_neg (by omega)]
theorem can_digs {B : Int} (hB : 1 < B) {l : List Int} (h : Dig B l) (ht : Top l) : l = digs B (dv B l) := by
  induction l with
  | nil => rw [digs_neg (by simp [dv])]
  | cons d t ih =>
    have h1 := h.head
    have hd : dv B (d :: t) = d + B * dv B t := rfl
    cases t with
    | nil =>
      have hd0 : d ≠ 0 := fun e => ht (by simp [e])
      have e : dv B [d] = d := by simp [dv]
      rw [e, digs_pos hB (by omega), Int.emod_eq_of_lt h1.1 h1.2, Int.ediv_eq_zero_of_lt h1.1 h1.2, digs_neg (Int.le_refl _)]
    | cons d2 t2 =>
      have ht2 : Top (d2 :: t2) := fun e => ht (by rw [List.getLast?_cons_cons]; exact e)
      have hi := ih h.tail ht2
      have hp : 0 < dv B (d2 :: t2) := by
        have h0 := dv_nonneg (by omega) h.tail
        rcases Int.lt_or_eq_of_le h0 with h2 | h2
        · exact h2
        · rw [← h2, digs_neg (Int.le_refl _)] at hi; cases hi
      have hp2 : 0 < B * dv B (d2 :: t2) := Int.mul_pos (by omega) hp
      rw [hd, digs_pos hB (by omega), Int.add_mul_emod_self_left, Int.emod_eq_of_lt h1.1 h1.2, Int.add_mul_ediv_left _ _ (by omega), Int.ediv_eq_zero_of_lt h1.1 h1.2, Int.zero_add, ← hi]
theorem digs_all {B : Int} (hB : 1 < B) : ∀ (n : Nat) (x : Int), x.toNat ≤ n → 0 ≤ x → dv B (digs B x) = x ∧ Dig B (digs B x) ∧ Top (digs B x) := by
  intro n
  induction n with
  | zero =>
    intro x hn hx
    rw [digs_neg (by omega)]
    exact ⟨by simp [dv]; omega, Dig.nil, by simp [Top]⟩
  | succ n ih =>
    intro x hn hx
    rcases Int.lt_or_eq_of_le hx with h0 | rfl
    · have h1 : x / B < x := Int.ediv_lt_self_of_pos_of_ne_one h0 (by omega)
      have h2 : 0 ≤ x / B := Int.ediv_nonneg (by omega) (by omega)
      obtain ⟨i1, i2, i3⟩ := ih (x / B) (by omega) h2
      have hm := Int.emod_nonneg x (show B ≠ 0 by omega)
      have hm2 := Int.emod_lt_of_pos x (show 0 < B by omega)
      have hdm := Int.mul_ediv_add_emod x B
      rw [digs_pos hB h0]
      refine ⟨by rw [dv, i1]; omega, Dig.cons ⟨hm, hm2⟩ i2, ?_⟩
      unfold Top at i3 ⊢
      by_cases hz : x / B = 0
      · rw [hz, digs_neg (Int.le_refl _)]
        simp
        intro e
        rw [hz] at hdm
        simp at hdm; omega
      · rw [digs_pos hB (by omega), List.getLast?_cons_cons, ← digs_pos hB (by omega)]
        exact i3
    · rw [digs_neg (by omega)]
      exact ⟨by simp [dv], Dig.nil, by simp [Top]⟩
theorem dv_digs {B : Int} (hB : 1 < B) {x : Int} (hx : 0 ≤ x) : dv B (digs B x) = x := (digs_all hB _ x (Nat.le_refl _) hx).1
theorem digs_dig {B : Int} (hB : 1 < B) (x : Int) : Dig B (digs B x) := by
  rcases Int.lt_or_le x 0 with h | h
  · rw [digs_neg (by omega)]; exact Dig.nil
  · exact (digs_all hB _ x (Nat.le_refl _) h).2.1
theorem digs_top {B : Int} (hB : 1 < B) (x : Int) : Top (digs B x) := by
  rcases Int.lt_or_le x 0 with h | h
  · rw [digs_neg (by omega)]; simp [Top]
  · exact (digs_all hB _ x (Nat.le_refl _) h).2.2
/-- a number with k digits is at least B to k - 1 -/
theorem top_ge {B : Int} (hB : 1 < B) {l : List Int} (h : Dig B l) (ht : Top l) (hl : l ≠ []) : B ^ (l.length - 1) ≤ dv B l := by
  have hlen : 0 < l.length := List.length_pos_iff.2 hl
  have hlast : l[l.length - 1]? ≠ some 0 := by rw [← List.getLast?_eq_getElem?]; exact ht
  have hs := dv_take B l (l.length - 1)
  rw [List.take_of_length_le (by omega), List.getElem?_eq_getElem (by omega)] at hs
  rw [List.getElem?_eq_getElem (by omega)] at hlast
  have h1 := h l[l.length - 1] (List.getElem_mem _)
  have hne : l[l.length - 1] ≠ 0 := fun e => hlast (by rw [e])
  have h2 := dv_nonneg (show 0 < B by omega) (h.take (l.length - 1))
  have hP := pow_pos' (show 0 < B by omega) (l.length - 1)
  have h3 := Int.mul_le_mul_of_nonneg_left (show 1 ≤ l[l.length - 1] by omega) (Int.le_of_lt hP)
  simp only [Option.getD_some] at hs
  rw [Int.mul_one] at h3
  omega
theorem pow_mono' {B : Int} (hB : 0 < B) {m n : Nat} (h : m ≤ n) : B ^ m ≤ B ^ n := by
  obtain ⟨k, rfl⟩ := Nat.exists_eq_add_of_le h
  rw [Int.pow_add]
  have h1 := pow_pos' hB m
  have h2 := Int.mul_le_mul_of_nonneg_left (show 1 ≤ B ^ k by have := pow_pos' hB k; omega) (Int.le_of_lt h1)
  rw [Int.mul_one] at h2
  exact h2
/-- the longer one is greater -/
theorem len_lt {B : Int} (hB : 1 < B) {a b : List Int} (ha : Dig B a) (hb : Dig B b) (tb : Top b) (h : a.length < b.length) : dv B a < dv B b := by
  have h1 := dv_lt (show 0 < B by omega) ha
  have h2 := top_ge hB hb tb (fun e => by rw [e] at h; simp at h)
  have h3 := pow_mono' (show 0 < B by omega) (show a.length ≤ b.length - 1 by omega)
  omega
theorem digs_len {B : Int} (hB : 1 < B) {x : Int} {n : Nat} (hx : 0 ≤ x) (h : x < B ^ n) : (digs B x).length ≤ n := by
  rcases Nat.lt_or_ge n (digs B x).length with h1 | h1
  · have h2 := top_ge hB (digs_dig hB x) (digs_top hB x) (fun e => by rw [e] at h1; simp at h1)
    have h3 := pow_mono' (show 0 < B by omega) (show n ≤ (digs B x).length - 1 by omega)
    rw [dv_digs hB hx] at h2
    omega
  · exact h1
/-- the first difference from the top decides -/
theorem diff_lt {B : Int} (hB : 1 < B) {a b : List Int} (ha : Dig B a) (hb : Dig B b) (i : Nat) (hi : i < a.length) (hi2 : i < b.length) (he : a.drop (i + 1) = b.drop (i + 1)) (h : a[i] < b[i]) : dv B a < dv B b := by
  have e1 := dv_split B a i (by omega)
  have e2 := dv_split B b i (by omega)
  rw [List.drop_eq_getElem_cons hi, dv] at e1
  rw [List.drop_eq_getElem_cons hi2, dv] at e2
  have h1 := dv_lt (show 0 < B by omega) (ha.take i)
  rw [List.length_take, Nat.min_eq_left (by omega)] at h1
  have h2 := dv_nonneg (show 0 < B by omega) (hb.take i)
  have hP := pow_pos' (show 0 < B by omega) i
  rw [he] at e1
  have h3 := Int.mul_le_mul_of_nonneg_left (show a[i] + B * dv B (b.drop (i + 1)) + 1 ≤ b[i] + B * dv B (b.drop (i + 1)) by omega) (Int.le_of_lt hP)
  rw [Int.mul_add _ _ 1, Int.mul_one] at h3
  omega
theorem strip_step (B : Int) (l : List Int) (k : Nat) (h : l[k]?.getD 0 = 0) : dv B (l.take (k + 1)) = dv B (l.take k) := by
  rw [dv_take, h]; simp
end Go.Proofs.YtgfhniiidejmoaaGreatDoor
namespace Go.Proofs.YtgfhniiidejmoaaGreatDoor
open Go.RowKit
set_option linter.unusedVariables false

theorem dv_snoc (B : Int) (l : List Int) (d : Int) : dv B (l ++ [d]) = dv B l + B ^ l.length * d := by
  rw [dv_app]; simp [dv]
/-- a sum's next digit -/
theorem plus_step {B : Int} (a b out : List Int) (i : Nat) (c v : Int) (hl : out.length = i) (hv : v = a[i]?.getD 0 + b[i]?.getD 0 + c)
    (h : dv B out + B ^ i * c = dv B (a.take i) + dv B (b.take i)) : dv B (out ++ [v % B]) + B ^ (i + 1) * (v / B) = dv B (a.take (i + 1)) + dv B (b.take (i + 1)) := by
  have h1 := Int.mul_ediv_add_emod v B
  have h2 := congrArg (B ^ i * ·) h1
  simp only [Int.mul_add] at h2
  rw [dv_snoc, hl, dv_take, dv_take, Int.pow_succ, Int.mul_assoc]
  rw [hv] at h2 ⊢
  simp only [Int.mul_add] at h2 ⊢
  omega
theorem plus_bd {B c x y : Int} (hB : 1 < B) (hx : 0 ≤ x ∧ x < B) (hy : 0 ≤ y ∧ y < B) (hc : 0 ≤ c ∧ c ≤ 1) : 0 ≤ (x + y + c) / B ∧ (x + y + c) / B ≤ 1 := by
  refine ⟨Int.ediv_nonneg (by omega) (by omega), ?_⟩
  have : (x + y + c) / B < 2 := Int.ediv_lt_of_lt_mul (by omega) (by omega)
  omega
/-- a difference's next digit -/
theorem minus_step {B : Int} (a b out : List Int) (i : Nat) (c v v' c' : Int) (hl : out.length = i) (hv : v = a[i]?.getD 0 - b[i]?.getD 0 - c) (hv' : v' = v + B * c')
    (h : dv B out - B ^ i * c = dv B (a.take i) - dv B (b.take i)) : dv B (out ++ [v']) - B ^ (i + 1) * c' = dv B (a.take (i + 1)) - dv B (b.take (i + 1)) := by
  rw [dv_snoc, hl, dv_take, dv_take, Int.pow_succ, Int.mul_assoc, hv', hv]
  simp only [Int.mul_add, Int.mul_sub] at *
  omega
theorem minus_end {B : Int} (hB : 1 < B) (out : List Int) (c x : Int) (hd : Dig B out) (hc : c = 0 ∨ c = 1) (hx : 0 ≤ x) (h : dv B out - B ^ out.length * c = x) : dv B out = x := by
  rcases hc with rfl | rfl
  · simpa using h
  · have := dv_lt (show 0 < B by omega) hd
    omega
/-- a product's next digit -/
theorem mul_step {B : Int} (b out : List Int) (i k : Nat) (S x c v : Int) (hk : i + k < out.length) (hv : v = out[i + k]?.getD 0 + x * b[k]?.getD 0 + c)
    (h : dv B out + B ^ (i + k) * c = S + B ^ i * (x * dv B (b.take k))) : dv B (out.set (i + k) (v % B)) + B ^ (i + (k + 1)) * (v / B) = S + B ^ i * (x * dv B (b.take (k + 1))) := by
  have h1 := Int.mul_ediv_add_emod v B
  rw [dv_set B out (i + k) _ hk, dv_take, ← Nat.add_assoc, Int.pow_succ]
  have e : B ^ (i + k) = B ^ i * B ^ k := Int.pow_add ..
  rw [e] at h ⊢
  grind
theorem mul_bd {B x y o c : Int} (hB : 1 < B) (hx : 0 ≤ x ∧ x < B) (hy : 0 ≤ y ∧ y < B) (ho : 0 ≤ o ∧ o < B) (hc : 0 ≤ c ∧ c < B) : 0 ≤ o + x * y + c ∧ o + x * y + c < B * B ∧ 0 ≤ (o + x * y + c) / B ∧ (o + x * y + c) / B < B := by
  have h1 : 0 ≤ x * y := Int.mul_nonneg hx.1 hy.1
  have h2 : x * y ≤ (B - 1) * (B - 1) := Int.mul_le_mul (by omega) (by omega) hy.1 (by omega)
  have h3 : (B - 1) * (B - 1) = B * B - B - B + 1 := by grind
  have h4 : o + x * y + c < B * B := by omega
  exact ⟨by omega, h4, Int.ediv_nonneg (by omega) (by omega), Int.ediv_lt_of_lt_mul (by omega) h4⟩
/-- a product's row ends: its carry goes where nothing was -/
theorem mul_row {B : Int} (b out : List Int) (i : Nat) (S x c : Int) (hk : i + b.length < out.length) (h0 : out[i + b.length]?.getD 0 = 0)
    (h : dv B out + B ^ (i + b.length) * c = S + B ^ i * (x * dv B (b.take b.length))) : dv B (out.set (i + b.length) c) = S + B ^ i * (x * dv B b) := by
  rw [dv_set B out _ _ hk, h0, Int.sub_zero]
  rw [List.take_of_length_le (Nat.le_refl _)] at h
  omega

/-! ### a quotient's digit -/
theorem quo_le {R b t : Int} (hb : 0 < b) : t ≤ R / b ↔ t * b ≤ R := Int.le_ediv_iff_mul_le hb
/-- the bounds by the first digits: u of the rest, l of the divisor, both over P -/
theorem quo_bd {R b u l P : Int} (hP : 0 < P) (hl : 0 < l) (hu : 0 ≤ u) (h1 : u * P ≤ R) (h2 : R < (u + 1) * P) (h3 : l * P ≤ b) (h4 : b < (l + 1) * P) : u / (l + 1) ≤ R / b ∧ R / b ≤ u / l := by
  have hlP : 0 < l * P := Int.mul_pos hl hP
  have hb : 0 < b := by omega
  have hR : 0 ≤ R := by have := Int.mul_nonneg hu (Int.le_of_lt hP); omega
  constructor
  · rw [quo_le hb]
    have q0 : 0 ≤ u / (l + 1) := Int.ediv_nonneg hu (by omega)
    have q1 : u / (l + 1) * (l + 1) ≤ u := Int.ediv_mul_le u (by omega)
    have q2 := Int.mul_le_mul_of_nonneg_left (Int.le_of_lt h4) q0
    have q3 := Int.mul_le_mul_of_nonneg_right q1 (Int.le_of_lt hP)
    rw [Int.mul_assoc] at q3
    omega
  · rw [quo_le hl]
    have q0 : 0 ≤ R / b := Int.ediv_nonneg hR (by omega)
    have q1 : R / b * b ≤ R := Int.ediv_mul_le R (by omega)
    have q2 := Int.mul_le_mul_of_nonneg_left h3 q0
    rw [← Int.mul_assoc] at q2
    have q3 : R / b * l * P < (u + 1) * P := by omega
    have q4 := Int.lt_of_mul_lt_mul_right q3 (Int.le_of_lt hP)
    omega
/-- a number by its digits from k on -/
theorem top_part {B : Int} (hB : 1 < B) {l : List Int} (h : Dig B l) (k : Nat) (hk : k ≤ l.length) : dv B (l.drop k) * B ^ k ≤ dv B l ∧ dv B l < (dv B (l.drop k) + 1) * B ^ k := by
  have e := dv_split B l k hk
  have h1 := dv_nonneg (show 0 < B by omega) (h.take k)
  have h2 := dv_lt (show 0 < B by omega) (h.take k)
  rw [List.length_take, Nat.min_eq_left hk] at h2
  rw [Int.mul_comm (B ^ k)] at e
  rw [Int.add_mul, Int.one_mul]
  omega
end Go.Proofs.YtgfhniiidejmoaaGreatDoor
namespace Go.Proofs.YtgfhniiidejmoaaGreatDoor
open Go.RowKit
set_option linter.unusedVariables false

def Bits (k : Nat) (z : Int) : Prop := (z.natAbs : Int) < 2 ^ k
theorem Bits.mono {j k : Nat} {z : Int} (h : Bits j z) (hk : j ≤ k) : Bits k z := by
  have := pow_mono' (show (0 : Int) < 2 by omega) hk
  unfold Bits at *; omega
theorem Bits.zero (k : Nat) : Bits k 0 := by
  have := pow_pos' (show (0 : Int) < 2 by omega) k
  unfold Bits; omega
theorem Bits.neg {k : Nat} {z : Int} (h : Bits k z) : Bits k (-z) := by unfold Bits at *; omega
theorem Bits.add {k : Nat} {a b : Int} (ha : Bits k a) (hb : Bits k b) : Bits (k + 1) (a + b) := by
  unfold Bits at *
  rw [Int.pow_succ]
  omega
theorem Bits.mul {j k : Nat} {a b : Int} (ha : Bits j a) (hb : Bits k b) : Bits (j + k) (a * b) := by
  unfold Bits at *
  rw [Int.natAbs_mul, Int.natCast_mul, Int.pow_add]
  have h0 : (0 : Int) ≤ (b.natAbs : Int) := by omega
  rcases Int.lt_or_eq_of_le (show (0 : Int) ≤ (b.natAbs : Int) by omega) with h1 | h1
  · have h2 := Int.mul_lt_mul_of_pos_right ha h1
    have h3 := Int.mul_le_mul_of_nonneg_left (Int.le_of_lt hb) (Int.le_of_lt (pow_pos' (show (0 : Int) < 2 by omega) j))
    omega
  · rw [← h1, Int.mul_zero]
    exact Int.mul_pos (pow_pos' (by omega) j) (pow_pos' (by omega) k)
theorem Bits.natAbs {k : Nat} {z : Int} (h : Bits k z) : Bits k (z.natAbs : Int) := by unfold Bits at *; omega
theorem Bits.i64 {n : Int} (h0 : -9223372036854775808 ≤ n) (h1 : n ≤ 9223372036854775807) : Bits 64 n := by
  unfold Bits
  have : (2 : Int) ^ 64 = 18446744073709551616 := by decide
  omega
/-- digits to the base of 2 to e, or more -/
theorem Bits.len {B z : Int} {e m : Nat} {l : List Int} (hB : 2 ^ e ≤ B) (hB1 : 1 < B) (hd : Dig B l) (ht : Top l) (hv : dv B l = (z.natAbs : Int)) (h : Bits (e * m) z) : l.length ≤ m := by
  rcases Nat.lt_or_ge m l.length with h1 | h1
  · have h2 := top_ge hB1 hd ht (fun e => by rw [e] at h1; simp at h1)
    have h3 := pow_mono' (show (0 : Int) < B by omega) (show m ≤ l.length - 1 by omega)
    have h4 : ∀ j : Nat, (2 : Int) ^ (e * j) ≤ B ^ j := by
      intro j
      induction j with
      | zero => simp
      | succ j ih =>
        rw [Nat.mul_succ, Int.pow_add, Int.pow_succ]
        exact Int.mul_le_mul ih hB (Int.le_of_lt (pow_pos' (by omega) e)) (Int.le_of_lt (pow_pos' (by omega) j))
    have h5 := h4 m
    unfold Bits at h
    omega
  · exact h1
theorem Bits.len4 {z : Int} {m k : Nat} {l : List Int} (hd : Dig 10000 l) (ht : Top l) (hv : dv 10000 l = (z.natAbs : Int)) (h : Bits k z) (hk : k ≤ 13 * m) : l.length ≤ m :=
  Bits.len (e := 13) (by decide) (by omega) hd ht hv (h.mono hk)
end Go.Proofs.YtgfhniiidejmoaaGreatDoor
namespace Go.Proofs.YtgfhniiidejmoaaGreatDoor
open Go.RowKit
set_option linter.unusedVariables false

theorem dv_all_zero (B : Int) : ∀ l : List Int, (∀ j : Nat, l[j]?.getD 0 = 0) → dv B l = 0
  | [], _ => rfl
  | d :: t, h => by
    have h0 := h 0
    have ht := dv_all_zero B t (fun j => by have := h (j + 1); simpa using this)
    simp at h0
    show d + B * dv B t = 0
    rw [ht, h0]; simp
theorem tail_zero {B : Int} (hB : 1 < B) {l : List Int} (h : Dig B l) {k : Nat} (hlt : dv B l < B ^ k) (j : Nat) (hj : k ≤ j) : l[j]?.getD 0 = 0 := by
  rcases Nat.lt_or_ge j l.length with hl | hl
  · have e1 := dv_split B l (j + 1) (by omega)
    have e2 := dv_take B l j
    have h1 := dv_nonneg (show 0 < B by omega) (h.take j)
    have h2 := dv_nonneg (show 0 < B by omega) (h.drop (j + 1))
    have h3 := Int.mul_nonneg (Int.le_of_lt (pow_pos' (show 0 < B by omega) (j + 1))) h2
    have h4 := h.get (show 0 < B by omega) j
    have h5 := pow_mono' (show 0 < B by omega) hj
    have hp := pow_pos' (show 0 < B by omega) j
    rcases Int.lt_or_eq_of_le h4.1 with h6 | h6
    · have h7 := Int.mul_le_mul_of_nonneg_left (show 1 ≤ l[j]?.getD 0 by omega) (Int.le_of_lt hp)
      omega
    · exact h6.symm
  · rw [List.getElem?_eq_none hl]; rfl
theorem lt_of_tail {B : Int} (hB : 1 < B) {l : List Int} (h : Dig B l) {k : Nat} (hz : ∀ j, k ≤ j → l[j]?.getD 0 = 0) : dv B l < B ^ k := by
  rcases Nat.lt_or_ge k l.length with hl | hl
  · have e1 := dv_split B l k (by omega)
    have e2 := dv_all_zero B (l.drop k) (fun j => by rw [List.getElem?_drop]; exact hz _ (by omega))
    rw [e2, Int.mul_zero, Int.add_zero] at e1
    have h2 := dv_lt (show 0 < B by omega) (h.take k)
    rw [List.length_take, Nat.min_eq_left (by omega)] at h2
    omega
  · exact Int.lt_of_lt_of_le (dv_lt (show 0 < B by omega) h) (pow_mono' (show 0 < B by omega) hl)
/-- a number whose digits end at i + p, by its part from i on -/
theorem part_split {B : Int} (hB : 1 < B) {L : List Int} (h : Dig B L) {i p : Nat} (hi : i + p ≤ L.length) (hlt : dv B L < B ^ (i + p)) : dv B L = dv B (L.take i) + B ^ i * dv B ((L.drop i).take p) := by
  have e1 := dv_split B L (i + p) hi
  have e2 := dv_all_zero B (L.drop (i + p)) (fun j => by rw [List.getElem?_drop]; exact tail_zero hB h hlt _ (by omega))
  rw [e2, Int.mul_zero, Int.add_zero, List.take_add, dv_app, List.length_take, Nat.min_eq_left (by omega)] at e1
  exact e1
/-- the state of a long division of X by D at place k: rest L, quotient K -/
def DivS (B X D : Int) (k : Nat) (L K : List Int) : Prop :=
  Dig B L ∧ Dig B K ∧ X = D * (B ^ k * dv B (K.drop k)) + dv B L ∧ dv B L < D * B ^ k
theorem DivS.bound {B X D : Int} {i l : Nat} {L K : List Int} (h : DivS B X D (i + 1) L K) (hB : 1 < B) (hD : D < B ^ l) : dv B L < B ^ (i + (l + 1)) := by
  have h4 := h.2.2.2
  have hp := pow_pos' (show 0 < B by omega) (i + 1)
  have := Int.mul_le_mul_of_nonneg_right (Int.le_of_lt hD) (Int.le_of_lt hp)
  rw [← Int.pow_add, show l + (i + 1) = i + (l + 1) by omega] at this
  omega
theorem DivS.part {B X D : Int} {i : Nat} {L K : List Int} {low P : Int} (h : DivS B X D (i + 1) L K) (hB : 1 < B) (hl : 0 ≤ low) (e : dv B L = low + B ^ i * P) : P < D * B := by
  have h4 := h.2.2.2
  have hp := pow_pos' (show 0 < B by omega) i
  have h5 : B ^ i * P < B ^ i * (D * B) := by
    have : B ^ i * (D * B) = D * B ^ (i + 1) := by rw [Int.pow_succ]; grind
    omega
  exact Int.lt_of_mul_lt_mul_left h5 (Int.le_of_lt hp)
theorem DivS.done {B X D : Int} {i : Nat} {L L' K : List Int} {low P G : Int} (h : DivS B X D (i + 1) L K) (hB : 1 < B) (hD : 0 < D) (hi : i < K.length) (hl : 0 ≤ low) (hl2 : low < B ^ i) (e : dv B L = low + B ^ i * P) (hG : P / D ≤ G) (hG0 : 0 ≤ G) (hG1 : G < B) (hL : Dig B L') (e2 : dv B L' = dv B L - B ^ i * (G * D)) : DivS B X D i L' (K.set i G) := by
  have hp := pow_pos' (show 0 < B by omega) i
  have hn := dv_nonneg (show 0 < B by omega) hL
  have e3 : dv B L' = low + B ^ i * (P - G * D) := by rw [e2, e]; grind
  have h1 : 0 ≤ P - G * D := by
    rcases Int.lt_or_le (P - G * D) 0 with h5 | h5
    · have := Int.mul_le_mul_of_nonneg_left (show P - G * D ≤ -1 by omega) (Int.le_of_lt hp)
      omega
    · exact h5
  have h2 : G ≤ P / D := (quo_le hD).2 (by omega)
  obtain rfl : G = P / D := by omega
  have h3 : P - P / D * D < D := by
    have := Int.emod_lt_of_pos P hD
    have h6 := Int.emod_def P D
    rw [Int.mul_comm] at h6
    omega
  refine ⟨hL, h.2.1.set _ ⟨hG0, hG1⟩, ?_, ?_⟩
  · have e4 : (K.set i (P / D)).drop i = (P / D) :: K.drop (i + 1) := by
      rw [List.drop_eq_getElem_cons (by rw [List.length_set]; exact hi), List.getElem_set_self, List.drop_set_of_lt (by omega)]
    rw [e4, h.2.2.1, e2, Int.pow_succ]
    show _ = D * (B ^ i * (P / D + B * dv B (K.drop (i + 1)))) + _
    grind
  · have := Int.mul_le_mul_of_nonneg_left (show P - P / D * D ≤ D - 1 by omega) (Int.le_of_lt hp)
    rw [e3, Int.mul_comm D]
    have e5 : B ^ i * (D - 1) = B ^ i * D - B ^ i := by grind
    omega
/-- too much taken away -/
theorem over_gt {B D low P G : Int} {i l : Nat} {L L' : List Int} (hB : 1 < B) (hD : 0 < D) (hl : 0 ≤ low) (e : dv B L = low + B ^ i * P) (hL : Dig B L') (hz : ∀ j, i + (l + 1) ≤ j → L'[j]?.getD 0 = 0) (e2 : dv B L' = dv B L - B ^ i * (G * D) + B ^ (i + (l + 1))) : P / D < G := by
  rcases Int.lt_or_le (P / D) G with h | h
  · exact h
  · have h1 := (quo_le hD).1 h
    have hlt := lt_of_tail hB hL hz
    have hp := pow_pos' (show 0 < B by omega) i
    have := Int.mul_nonneg (Int.le_of_lt hp) (show 0 ≤ P - G * D by omega)
    have e3 : dv B L - B ^ i * (G * D) = low + B ^ i * (P - G * D) := by rw [e]; grind
    omega
/-- what is paid back: once too much or done -/
theorem paid_back {B D G cy : Int} {i l : Nat} {L L' L'' : List Int} (hB : 1 < B) (hG : 1 ≤ G) (hD : 0 < D) (hb : dv B L < B ^ (i + (l + 1))) (e : dv B L' = dv B L - B ^ i * (G * D) + B ^ (i + (l + 1))) (hL : Dig B L'') (e2 : dv B L'' + B ^ (i + (l + 1)) * cy = dv B L' + B ^ i * D) (c0 : 0 ≤ cy) :
    (cy ≠ 0 → dv B L'' = dv B L - B ^ i * ((G - 1) * D)) ∧ (cy = 0 → dv B L'' = dv B L - B ^ i * ((G - 1) * D) + B ^ (i + (l + 1))) := by
  have e3 : B ^ i * ((G - 1) * D) = B ^ i * (G * D) - B ^ i * D := by grind
  have hp := pow_pos' (show 0 < B by omega) i
  have hq := pow_pos' (show 0 < B by omega) (i + (l + 1))
  have hn := dv_nonneg (show 0 < B by omega) hL
  have h0 : 0 ≤ B ^ i * ((G - 1) * D) := Int.mul_nonneg (Int.le_of_lt hp) (Int.mul_nonneg (by omega) (Int.le_of_lt hD))
  constructor
  · intro hc
    obtain rfl : cy = 1 := by
      rcases Int.lt_or_le cy 2 with h | h
      · omega
      · have := Int.mul_le_mul_of_nonneg_left h (Int.le_of_lt hq)
        omega
    omega
  · rintro rfl; omega
/-- the guess by the highest digits is never too small -/
theorem guess_ge {B D H d P : Int} {l : Nat} {T ds : List Int} (hB : 1 < B) (hT : Dig B T) (hds : Dig B ds) (hTl : T.length = l + 1) (hdl : ds.length = l) (hl : 0 < l) (hH : H = T[l - 1]?.getD 0 + B * T[l]?.getD 0) (hd : d = ds[l - 1]?.getD 0) (hd0 : 0 < d) (hP : dv B T = P) (hD : dv B ds = D) : P / D ≤ H / d := by
  have e1 : dv B (T.drop (l - 1)) = H := by
    rw [List.drop_eq_getElem_cons (by omega), show l - 1 + 1 = l by omega, List.drop_eq_getElem_cons (by omega), List.drop_of_length_le (by omega)]
    show T[l - 1] + B * (T[l] + B * 0) = H
    rw [hH, List.getElem?_eq_getElem (by omega), List.getElem?_eq_getElem (by omega)]
    simp
  have e2 : dv B (ds.drop (l - 1)) = d := by
    rw [List.drop_eq_getElem_cons (by omega), show l - 1 + 1 = l by omega, List.drop_of_length_le (by omega)]
    show ds[l - 1] + B * 0 = d
    rw [hd, List.getElem?_eq_getElem (by omega)]
    simp
  have h1 := top_part hB hT (l - 1) (by omega)
  have h2 := top_part hB hds (l - 1) (by omega)
  rw [e1, hP] at h1
  rw [e2, hD] at h2
  have h3 := dv_nonneg (show 0 < B by omega) (hT.drop (l - 1))
  rw [e1] at h3
  exact (quo_bd (pow_pos' (show 0 < B by omega) (l - 1)) hd0 h3 h1.1 h1.2 h2.1 h2.2).2
theorem quo_small {B D P : Int} (hD : 0 < D) (h : P < D * B) : P / D ≤ B - 1 := by
  have : P / D < B := Int.ediv_lt_of_lt_mul hD (by rw [Int.mul_comm]; exact h)
  omega
/-- the end of a division of x F by y F -/
theorem div_end {x y F Q R : Int} (hy : 0 < y) (hF : 0 < F) (h : x * F = y * F * Q + R) (h0 : 0 ≤ R) (h1 : R < y * F) : Q = x / y ∧ R = x % y * F ∧ R / F = x % y := by
  have e1 : R = (x - y * Q) * F := by grind
  have h2 : 0 ≤ x - y * Q := by
    rcases Int.lt_or_le (x - y * Q) 0 with h | h
    · have := Int.mul_le_mul_of_nonneg_right (show x - y * Q ≤ -1 by omega) (Int.le_of_lt hF)
      omega
    · exact h
  have h3 : x - y * Q < y := by
    rw [e1] at h1
    exact Int.lt_of_mul_lt_mul_right h1 (Int.le_of_lt hF)
  have e2 : x / y = Q ∧ x % y = x - y * Q := (Int.ediv_emod_unique hy).2 ⟨by omega, h2, h3⟩
  refine ⟨e2.1.symm, by rw [e2.2, e1], ?_⟩
  rw [e1, Int.mul_ediv_cancel _ (by omega), e2.2]
end Go.Proofs.YtgfhniiidejmoaaGreatDoor
namespace Go.Proofs.YtgfhniiidejmoaaGreatDoor
open Go.RowKit
set_option linter.unusedVariables false

def dg (b : UInt8) : Int := (b.toNat : Int) - 48
def isD (b : UInt8) : Bool := decide (48 ≤ (b.toNat : Int) ∧ (b.toNat : Int) ≤ 57)
def chr (d : Int) : UInt8 := UInt8.ofNat (48 + d.toNat)
def dl (l : List UInt8) : List Int := l.reverse.map dg
/-- the number that decimal digits stand for, the highest first -/
def valT (l : List UInt8) : Int := dv 10 (dl l)
def dec10 (x : Int) : List UInt8 := (digs 10 x).reverse.map chr
/-- the decimal text of an integer -/
def decT (z : Int) : List UInt8 := if z = 0 then [48] else if z < 0 then 45 :: dec10 (-z) else dec10 z

theorem isD_iff (b : UInt8) : isD b = true ↔ 48 ≤ b.toNat ∧ b.toNat ≤ 57 := by unfold isD; rw [decide_eq_true_iff]; omega
theorem dg_bd {b : UInt8} (h : isD b = true) : 0 ≤ dg b ∧ dg b < 10 := by
  rw [isD_iff] at h; unfold dg; omega
theorem chr_toNat {d : Int} (h : 0 ≤ d ∧ d < 10) : (chr d).toNat = 48 + d.toNat := by
  unfold chr
  rw [UInt8.toNat_ofNat']
  omega
theorem dg_chr {d : Int} (h : 0 ≤ d ∧ d < 10) : dg (chr d) = d ∧ isD (chr d) = true := by
  have e := chr_toNat h
  rw [isD_iff]
  unfold dg
  rw [e]; omega
theorem dl_app (a b : List UInt8) : dl (a ++ b) = dl b ++ dl a := by simp [dl]
theorem dl_len (a : List UInt8) : (dl a).length = a.length := by simp [dl]
theorem dl_dig {l : List UInt8} (h : ∀ b ∈ l, isD b = true) : Dig 10 (dl l) := fun x hx => by
  unfold dl at hx
  obtain ⟨b, hb, rfl⟩ := List.mem_map.1 hx
  exact dg_bd (h b (List.mem_reverse.1 hb))
theorem valT_app (a b : List UInt8) : valT (a ++ b) = valT b + 10 ^ b.length * valT a := by
  unfold valT; rw [dl_app, dv_app, dl_len]
theorem valT_nil : valT [] = 0 := rfl
theorem valT_snoc (a : List UInt8) (b : UInt8) : valT (a ++ [b]) = 10 * valT a + dg b := by
  rw [valT_app]; simp [valT, dl, dv]; omega
theorem valT_bd {l : List UInt8} (h : ∀ b ∈ l, isD b = true) : 0 ≤ valT l ∧ valT l < 10 ^ l.length := by
  have h1 := dv_nonneg (show (0 : Int) < 10 by omega) (dl_dig h)
  have h2 := dv_lt (show (0 : Int) < 10 by omega) (dl_dig h)
  rw [dl_len] at h2
  exact ⟨h1, h2⟩
theorem map_chr {l : List Int} (h : Dig 10 l) : (l.map chr).map dg = l := by
  rw [List.map_map]
  conv => rhs; rw [← List.map_id l]
  exact List.map_congr_left fun d hd => (dg_chr (h d hd)).1
theorem dec_all (x : Int) : ∀ b ∈ dec10 x, isD b = true := fun b hb => by
  unfold dec10 at hb
  obtain ⟨d, hd, rfl⟩ := List.mem_map.1 hb
  exact (dg_chr (digs_dig (by omega) x d (List.mem_reverse.1 hd))).2
theorem dec_dl (x : Int) : dl (dec10 x) = digs 10 x := by
  unfold dl dec10
  rw [← List.map_reverse, List.reverse_reverse]
  exact map_chr (digs_dig (by omega) x)
theorem val_dec {x : Int} (hx : 0 ≤ x) : valT (dec10 x) = x := by
  unfold valT; rw [dec_dl, dv_digs (by omega) hx]
theorem dec_len (x : Int) : (dec10 x).length = (digs 10 x).length := by simp [dec10]
theorem dec_head {x : Int} (hx : 0 < x) : (dec10 x).head? ≠ some 48 := by
  have ht := digs_top (show (1 : Int) < 10 by omega) x
  unfold Top at ht
  unfold dec10
  rw [List.head?_map, List.head?_reverse]
  intro e
  cases hl : (digs 10 x).getLast? with
  | none => rw [hl] at e; cases e
  | some d =>
    rw [hl] at e ht
    simp at e
    have hd := digs_dig (show (1 : Int) < 10 by omega) x d (List.mem_of_getLast? hl)
    have h1 := dg_chr hd
    rw [e] at h1
    exact ht (by rw [← h1.1]; rfl)
theorem dec_ne {x : Int} (hx : 0 < x) : dec10 x ≠ [] := by
  unfold dec10
  rw [digs_pos (by omega) hx]
  simp
/-- one digit more below -/
theorem dec_step {x d : Int} (hx : 0 < x) (hd : 0 ≤ d ∧ d < 10) : dec10 (10 * x + d) = dec10 x ++ [chr d] := by
  have e1 : (10 * x + d) % 10 = d := by omega
  have e2 : (10 * x + d) / 10 = x := by omega
  unfold dec10
  rw [digs_pos (by omega) (by omega), e1, e2]
  simp
theorem dec_one {d : Int} (hd : 0 < d ∧ d < 10) : dec10 d = [chr d] := by
  have e1 : d % 10 = d := by omega
  have e2 : d / 10 = 0 := by omega
  unfold dec10
  rw [digs_pos (by omega) (by omega), e1, e2, digs_neg (by omega)]
  rfl
/-- four digits, zeros in front -/
def pad4 (d : Int) : List UInt8 := [chr (d / 1000), chr (d / 100 % 10), chr (d / 10 % 10), chr (d % 10)]
theorem dec_step4 {x d : Int} (hx : 0 < x) (hd : 0 ≤ d ∧ d < 10000) : dec10 (10000 * x + d) = dec10 x ++ pad4 d := by
  have e : 10000 * x + d = 10 * (10 * (10 * (10 * x + d / 1000) + d / 100 % 10) + d / 10 % 10) + d % 10 := by omega
  rw [e, dec_step (by omega) (by omega), dec_step (by omega) (by omega), dec_step (by omega) (by omega), dec_step hx (by omega)]
  simp [pad4]
theorem pad4_of {d : Int} (hd : 0 ≤ d ∧ d < 10000) : (decT d).length ≤ 4 ∧ List.replicate (4 - (decT d).length) 48 ++ decT d = pad4 d := by
  have c0 : chr 0 = 48 := rfl
  unfold decT pad4
  by_cases h0 : d = 0
  · subst h0; rw [if_pos rfl]; exact ⟨by simp, by rfl⟩
  rw [if_neg h0, if_neg (by omega)]
  by_cases h1 : d < 10
  · rw [dec_one (by omega), show d / 1000 = 0 by omega, show d / 100 % 10 = 0 by omega, show d / 10 % 10 = 0 by omega, show d % 10 = d by omega, c0]
    exact ⟨by simp, by simp [List.replicate]⟩
  by_cases h2 : d < 100
  · have e : d = 10 * (d / 10 % 10) + d % 10 := by omega
    rw [show d / 1000 = 0 by omega, show d / 100 % 10 = 0 by omega, c0]
    rw [show dec10 d = [chr (d / 10 % 10), chr (d % 10)] by
      conv => lhs; rw [e]
      rw [dec_step (by omega) (by omega), dec_one (by omega)]; rfl]
    exact ⟨by simp, by simp [List.replicate]⟩
  by_cases h3 : d < 1000
  · have e : d = 10 * (10 * (d / 100 % 10) + d / 10 % 10) + d % 10 := by omega
    rw [show d / 1000 = 0 by omega, c0]
    rw [show dec10 d = [chr (d / 100 % 10), chr (d / 10 % 10), chr (d % 10)] by
      conv => lhs; rw [e]
      rw [dec_step (by omega) (by omega), dec_step (by omega) (by omega), dec_one (by omega)]; rfl]
    exact ⟨by simp, by simp⟩
  · have e : d = 10 * (10 * (10 * (d / 1000) + d / 100 % 10) + d / 10 % 10) + d % 10 := by omega
    rw [show dec10 d = [chr (d / 1000), chr (d / 100 % 10), chr (d / 10 % 10), chr (d % 10)] by
      conv => lhs; rw [e]
      rw [dec_step (by omega) (by omega), dec_step (by omega) (by omega), dec_step (by omega) (by omega), dec_one (by omega)]; rfl]
    exact ⟨by simp, by simp⟩

/-! ### what Parse is asked for -/
def negT (l : List UInt8) : Bool := l.head? == some 45
def dsT (l : List UInt8) : List UInt8 := if negT l then l.tail else l
def canT (l : List UInt8) : Bool := !l.isEmpty && (decide (l.length ≤ 1) || !(l.head? == some 48)) && l.all isD
def okT (l : List UInt8) : Bool := canT (dsT l) && !(negT l && decide (dsT l = [48]))
def lim : Int := 2 ^ 16384
def signI (neg : Bool) (x : Int) : Int := if neg then -x else x
/-- the integer and the error: 0 none, 4 limit, 2 form -/
def parseT (l : List UInt8) : Int × Nat :=
  if 5000 < l.length then (0, 4) else if okT l = false then (0, 2) else if lim ≤ valT (dsT l) then (0, 4) else (signI (negT l) (valT (dsT l)), 0)
theorem dec_dsT {x : Int} (hx : 0 < x) : negT (dec10 x) = false := by
  unfold negT
  cases hl : dec10 x with
  | nil => rfl
  | cons b t =>
    have hb := dec_all x b (by rw [hl]; exact List.mem_cons_self ..)
    rw [isD_iff] at hb
    simp
    intro e
    rw [e] at hb
    simp at hb
theorem can_dec {x : Int} (hx : 0 < x) : canT (dec10 x) = true := by
  have h1 := dec_ne hx
  have h2 := dec_head hx
  have h3 := dec_all x
  unfold canT
  simp only [Bool.and_eq_true, List.all_eq_true, Bool.or_eq_true, decide_eq_true_iff, Bool.not_eq_true', List.isEmpty_eq_false_iff]
  exact ⟨⟨h1, .inr (by simpa using h2)⟩, h3⟩
/-- the text of an integer in range is read back -/
theorem parse_dec {z : Int} (hz : z.natAbs < lim) (hl : (decT z).length ≤ 5000) : parseT (decT z) = (z, 0) := by
  unfold parseT
  rw [if_neg (by omega)]
  rcases Int.lt_trichotomy z 0 with h | rfl | h
  · have e : decT z = 45 :: dec10 (-z) := by unfold decT; rw [if_neg (by omega), if_pos h]
    have en : negT (45 :: dec10 (-z)) = true := by simp [negT]
    have ed : dsT (45 :: dec10 (-z)) = dec10 (-z) := by unfold dsT; rw [en]; rfl
    rw [e]
    have ok : okT (45 :: dec10 (-z)) = true := by
      unfold okT
      rw [ed, can_dec (by omega), en]
      simp
      intro e0
      exact dec_head (x := -z) (by omega) (by rw [e0]; rfl)
    rw [if_neg (by rw [ok]; simp), ed, val_dec (by omega), en, if_neg (by omega), signI, if_pos rfl]
    simp
  · have hl : (0 : Int) < lim := by unfold lim; exact pow_pos' (by omega) _
    have e : decT 0 = [48] := rfl
    rw [e, if_neg (by decide)]
    have e2 : valT (dsT [48]) = 0 := by decide
    rw [e2, if_neg (by omega)]
    rfl
  · have e : decT z = dec10 z := by unfold decT; rw [if_neg (by omega), if_neg (by omega)]
    have en := dec_dsT h
    have ed : dsT (dec10 z) = dec10 z := by unfold dsT; rw [en]; rfl
    rw [e]
    have ok : okT (dec10 z) = true := by
      unfold okT
      rw [ed, can_dec (by omega), en]
      simp
    rw [if_neg (by rw [ok]; simp), ed, val_dec (by omega), en, if_neg (by omega), signI]
    simp
end Go.Proofs.YtgfhniiidejmoaaGreatDoor
namespace Go.Proofs.YtgfhniiidejmoaaGreatDoor
open Go.RowKit
set_option linter.unusedVariables false

theorem cast_pow (a k : Nat) : ((a ^ k : Nat) : Int) = (a : Int) ^ k := by
  induction k with
  | zero => rfl
  | succ k ih => rw [Nat.pow_succ, Int.natCast_mul, ih, Int.pow_succ]
theorem nat_4933 : (2 : Nat) ^ 16384 ≤ 10 ^ 4990 := by decide +kernel
theorem pow_le_cast (a k b j : Nat) (A B : Int) (hA : A = (a : Int)) (hB : B = (b : Int)) (h : a ^ k ≤ b ^ j) : A ^ k ≤ B ^ j := by
  rw [hA, hB, ← cast_pow, ← cast_pow]
  exact Int.ofNat_le.2 h
theorem lim_4990 : lim ≤ (10 : Int) ^ 4990 := pow_le_cast 2 16384 10 4990 2 10 rfl rfl nat_4933
theorem dec_short {z : Int} (h : z.natAbs < lim) : (decT z).length ≤ 4995 := by
  have h1 := lim_4990
  have key : ∀ x : Int, 0 ≤ x → x < lim → (dec10 x).length ≤ 4990 := fun x h0 hx => by
    rw [dec_len]
    exact digs_len (by omega) h0 (by omega)
  unfold decT
  split
  · simp
  · split
    · rw [List.length_cons]
      have := key (-z) (by omega) (by omega)
      omega
    · have := key z (by omega) (by omega)
      omega
theorem read_back {z : Int} (h : z.natAbs < lim) : parseT (decT z) = (z, 0) := parse_dec h (Nat.le_trans (dec_short h) (by omega))
end Go.Proofs.YtgfhniiidejmoaaGreatDoor
namespace Go.Proofs.YtgfhniiidejmoaaGreatDoor
open Go.RowKit
set_option linter.unusedVariables false

theorem parse_long {l : List UInt8} (h : 5000 < l.length) : parseT l = (0, 4) := by unfold parseT; rw [if_pos h]
theorem ds_len (l : List UInt8) : (dsT l).length ≤ l.length := by
  unfold dsT
  split
  · simp
  · omega
end Go.Proofs.YtgfhniiidejmoaaGreatDoor
namespace Go.Proofs.YtgfhniiidejmoaaGreatDoor
open Go.RowKit
set_option linter.unusedVariables false

end Go.Proofs.YtgfhniiidejmoaaGreatDoor
