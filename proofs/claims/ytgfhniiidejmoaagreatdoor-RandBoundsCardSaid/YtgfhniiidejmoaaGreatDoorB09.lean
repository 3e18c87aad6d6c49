/- Layer 5, plain mathematics: the first number that fits; numbers made of words; a permutation by rounds; walking a permutation until a number is small enough. -/
namespace Go.Proofs.YtgfhniiidejmoaaGreatDoor
set_option linter.unusedVariables false

/-! ### the first of 64 tries that fits -/
def IsFirst (p : Nat → Bool) (j : Nat) : Prop := j ≤ 63 ∧ (j = 63 ∨ p j = true) ∧ ∀ i, i < j → p i = false
def firstFrom (p : Nat → Bool) : Nat → Nat → Nat
  | 0, j => j
  | f + 1, j => if p j then j else firstFrom p f (j + 1)
def firstJ (p : Nat → Bool) : Nat := firstFrom p 63 0
theorem firstFrom_of (p : Nat → Bool) (j : Nat) (h : IsFirst p j) : ∀ f a, a + f = 63 → a ≤ j → firstFrom p f a = j := by
  intro f
  induction f with
  | zero => intro a ha hj; have := h.1; simp only [firstFrom]; omega
  | succ f ih =>
    intro a ha hj
    simp only [firstFrom]
    by_cases e : a = j
    · subst e
      rcases h.2.1 with h1 | h1
      · omega
      · rw [if_pos h1]
    · have h1 := h.2.2 a (by omega)
      rw [if_neg (by simp [h1])]
      exact ih _ (by omega) (by omega)
theorem firstJ_of {p : Nat → Bool} {j : Nat} (h : IsFirst p j) : firstJ p = j := firstFrom_of p j h 63 0 (by omega) (by omega)
theorem firstJ_is (p : Nat → Bool) : IsFirst p (firstJ p) := by
  have key : ∀ f a, a + f = 63 → (∀ i, i < a → p i = false) → IsFirst p (firstFrom p f a) := by
    intro f
    induction f with
    | zero => intro a ha hp; simp only [firstFrom]; exact ⟨by omega, .inl (by omega), hp⟩
    | succ f ih =>
      intro a ha hp
      simp only [firstFrom]
      by_cases h1 : p a = true
      · rw [if_pos h1]; exact ⟨by omega, .inr h1, hp⟩
      · rw [if_neg h1]
        refine ih _ (by omega) fun i hi => ?_
        by_cases e : i = a
        · subst e; simpa using h1
        · exact hp i (by omega)
  exact key 63 0 (by omega) (fun i hi => by omega)

/-! ### numbers of k words -/
def numW (f : Nat → Int) : Nat → Nat → Int
  | _, 0 => 0
  | a, k + 1 => numW f (a + 1) k * 18446744073709551616 + f a
theorem numW_step (f : Nat → Int) (a k : Nat) (h : 0 < k) : numW f a k = numW f (a + 1) (k - 1) * 18446744073709551616 + f a := by
  obtain ⟨k, rfl⟩ : ∃ j, k = j + 1 := ⟨k - 1, by omega⟩
  rfl
theorem numW_bd (f : Nat → Int) (hf : ∀ j, 0 ≤ f j ∧ f j ≤ 18446744073709551615) : ∀ k a, 0 ≤ numW f a k ∧ numW f a k < 2 ^ (64 * k) := by
  intro k
  induction k with
  | zero => intro a; simp [numW]
  | succ k ih =>
    intro a
    obtain ⟨h1, h2⟩ := ih (a + 1)
    obtain ⟨h3, h4⟩ := hf a
    have e : (2 : Int) ^ (64 * (k + 1)) = 2 ^ (64 * k) * 18446744073709551616 := by rw [show 64 * (k + 1) = 64 * k + 64 from by omega, Int.pow_add]; rfl
    simp only [numW]
    rw [e]
    omega

/-! ### pigeonhole -/
theorem pigeon : ∀ (m : Nat) (g : Nat → Nat), (∀ i, i ≤ m → g i < m) → ∃ i j, i < j ∧ j ≤ m ∧ g i = g j := by
  intro m
  induction m with
  | zero => intro g h; exact absurd (h 0 (Nat.le_refl _)) (by omega)
  | succ m ih =>
    intro g h
    by_cases hx : ∃ i, i ≤ m ∧ g i = g (m + 1)
    · obtain ⟨i, hi, e⟩ := hx
      exact ⟨i, m + 1, by omega, Nat.le_refl _, e⟩
    · have hn : ∀ i, i ≤ m → g i ≠ g (m + 1) := fun i hi e => hx ⟨i, hi, e⟩
      obtain ⟨i, j, hij, hj, e⟩ := ih (fun i => if g i = m then g (m + 1) else g i) (fun i hi => by
        have h1 := h i (by omega); have h2 := h (m + 1) (Nat.le_refl _); have h3 := hn i hi
        show (if g i = m then g (m + 1) else g i) < m
        split <;> omega)
      refine ⟨i, j, hij, by omega, ?_⟩
      have h1 := hn i (by omega); have h2 := hn j hj
      replace e : (if g i = m then g (m + 1) else g i) = (if g j = m then g (m + 1) else g j) := e
      split at e <;> split at e <;> omega

/-! ### walking -/
def iter (f : Nat → Nat) : Nat → Nat → Nat
  | 0, x => x
  | t + 1, x => f (iter f t x)
theorem iter_succ (f : Nat → Nat) (t x : Nat) : iter f (t + 1) x = f (iter f t x) := rfl
structure Perm (m : Nat) (f g : Nat → Nat) : Prop where
  f_lt : ∀ x, x < m → f x < m
  g_lt : ∀ x, x < m → g x < m
  gf : ∀ x, x < m → g (f x) = x
  fg : ∀ x, x < m → f (g x) = x
theorem Perm.symm {m : Nat} {f g : Nat → Nat} (h : Perm m f g) : Perm m g f := ⟨h.g_lt, h.f_lt, h.fg, h.gf⟩
theorem Perm.iter_lt {m : Nat} {f g : Nat → Nat} (h : Perm m f g) (x : Nat) (hx : x < m) : ∀ t, iter f t x < m := by
  intro t
  induction t with
  | zero => exact hx
  | succ t ih => exact h.f_lt _ ih
theorem Perm.back {m : Nat} {f g : Nat → Nat} (h : Perm m f g) (x : Nat) (hx : x < m) (t : Nat) : ∀ i, i ≤ t → iter g i (iter f t x) = iter f (t - i) x := by
  intro i
  induction i with
  | zero => intro _; rfl
  | succ i ih =>
    intro hi
    rw [iter_succ, ih (by omega), show t - i = (t - (i + 1)) + 1 from by omega, iter_succ]
    exact h.gf _ (h.iter_lt x hx _)
theorem Perm.returns {m : Nat} {f g : Nat → Nat} (h : Perm m f g) (x : Nat) (hx : x < m) : ∃ t, 1 ≤ t ∧ iter f t x = x := by
  obtain ⟨i, j, hij, hj, e⟩ := pigeon m (fun i => iter f i x) (fun i _ => h.iter_lt x hx i)
  refine ⟨j - i, by omega, ?_⟩
  have h1 := h.back x hx i i (Nat.le_refl _)
  have h2 := h.back x hx j i (by omega)
  replace e : iter f i x = iter f j x := e
  rw [e, h2] at h1
  rw [h1, Nat.sub_self]; rfl
/-- from k on, y is the first number below n that is come to, in t steps -/
def Hit (f : Nat → Nat) (n k y t : Nat) : Prop := 1 ≤ t ∧ iter f t k = y ∧ y < n ∧ ∀ i, 1 ≤ i → i < t → n ≤ iter f i k
theorem Perm.hits {m : Nat} {f g : Nat → Nat} (h : Perm m f g) (n k : Nat) (hk : k < n) (hn : n ≤ m) : ∃ y t, Hit f n k y t := by
  have key : ∀ b t, t ≤ b → 1 ≤ t → iter f t k < n → ∃ y t, Hit f n k y t := by
    intro b
    induction b with
    | zero => intro t h1 h2; omega
    | succ b ih =>
      intro t ht h1 hlt
      by_cases hx : ∃ i, 1 ≤ i ∧ i < t ∧ iter f i k < n
      · obtain ⟨i, hi, hit, hin⟩ := hx
        exact ih i (by omega) hi hin
      · exact ⟨_, t, h1, rfl, hlt, fun i hi hit => Nat.le_of_not_lt fun hl => hx ⟨i, hi, hit, hl⟩⟩
  obtain ⟨t, h1, e⟩ := h.returns k (by omega)
  exact key t t (Nat.le_refl _) h1 (by rw [e]; exact hk)
/-! ### four rounds -/
def oneF (F : Nat → Nat → Nat) (r : Nat) (p : Nat × Nat) : Nat × Nat := (p.2, p.1 ^^^ F r p.2)
def oneB (F : Nat → Nat → Nat) (r : Nat) (p : Nat × Nat) : Nat × Nat := (p.2 ^^^ F r p.1, p.1)
theorem oneBF (F : Nat → Nat → Nat) (r : Nat) (p : Nat × Nat) : oneB F r (oneF F r p) = p := by
  simp only [oneF, oneB, Nat.xor_assoc, Nat.xor_self, Nat.xor_zero]
theorem oneFB (F : Nat → Nat → Nat) (r : Nat) (p : Nat × Nat) : oneF F r (oneB F r p) = p := by
  simp only [oneF, oneB, Nat.xor_assoc, Nat.xor_self, Nat.xor_zero]
def InS (s : Nat) (p : Nat × Nat) : Prop := p.1 < s ∧ p.2 < s
theorem oneF_in {F : Nat → Nat → Nat} {h : Nat} (hF : ∀ r x, F r x < 2 ^ h) (r : Nat) (p : Nat × Nat) (hp : InS (2 ^ h) p) : InS (2 ^ h) (oneF F r p) := ⟨hp.2, Nat.xor_lt_two_pow hp.1 (hF _ _)⟩
theorem oneB_in {F : Nat → Nat → Nat} {h : Nat} (hF : ∀ r x, F r x < 2 ^ h) (r : Nat) (p : Nat × Nat) (hp : InS (2 ^ h) p) : InS (2 ^ h) (oneB F r p) := ⟨Nat.xor_lt_two_pow hp.2 (hF _ _), hp.1⟩
def runF (F : Nat → Nat → Nat) (p : Nat × Nat) : Nat → Nat × Nat
  | 0 => p
  | r + 1 => oneF F r (runF F p r)
def runB (F : Nat → Nat → Nat) (p : Nat × Nat) : Nat → Nat × Nat
  | 0 => p
  | r + 1 => runB F (oneB F r p) r
theorem runBF (F : Nat → Nat → Nat) : ∀ r p, runB F (runF F p r) r = p := by
  intro r
  induction r with
  | zero => intro p; rfl
  | succ r ih => intro p; simp only [runF, runB, oneBF, ih]
theorem runFB (F : Nat → Nat → Nat) : ∀ r p, runF F (runB F p r) r = p := by
  intro r
  induction r with
  | zero => intro p; rfl
  | succ r ih => intro p; simp only [runF, runB, ih, oneFB]
theorem runF_in {F : Nat → Nat → Nat} {h : Nat} (hF : ∀ r x, F r x < 2 ^ h) (p : Nat × Nat) (hp : InS (2 ^ h) p) : ∀ r, InS (2 ^ h) (runF F p r) := by
  intro r
  induction r with
  | zero => exact hp
  | succ r ih => exact oneF_in hF r _ ih
theorem runB_in {F : Nat → Nat → Nat} {h : Nat} (hF : ∀ r x, F r x < 2 ^ h) : ∀ r p, InS (2 ^ h) p → InS (2 ^ h) (runB F p r) := by
  intro r
  induction r with
  | zero => intro p hp; exact hp
  | succ r ih => intro p hp; exact ih _ (oneB_in hF r _ hp)
/-- what a number becomes, s the number of halves -/
def turnF (F : Nat → Nat → Nat) (s x : Nat) : Nat := (runF F (x / s, x % s) 4).1 * s + (runF F (x / s, x % s) 4).2
def turnB (F : Nat → Nat → Nat) (s x : Nat) : Nat := (runB F (x / s, x % s) 4).1 * s + (runB F (x / s, x % s) 4).2
theorem join_lt {s a b : Nat} (ha : a < s) (hb : b < s) : a * s + b < s * s := by
  have h1 : (a + 1) * s ≤ s * s := Nat.mul_le_mul_right s (by omega)
  rw [Nat.add_mul] at h1; omega
theorem split_in {s x : Nat} (hs : 0 < s) (hx : x < s * s) : InS s (x / s, x % s) := ⟨by simpa using Nat.div_lt_of_lt_mul hx, Nat.mod_lt _ hs⟩
theorem join_split {s : Nat} (p : Nat × Nat) (hp : InS s p) : ((p.1 * s + p.2) / s, (p.1 * s + p.2) % s) = p := by
  obtain ⟨a, b⟩ := p
  obtain ⟨h1, h2⟩ := hp
  simp only at h1 h2 ⊢
  rw [Nat.mul_comm a s, Nat.mul_add_div (by omega), Nat.div_eq_of_lt h2, Nat.mul_add_mod, Nat.mod_eq_of_lt h2, Nat.add_zero]
theorem turn_perm {F : Nat → Nat → Nat} {h : Nat} (hF : ∀ r x, F r x < 2 ^ h) : Perm (2 ^ h * 2 ^ h) (turnF F (2 ^ h)) (turnB F (2 ^ h)) := by
  have hs : 0 < 2 ^ h := Nat.two_pow_pos h
  refine ⟨fun x hx => ?_, fun x hx => ?_, fun x hx => ?_, fun x hx => ?_⟩
  · have := runF_in hF _ (split_in hs hx) 4; exact join_lt this.1 this.2
  · have := runB_in hF 4 _ (split_in hs hx); exact join_lt this.1 this.2
  · rw [turnB, turnF, join_split _ (runF_in hF _ (split_in hs hx) 4), runBF]; exact Nat.div_add_mod' x _
  · rw [turnF, turnB, join_split _ (runB_in hF 4 _ (split_in hs hx)), runFB]; exact Nat.div_add_mod' x _
end Go.Proofs.YtgfhniiidejmoaaGreatDoor
