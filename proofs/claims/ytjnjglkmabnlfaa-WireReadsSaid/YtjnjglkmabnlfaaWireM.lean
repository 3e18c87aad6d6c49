/- Varints, zigzag forms and encodings as lists of whole numbers; what a reader does of them. No Go text. -/
import Derived.Test.YtjnjglkmabnlfaaWords
namespace Go.Proofs.Ytjnjglkmabnlfaa

/-- varint of a number -/
def encU (n : Int) : List Int := if n < 128 then [n] else (128 + n % 128) :: encU (n / 128)
termination_by n.toNat
decreasing_by omega
theorem encU_lt (n : Int) (h : n < 128) : encU n = [n] := by rw [encU, if_pos h]
theorem encU_ge (n : Int) (h : ¬ n < 128) : encU n = (128 + n % 128) :: encU (n / 128) := by rw [encU, if_neg h]
/-- zigzag form, and back -/
def zig (n : Int) : Int := if n < 0 then -2 * n - 1 else 2 * n
def unzig (z : Int) : Int := if z % 2 = 1 then -(z / 2) - 1 else z / 2
theorem unzig_zig (n : Int) : unzig (zig n) = n := by unfold zig unzig; split <;> split <;> omega
theorem zig_unzig (z : Int) (h : 0 ≤ z) : zig (unzig z) = z := by unfold zig unzig; split <;> split <;> omega
def i64 (n : Int) : Prop := -9223372036854775808 ≤ n ∧ n ≤ 9223372036854775807
theorem zig_u64 (n : Int) (h : i64 n) : u64 (zig n) := by unfold i64 at h; unfold u64 zig; split <;> omega
theorem unzig_i64 (z : Int) (h : u64 z) : i64 (unzig z) := by unfold u64 at h; unfold i64 unzig; split <;> omega

/-- what a list begins with: a number and the rest, or an error -/
inductive Dec | got (n : Int) (r : List Int) | err (e : Int)
/-- after i bytes of value n -/
def decA (n : Int) (i : Nat) : List Int → Dec
  | [] => .err 3
  | b :: t => if (0 < i ∧ b = 0) ∨ (i = 9 ∧ 1 < b) then .err 2 else if b < 128 then .got (n + b * 128 ^ i) t else decA (n + (b - 128) * 128 ^ i) (i + 1) t

/-- a reader's state: bytes left, error (0: none) -/
structure RS where
  bs : List Int
  er : Int
def bad (e : Int) : RS := ⟨[], e⟩
def Dec.val : Dec → Int | .got n _ => n | .err _ => 0
def Dec.st : Dec → RS | .got _ r => ⟨r, 0⟩ | .err e => bad e
def rdO (s : RS) : Int × RS := if s.er = 0 then (match s.bs with | [] => (0, bad 3) | b :: t => (b, ⟨t, 0⟩)) else (0, s)
def rdU (s : RS) : Int × RS := if s.er = 0 then ((decA 0 0 s.bs).val, (decA 0 0 s.bs).st) else (0, s)
def rdI (s : RS) : Int × RS := (unzig (rdU s).1, (rdU s).2)
def rdB (s : RS) : Bool × RS := if s.er = 0 then (match s.bs with | [] => (false, bad 3) | b :: t => if 1 < b then (false, bad 2) else (b == 1, ⟨t, 0⟩)) else (false, s)
/-- k elements behind acc -/
def rdN (f : RS → Int × RS) : Nat → List Int → RS → List Int × RS
  | 0, acc, s => (acc, s)
  | k + 1, acc, s => if (f s).2.er = 0 then rdN f k (acc ++ [(f s).1]) (f s).2 else ([], (f s).2)
def rdL (f : RS → Int × RS) (s : RS) : List Int × RS :=
  if (rdU s).2.er = 0 then (if (rdU s).1 ≤ (rdU s).2.bs.length then rdN f (rdU s).1.toNat [] (rdU s).2 else ([], bad 3)) else ([], (rdU s).2)
def endE (s : RS) : Int := if s.er = 0 ∧ 0 < s.bs.length then 2 else s.er

/-! ### bounds -/
theorem pow128 (i : Nat) (h : i ≤ 9) : (0 : Int) < 128 ^ i ∧ (128 : Int) ^ i ≤ 9223372036854775808 := by
  have : i = 0 ∨ i = 1 ∨ i = 2 ∨ i = 3 ∨ i = 4 ∨ i = 5 ∨ i = 6 ∨ i = 7 ∨ i = 8 ∨ i = 9 := by omega
  rcases this with h | h | h | h | h | h | h | h | h | h <;> subst h <;> decide
theorem pow128_succ (i : Nat) : (128 : Int) ^ (i + 1) = 128 * 128 ^ i := by rw [Int.pow_succ, Int.mul_comm]
/-- a number below 128 times P is at most 127 P -/
theorem mul_bd (x P : Int) (h0 : 0 ≤ x) (h : x ≤ 127) (hP : 0 < P) : 0 ≤ x * P ∧ x * P ≤ 127 * P :=
  ⟨Int.mul_nonneg h0 (by omega), Int.mul_le_mul_of_nonneg_right h (by omega)⟩
theorem decA_bd : ∀ (l : List Int) (n : Int) (i : Nat) (v : Int) (r : List Int), i ≤ 9 → 0 ≤ n → n < 128 ^ i → (∀ b ∈ l, byteI b) → decA n i l = .got v r →
    u64 v ∧ r.length < l.length ∧ (∀ b ∈ r, byteI b) ∧ (∃ p, l = p ++ r) := by
  intro l
  induction l with
  | nil => intro n i v r _ _ _ _ h; simp [decA] at h
  | cons b t ih =>
    intro n i v r hi h0 h1 hb h
    have hbb := hb b (by simp)
    have ht : ∀ x ∈ t, byteI x := fun x hx => hb x (by simp [hx])
    have hP := pow128 i hi
    unfold byteI at hbb
    rw [decA] at h
    split at h
    · cases h
    · rename_i hc
      split at h
      · rename_i hlt
        simp only [Dec.got.injEq] at h
        obtain ⟨rfl, rfl⟩ := h
        refine ⟨?_, by simp, ht, ⟨[b], rfl⟩⟩
        have hm := mul_bd b (128 ^ i) (by omega) (by omega) hP.1
        unfold u64
        by_cases h9 : i = 9
        · have : b ≤ 1 := by omega
          have hm1 : b * 128 ^ i ≤ 1 * 128 ^ i := Int.mul_le_mul_of_nonneg_right this (by omega)
          subst h9
          have e9 : (128 : Int) ^ 9 = 9223372036854775808 := by decide
          omega
        · have h8 : (128 : Int) * 128 ^ i ≤ 9223372036854775808 := by
            have := (pow128 (i + 1) (by omega)).2
            rwa [pow128_succ] at this
          omega
      · rename_i hlt
        have h9 : i ≠ 9 := fun e => hc (.inr ⟨e, by omega⟩)
        have hm := mul_bd (b - 128) (128 ^ i) (by omega) (by omega) hP.1
        obtain ⟨a1, a2, a3, p, a4⟩ := ih _ (i + 1) v r (by omega) (by omega) (by rw [pow128_succ]; omega) ht h
        exact ⟨a1, by simp; omega, a3, ⟨b :: p, by rw [a4]; rfl⟩⟩
theorem decA_err : ∀ (l : List Int) (n : Int) (i : Nat) (e : Int), decA n i l = .err e → e = 2 ∨ e = 3 := by
  intro l
  induction l with
  | nil => intro n i e h; simp only [decA, Dec.err.injEq] at h; exact .inr h.symm
  | cons b t ih =>
    intro n i e h
    rw [decA] at h
    split at h
    · simp only [Dec.err.injEq] at h; exact .inl h.symm
    · split at h
      · cases h
      · exact ih _ _ _ h

/-- a state that a reader may be in -/
def RS.ok (s : RS) : Prop := (∀ b ∈ s.bs, byteI b) ∧ (s.er ≠ 0 → s.bs = []) ∧ (s.er = 0 ∨ s.er = 2 ∨ s.er = 3)
theorem bad_ok (e : Int) (h : e = 2 ∨ e = 3) : (bad e).ok := ⟨by simp [bad], fun _ => rfl, .inr h⟩
theorem rdU_ok (s : RS) (h : s.ok) : u64 (rdU s).1 ∧ (rdU s).2.ok ∧ (rdU s).2.bs.length ≤ s.bs.length ∧ ((rdU s).2.er ≠ 0 → (rdU s).1 = 0) := by
  unfold rdU
  split
  · cases hd : decA 0 0 s.bs with
    | got v r =>
      obtain ⟨a1, a2, a3, _⟩ := decA_bd s.bs 0 0 v r (by omega) (by omega) (by simp) h.1 hd
      exact ⟨a1, ⟨a3, by simp [Dec.st], .inl rfl⟩, by simp [Dec.st]; omega, by simp [Dec.st]⟩
    | err e =>
      exact ⟨by simp [Dec.val, u64], bad_ok e (decA_err _ _ _ _ hd), by simp [Dec.st, bad], fun _ => rfl⟩
  · exact ⟨by simp [u64], h, Nat.le_refl _, fun _ => rfl⟩
theorem rdO_ok (s : RS) (h : s.ok) : byteI (rdO s).1 ∧ (rdO s).2.ok ∧ (rdO s).2.bs.length ≤ s.bs.length := by
  unfold rdO
  split
  · split
    · exact ⟨by simp [byteI], bad_ok 3 (.inr rfl), by simp [bad]⟩
    · rename_i b t hbt
      have hb := h.1
      rw [hbt] at hb
      exact ⟨hb b (by simp), ⟨fun x hx => hb x (by simp only at hx; simp [hx]), by simp, .inl rfl⟩, by rw [hbt]; simp⟩
  · exact ⟨by simp [byteI], h, Nat.le_refl _⟩
theorem rdI_ok (s : RS) (h : s.ok) : i64 (rdI s).1 ∧ (rdI s).2.ok ∧ (rdI s).2.bs.length ≤ s.bs.length := by
  obtain ⟨a, b, c, _⟩ := rdU_ok s h
  exact ⟨unzig_i64 _ a, b, c⟩

/-! ### values -/
structure V where
  k : Int
  u : Int
  n : Int
  b : List Int
  l : List Int
def encR (b : List Int) : List Int := encU b.length ++ b
def encL (l : List Int) : List Int := encU l.length ++ l.flatMap (fun n => encU (zig n))
def encV (v : V) : List Int :=
  if v.k = 0 then encU v.u else if v.k = 1 then encU (zig v.n) else if v.k = 2 then [if v.n = 1 then 1 else 0] else if v.k = 3 ∨ v.k = 4 then encR v.b else encL v.l
def encVs (l : List V) : List Int := l.flatMap encV
def rdV (k : Int) (s : RS) : V × RS :=
  if k = 0 then (⟨k, (rdU s).1, 0, [], []⟩, (rdU s).2)
  else if k = 1 then (⟨k, 0, (rdI s).1, [], []⟩, (rdI s).2)
  else if k = 2 then (⟨k, 0, if (rdB s).1 then 1 else 0, [], []⟩, (rdB s).2)
  else if k = 3 ∨ k = 4 then (⟨k, 0, 0, (rdL rdO s).1, []⟩, (rdL rdO s).2)
  else (⟨k, 0, 0, [], (rdL rdI s).1⟩, (rdL rdI s).2)
theorem encU_ne (n : Int) : encU n ≠ [] := by rw [encU]; split <;> simp
theorem encU_pos (n : Int) : 1 ≤ (encU n).length := by
  have := encU_ne n
  cases h : encU n with
  | nil => exact absurd h this
  | cons => simp
theorem encU_len_le : ∀ (k : Nat) (n : Int), n < 128 ^ (k + 1) → (encU n).length ≤ k + 1 := by
  intro k
  induction k with
  | zero => intro n h; rw [encU_lt n (by simpa using h)]; simp
  | succ k ih =>
    intro n h
    by_cases hn : n < 128
    · rw [encU_lt n hn]; simp
    · rw [encU_ge n hn]
      have := ih (n / 128) (by rw [Int.pow_succ] at h; omega)
      simp only [List.length_cons]; omega
theorem encU_len (n : Int) (h : u64 n) : (encU n).length ≤ 10 := encU_len_le 9 n (by unfold u64 at h; have : (128 : Int) ^ (9 + 1) = 1180591620717411303424 := by decide
                                                                                     omega)
theorem encU_byte (n : Int) (h : 0 ≤ n) : ∀ b ∈ encU n, byteI b := by
  induction n using encU.induct with
  | case1 n hn => rw [encU_lt n hn]; intro b hb; simp only [List.mem_singleton] at hb; subst hb; unfold byteI; omega
  | case2 n hn ih =>
    rw [encU_ge n hn]
    intro b hb
    rcases List.mem_cons.1 hb with rfl | hb
    · unfold byteI; omega
    · exact ih (by omega) b hb
end Go.Proofs.Ytjnjglkmabnlfaa
