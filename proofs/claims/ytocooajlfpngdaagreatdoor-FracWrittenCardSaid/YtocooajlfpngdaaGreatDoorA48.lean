/- Varints, zigzag forms and encodings as lists of whole numbers; what a reader does of them. No Go text. · Round trip, one encoding, prefixes: the mathematics of the promises. No Go text. · The hash as a function on lists of numbers; that one word decides it. No Go text. -/
import Derived.Test.YtocooajlfpngdaaGreatDoorA01
namespace Go.Proofs.YtocooajlfpngdaaGreatDoor

/-- varint of a number -/
def encU (n : Int) : List Int := if n < 128 then [n] else (128 + n % 128) :: encU (n / 128)
termination_by n.toNat
decreasing_by omega
theorem encU_lt (n : Int) (h : n < 128) : encU n = [n] := by rw [encU, if_pos h]
theorem encU_ge (n : Int) (h : ¬ n < 128) : encU n = (128 + n % 128) :: encU (n / 128) := by rw [encU, if_neg h]
def i64 (n : Int) : Prop := -9223372036854775808 ≤ n ∧ n ≤ 9223372036854775807
/-- what a list begins with: a number and the rest, or an error -/
inductive Dec | got (n : Int) (r : List Int) | err (e : Int)
/-- after i bytes of value n -/
def decA (n : Int) (i : Nat) : List Int → Dec
  | [] => .err 3
  | b :: t => if (0 < i ∧ b = 0) ∨ (i = 9 ∧ 1 < b) then .err 2 else if b < 128 then .got (n + b * 128 ^ i) t else decA (n + (b - 128) * 128 ^ i) (i + 1) t

/-- a reader's state: bytes left, error (0: none) -/
structure RS where
  bs : List Int
  er : Int
def bad (e : Int) : RS := ⟨[], e⟩
def Dec.val : Dec → Int | .got n _ => n | .err _ => 0
def Dec.st : Dec → RS | .got _ r => ⟨r, 0⟩ | .err e => bad e
def rdO (s : RS) : Int × RS := if s.er = 0 then (match s.bs with | [] => (0, bad 3) | b :: t => (b, ⟨t, 0⟩)) else (0, s)
def rdU (s : RS) : Int × RS := if s.er = 0 then ((decA 0 0 s.bs).val, (decA 0 0 s.bs).st) else (0, s)
/-- k elements behind acc -/
def rdN (f : RS → Int × RS) : Nat → List Int → RS → List Int × RS
  | 0, acc, s => (acc, s)
  | k + 1, acc, s => if (f s).2.er = 0 then rdN f k (acc ++ [(f s).1]) (f s).2 else ([], (f s).2)
def rdL (f : RS → Int × RS) (s : RS) : List Int × RS :=
  if (rdU s).2.er = 0 then (if (rdU s).1 ≤ (rdU s).2.bs.length then rdN f (rdU s).1.toNat [] (rdU s).2 else ([], bad 3)) else ([], (rdU s).2)
def endE (s : RS) : Int := if s.er = 0 ∧ 0 < s.bs.length then 2 else s.er

/-! ### bounds -/
theorem pow128 (i : Nat) (h : i ≤ 9) : (0 : Int) < 128 ^ i ∧ (128 : Int) ^ i ≤ 9223372036854775808 := by
  have : i = 0 ∨ i = 1 ∨ i = 2 ∨ i = 3 ∨ i = 4 ∨ i = 5 ∨ i = 6 ∨ i = 7 ∨ i = 8 ∨ i = 9 := by omega
  rcases this with h | h | h | h | h | h | h | h | h | h <;> subst h <;> decide
theorem pow128_succ (i : Nat) : (128 : Int) ^ (i + 1) = 128 * 128 ^ i := by rw [Int.pow_succ, Int.mul_comm]
/-- a number below 128 times P is at most 127 P -/
theorem wmul_bd (x P : Int) (h0 : 0 ≤ x) (h : x ≤ 127) (hP : 0 < P) : 0 ≤ x * P ∧ x * P ≤ 127 * P :=
  ⟨Int.mul_nonneg h0 (by omega), Int.mul_le_mul_of_nonneg_right h (by omega)⟩
theorem decA_bd : ∀ (l : List Int) (n : Int) (i : Nat) (v : Int) (r : List Int), i ≤ 9 → 0 ≤ n → n < 128 ^ i → (∀ b ∈ l, byteI b) → decA n i l = .got v r →
    u64 v ∧ r.length < l.length ∧ (∀ b ∈ r, byteI b) ∧ (∃ p, l = p ++ r) := by
  intro l
  induction l with
  | nil => intro n i v r _ _ _ _ h; simp [decA] at h
  | cons b t ih =>
    intro n i v r hi h0 h1 hb h
    have hbb := hb b (by simp)
    have ht : ∀ x ∈ t, byteI x := fun x hx => hb x (by simp [hx])
    have hP := pow128 i hi
    unfold byteI at hbb
    rw [decA] at h
    split at h
    · cases h
    · rename_i hc
      split at h
      · rename_i hlt
        simp only [Dec.got.injEq] at h
        obtain ⟨rfl, rfl⟩ := h
        refine ⟨?_, by simp, ht, ⟨[b], rfl⟩⟩
        have hm := wmul_bd b (128 ^ i) (by omega) (by omega) hP.1
        unfold u64
        by_cases h9 : i = 9
        · have : b ≤ 1 := by omega
          have hm1 : b * 128 ^ i ≤ 1 * 128 ^ i := Int.mul_le_mul_of_nonneg_right this (by omega)
          subst h9
          have e9 : (128 : Int) ^ 9 = 9223372036854775808 := by decide
          omega
        · have h8 : (128 : Int) * 128 ^ i ≤ 9223372036854775808 := by
            have := (pow128 (i + 1) (by omega)).2
            rwa [pow128_succ] at this
          omega
      · rename_i hlt
        have h9 : i ≠ 9 := fun e => hc (.inr ⟨e, by omega⟩)
        have hm := wmul_bd (b - 128) (128 ^ i) (by omega) (by omega) hP.1
        obtain ⟨a1, a2, a3, p, a4⟩ := ih _ (i + 1) v r (by omega) (by omega) (by rw [pow128_succ]; omega) ht h
        exact ⟨a1, by simp; omega, a3, ⟨b :: p, by rw [a4]; rfl⟩⟩
theorem decA_err : ∀ (l : List Int) (n : Int) (i : Nat) (e : Int), decA n i l = .err e → e = 2 ∨ e = 3 := by
  intro l
  induction l with
  | nil => intro n i e h; simp only [decA, Dec.err.injEq] at h; exact .inr h.symm
  | cons b t ih =>
    intro n i e h
    rw [decA] at h
    split at h
    · simp only [Dec.err.injEq] at h; exact .inl h.symm
    · split at h
      · cases h
      · exact ih _ _ _ h

/-- a state that a reader may be in -/
def RS.ok (s : RS) : Prop := (∀ b ∈ s.bs, byteI b) ∧ (s.er ≠ 0 → s.bs = []) ∧ (s.er = 0 ∨ s.er = 2 ∨ s.er = 3)
theorem bad_ok (e : Int) (h : e = 2 ∨ e = 3) : (bad e).ok := ⟨by simp [bad], fun _ => rfl, .inr h⟩
theorem rdU_ok (s : RS) (h : s.ok) : u64 (rdU s).1 ∧ (rdU s).2.ok ∧ (rdU s).2.bs.length ≤ s.bs.length ∧ ((rdU s).2.er ≠ 0 → (rdU s).1 = 0) := by
  unfold rdU
  split
  · cases hd : decA 0 0 s.bs with
    | got v r =>
      obtain ⟨a1, a2, a3, _⟩ := decA_bd s.bs 0 0 v r (by omega) (by omega) (by simp) h.1 hd
      exact ⟨a1, ⟨a3, by simp [Dec.st], .inl rfl⟩, by simp [Dec.st]; omega, by simp [Dec.st]⟩
    | err e =>
      exact ⟨by simp [Dec.val, u64], bad_ok e (decA_err _ _ _ _ hd), by simp [Dec.st, bad], fun _ => rfl⟩
  · exact ⟨by simp [u64], h, Nat.le_refl _, fun _ => rfl⟩
theorem rdO_ok (s : RS) (h : s.ok) : byteI (rdO s).1 ∧ (rdO s).2.ok ∧ (rdO s).2.bs.length ≤ s.bs.length := by
  unfold rdO
  split
  · split
    · exact ⟨by simp [byteI], bad_ok 3 (.inr rfl), by simp [bad]⟩
    · rename_i b t hbt
      have hb := h.1
      rw [hbt] at hb
      exact ⟨hb b (by simp), ⟨fun x hx => hb x (by simp only at hx; simp [hx]), by simp, .inl rfl⟩, by rw [hbt]; simp⟩
  · exact ⟨by simp [byteI], h, Nat.le_refl _⟩
/-! ### values -/
structure V where
  k : Int
  u : Int
  n : Int
  b : List Int
  l : List Int
def encR (b : List Int) : List Int := encU b.length ++ b
theorem encU_ne (n : Int) : encU n ≠ [] := by rw [encU]; split <;> simp
theorem encU_pos (n : Int) : 1 ≤ (encU n).length := by
  have := encU_ne n
  cases h : encU n with
  | nil => exact absurd h this
  | cons => simp
theorem encU_len_le : ∀ (k : Nat) (n : Int), n < 128 ^ (k + 1) → (encU n).length ≤ k + 1 := by
  intro k
  induction k with
  | zero => intro n h; rw [encU_lt n (by simpa using h)]; simp
  | succ k ih =>
    intro n h
    by_cases hn : n < 128
    · rw [encU_lt n hn]; simp
    · rw [encU_ge n hn]
      have := ih (n / 128) (by rw [Int.pow_succ] at h; omega)
      simp only [List.length_cons]; omega
theorem encU_len (n : Int) (h : u64 n) : (encU n).length ≤ 10 := encU_len_le 9 n (by unfold u64 at h; have : (128 : Int) ^ (9 + 1) = 1180591620717411303424 := by decide
                                                                                     omega)
theorem encU_byte (n : Int) (h : 0 ≤ n) : ∀ b ∈ encU n, byteI b := by
  induction n using encU.induct with
  | case1 n hn => rw [encU_lt n hn]; intro b hb; simp only [List.mem_singleton] at hb; subst hb; unfold byteI; omega
  | case2 n hn ih =>
    rw [encU_ge n hn]
    intro b hb
    rcases List.mem_cons.1 hb with rfl | hb
    · unfold byteI; omega
    · exact ih (by omega) b hb
end Go.Proofs.YtocooajlfpngdaaGreatDoor
namespace Go.Proofs.YtocooajlfpngdaaGreatDoor

/-! ### round trip -/
theorem split_mul (m P : Int) : m % 128 * P + m / 128 * (128 * P) = m * P := by
  have e : m = m % 128 + m / 128 * 128 := by omega
  have e2 : m * P = (m % 128 + m / 128 * 128) * P := by rw [← e]
  rw [e2, Int.add_mul, Int.mul_assoc]
theorem decA_enc (m : Int) : ∀ (n : Int) (i : Nat) (r : List Int), i ≤ 9 → 0 ≤ m → (0 < i → 0 < m) → m * 128 ^ i ≤ 18446744073709551615 → decA n i (encU m ++ r) = .got (n + m * 128 ^ i) r := by
  induction m using encU.induct with
  | case1 m hm =>
    intro n i r hi h0 h1 h2
    have hP := pow128 i hi
    rw [encU_lt m hm, List.singleton_append, decA, if_neg, if_pos hm]
    rintro (⟨a, b⟩ | ⟨a, b⟩)
    · have := h1 a; omega
    · subst a
      have e9 : (128 : Int) ^ 9 = 9223372036854775808 := by decide
      rw [e9] at h2; omega
  | case2 m hm ih =>
    intro n i r hi h0 h1 h2
    have hP := pow128 i hi
    have hi9 : i ≠ 9 := by
      rintro rfl
      have e9 : (128 : Int) ^ 9 = 9223372036854775808 := by decide
      rw [e9] at h2; omega
    have hs := split_mul m (128 ^ i)
    have hk : 0 ≤ m % 128 * 128 ^ i := Int.mul_nonneg (by omega) (by omega)
    rw [encU_ge m hm, List.cons_append, decA, if_neg, if_neg (by omega)]
    · rw [ih _ (i + 1) r (by omega) (by omega) (fun _ => by omega) (by rw [pow128_succ]; omega), pow128_succ]
      congr 1
      rw [show 128 + m % 128 - 128 = m % 128 by omega, Int.add_assoc, hs]
    · rintro (⟨a, b⟩ | ⟨a, b⟩) <;> omega
theorem rdU_enc (m : Int) (hm : u64 m) (r : List Int) : rdU ⟨encU m ++ r, 0⟩ = (m, ⟨r, 0⟩) := by
  unfold u64 at hm
  have h := decA_enc m 0 0 r (by omega) hm.1 (by omega) (by simp; omega)
  unfold rdU
  rw [if_pos rfl]
  simp only
  rw [h]
  simp [Dec.val, Dec.st]
theorem rdN_O (b r : List Int) : ∀ acc, rdN rdO b.length acc ⟨b ++ r, 0⟩ = (acc ++ b, ⟨r, 0⟩) := by
  induction b with
  | nil => intro acc; simp [rdN]
  | cons x b ih =>
    intro acc
    rw [List.length_cons, rdN, if_pos (by simp [rdO])]
    have e : rdO ⟨x :: b ++ r, 0⟩ = (x, ⟨b ++ r, 0⟩) := by simp [rdO]
    rw [e, ih]; simp
theorem rdL_O (b r : List Int) (hb : b.length ≤ 1000000) : rdL rdO ⟨encR b ++ r, 0⟩ = (b, ⟨r, 0⟩) := by
  have e := rdU_enc b.length (by unfold u64; omega) (b ++ r)
  unfold rdL encR
  rw [List.append_assoc, e, if_pos rfl, if_pos (by simp; omega)]
  simp only [Int.toNat_natCast]
  rw [rdN_O]; simp
/-! ### one encoding -/
end Go.Proofs.YtocooajlfpngdaaGreatDoor
namespace Go.Proofs.YtocooajlfpngdaaGreatDoor
open Go.RowKit

def toU (n : Int) : Int := IntKind.u64.wrap n
theorem toU_def (n : Int) : toU n = IntKind.u64.wrap n := rfl
def foldM (s : Int) (l : List Int) : Int := l.foldl mixI s
theorem foldM_snoc (s : Int) (l : List Int) (x : Int) : foldM s (l ++ [x]) = mixI (foldM s l) x := by simp [foldM]
/-- all that is mixed in before the last step -/
def sumI (lab ws : List Int) : Int := mixI (foldM (mixI (mixI (foldM 0 (wordsI lab)) lab.length) ws.length) (ws.map toU)) 0
def bytesI (lab bs : List Int) : Int := sumI lab ((wordsI bs).map wrap64 ++ [(bs.length : Int)])
theorem u0 : u64 0 := by unfold u64; omega
end Go.Proofs.YtocooajlfpngdaaGreatDoor
