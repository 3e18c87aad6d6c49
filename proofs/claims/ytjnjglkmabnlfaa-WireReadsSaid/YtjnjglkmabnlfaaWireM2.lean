/- Round trip, one encoding, prefixes: the mathematics of the promises. No Go text. -/
import Derived.Test.YtjnjglkmabnlfaaWireM
namespace Go.Proofs.Ytjnjglkmabnlfaa

/-! ### round trip -/
theorem split_mul (m P : Int) : m % 128 * P + m / 128 * (128 * P) = m * P := by
  have e : m = m % 128 + m / 128 * 128 := by omega
  have e2 : m * P = (m % 128 + m / 128 * 128) * P := by rw [← e]
  rw [e2, Int.add_mul, Int.mul_assoc]
theorem decA_enc (m : Int) : ∀ (n : Int) (i : Nat) (r : List Int), i ≤ 9 → 0 ≤ m → (0 < i → 0 < m) → m * 128 ^ i ≤ 18446744073709551615 → decA n i (encU m ++ r) = .got (n + m * 128 ^ i) r := by
  induction m using encU.induct with
  | case1 m hm =>
    intro n i r hi h0 h1 h2
    have hP := pow128 i hi
    rw [encU_lt m hm, List.singleton_append, decA, if_neg, if_pos hm]
    rintro (⟨a, b⟩ | ⟨a, b⟩)
    · have := h1 a; omega
    · subst a
      have e9 : (128 : Int) ^ 9 = 9223372036854775808 := by decide
      rw [e9] at h2; omega
  | case2 m hm ih =>
    intro n i r hi h0 h1 h2
    have hP := pow128 i hi
    have hi9 : i ≠ 9 := by
      rintro rfl
      have e9 : (128 : Int) ^ 9 = 9223372036854775808 := by decide
      rw [e9] at h2; omega
    have hs := split_mul m (128 ^ i)
    have hk : 0 ≤ m % 128 * 128 ^ i := Int.mul_nonneg (by omega) (by omega)
    rw [encU_ge m hm, List.cons_append, decA, if_neg, if_neg (by omega)]
    · rw [ih _ (i + 1) r (by omega) (by omega) (fun _ => by omega) (by rw [pow128_succ]; omega), pow128_succ]
      congr 1
      rw [show 128 + m % 128 - 128 = m % 128 by omega, Int.add_assoc, hs]
    · rintro (⟨a, b⟩ | ⟨a, b⟩) <;> omega
theorem rdU_enc (m : Int) (hm : u64 m) (r : List Int) : rdU ⟨encU m ++ r, 0⟩ = (m, ⟨r, 0⟩) := by
  unfold u64 at hm
  have h := decA_enc m 0 0 r (by omega) hm.1 (by omega) (by simp; omega)
  unfold rdU
  rw [if_pos rfl]
  simp only
  rw [h]
  simp [Dec.val, Dec.st]
theorem rdI_enc (n : Int) (hn : i64 n) (r : List Int) : rdI ⟨encU (zig n) ++ r, 0⟩ = (n, ⟨r, 0⟩) := by
  unfold rdI
  rw [rdU_enc _ (zig_u64 n hn) r, unzig_zig]
theorem rdB_enc (b : Int) (hb : b = 0 ∨ b = 1) (r : List Int) : rdB ⟨b :: r, 0⟩ = (b == 1, ⟨r, 0⟩) := by
  rcases hb with rfl | rfl <;> simp [rdB]
theorem rdN_O (b r : List Int) : ∀ acc, rdN rdO b.length acc ⟨b ++ r, 0⟩ = (acc ++ b, ⟨r, 0⟩) := by
  induction b with
  | nil => intro acc; simp [rdN]
  | cons x b ih =>
    intro acc
    rw [List.length_cons, rdN, if_pos (by simp [rdO])]
    have e : rdO ⟨x :: b ++ r, 0⟩ = (x, ⟨b ++ r, 0⟩) := by simp [rdO]
    rw [e, ih]; simp
theorem rdN_I (l : List Int) (hl : ∀ n ∈ l, i64 n) (r : List Int) : ∀ acc, rdN rdI l.length acc ⟨l.flatMap (fun n => encU (zig n)) ++ r, 0⟩ = (acc ++ l, ⟨r, 0⟩) := by
  induction l with
  | nil => intro acc; simp [rdN]
  | cons x l ih =>
    intro acc
    have e := rdI_enc x (hl x (by simp)) (l.flatMap (fun n => encU (zig n)) ++ r)
    rw [List.length_cons, rdN, List.flatMap_cons, List.append_assoc, e, if_pos rfl, ih (fun n hn => hl n (by simp [hn]))]; simp
theorem flat_len (l : List Int) : l.length ≤ (l.flatMap (fun n => encU (zig n))).length := by
  induction l with
  | nil => simp
  | cons x l ih =>
    have := encU_pos (zig x)
    simp only [List.flatMap_cons, List.length_append, List.length_cons]; omega
theorem rdL_O (b r : List Int) (hb : b.length ≤ 1000000) : rdL rdO ⟨encR b ++ r, 0⟩ = (b, ⟨r, 0⟩) := by
  have e := rdU_enc b.length (by unfold u64; omega) (b ++ r)
  unfold rdL encR
  rw [List.append_assoc, e, if_pos rfl, if_pos (by simp; omega)]
  simp only [Int.toNat_natCast]
  rw [rdN_O]; simp
theorem rdL_I (l r : List Int) (hb : l.length ≤ 1000000) (hl : ∀ n ∈ l, i64 n) : rdL rdI ⟨encL l ++ r, 0⟩ = (l, ⟨r, 0⟩) := by
  have e := rdU_enc l.length (by unfold u64; omega) (l.flatMap (fun n => encU (zig n)) ++ r)
  have := flat_len l
  unfold rdL encL
  rw [List.append_assoc, e, if_pos rfl, if_pos (by simp only [List.length_append]; omega)]
  simp only [Int.toNat_natCast]
  rw [rdN_I l hl]; simp

/-- a value in the form that a read of its kind gives -/
def V.can (v : V) : Prop :=
  (v.k = 0 ∧ u64 v.u ∧ v.n = 0 ∧ v.b = [] ∧ v.l = []) ∨ (v.k = 1 ∧ v.u = 0 ∧ i64 v.n ∧ v.b = [] ∧ v.l = []) ∨ (v.k = 2 ∧ v.u = 0 ∧ (v.n = 0 ∨ v.n = 1) ∧ v.b = [] ∧ v.l = []) ∨
  ((v.k = 3 ∨ v.k = 4) ∧ v.u = 0 ∧ v.n = 0 ∧ v.b.length ≤ 1000000 ∧ (∀ b ∈ v.b, byteI b) ∧ v.l = []) ∨ (v.k = 5 ∧ v.u = 0 ∧ v.n = 0 ∧ v.b = [] ∧ v.l.length ≤ 1000000 ∧ ∀ n ∈ v.l, i64 n)
theorem rdV_enc (v : V) (h : v.can) (r : List Int) : rdV v.k ⟨encV v ++ r, 0⟩ = (v, ⟨r, 0⟩) := by
  obtain ⟨k, u, n, b, l⟩ := v
  rcases h with ⟨h1, h2, h3, h4, h5⟩ | ⟨h1, h2, h3, h4, h5⟩ | ⟨h1, h2, h3, h4, h5⟩ | ⟨h1, h2, h3, h4, h6, h5⟩ | ⟨h1, h2, h3, h4, h5, h6⟩
  all_goals simp only at h1 h2 h3 h4 h5
  · subst h1 h3 h4 h5; simp [rdV, encV, rdU_enc u h2 r]
  · subst h1 h2 h4 h5; simp [rdV, encV, rdI_enc n h3 r]
  · subst h1 h2 h4 h5
    rcases h3 with rfl | rfl <;> simp [rdV, encV, rdB]
  · subst h2 h3 h5
    rcases h1 with rfl | rfl <;> simp [rdV, encV, rdL_O b r h4]
  · subst h1 h2 h3 h4; simp [rdV, encV, rdL_I l r h5 h6]

/-! ### one encoding -/
theorem decA_one : ∀ (l : List Int) (n : Int) (i : Nat) (v : Int) (r : List Int), (∀ b ∈ l, byteI b) → decA n i l = .got v r → ∃ m, 0 ≤ m ∧ (0 < i → 0 < m) ∧ v = n + m * 128 ^ i ∧ l = encU m ++ r := by
  intro l
  induction l with
  | nil => intro n i v r _ h; simp [decA] at h
  | cons b t ih =>
    intro n i v r hb h
    have hbb := hb b (by simp)
    unfold byteI at hbb
    rw [decA] at h
    split at h
    · cases h
    · rename_i hc
      split at h
      · rename_i hlt
        simp only [Dec.got.injEq] at h
        obtain ⟨rfl, rfl⟩ := h
        exact ⟨b, hbb.1, fun h0 => by rcases Int.lt_or_eq_of_le hbb.1 with h | h
                                      · exact h
                                      · exact absurd (.inl ⟨h0, h.symm⟩) hc, rfl, by rw [encU_lt b hlt]; rfl⟩
      · rename_i hlt
        obtain ⟨m, m0, m1, m2, m3⟩ := ih _ (i + 1) v r (fun x hx => hb x (by simp [hx])) h
        have m1' := m1 (by omega)
        refine ⟨b - 128 + 128 * m, by omega, fun _ => by omega, ?_, ?_⟩
        · rw [m2, pow128_succ, Int.add_mul, Int.add_assoc]
          congr 2
          rw [← Int.mul_assoc, Int.mul_comm m 128]
        · rw [encU_ge _ (by omega), m3, show (b - 128 + 128 * m) / 128 = m by omega, show 128 + (b - 128 + 128 * m) % 128 = b by omega]; rfl

theorem rdU_one (s : RS) (hs : s.ok) (h : (rdU s).2.er = 0) : s.er = 0 ∧ s.bs = encU (rdU s).1 ++ (rdU s).2.bs := by
  unfold rdU at *
  by_cases he : s.er = 0
  · rw [if_pos he] at h ⊢
    cases hd : decA 0 0 s.bs with
    | err e =>
      rw [hd] at h
      rcases decA_err _ _ _ _ hd with rfl | rfl <;> simp [Dec.st, bad] at h
    | got v r =>
      obtain ⟨m, _, _, m2, m3⟩ := decA_one _ _ _ _ _ hs.1 hd
      refine ⟨he, ?_⟩
      simp only [Dec.val, Dec.st]
      rw [m3, m2]; simp
  · rw [if_neg he] at h; exact absurd h he
theorem rdI_one (s : RS) (hs : s.ok) (h : (rdI s).2.er = 0) : s.er = 0 ∧ s.bs = encU (zig (rdI s).1) ++ (rdI s).2.bs := by
  have := rdU_one s hs h
  have hu := (rdU_ok s hs).1
  unfold rdI
  rw [zig_unzig _ hu.1]; exact this
theorem rdO_one (s : RS) (h : (rdO s).2.er = 0) : s.er = 0 ∧ s.bs = (rdO s).1 :: (rdO s).2.bs := by
  unfold rdO at *
  by_cases he : s.er = 0
  · rw [if_pos he] at h ⊢
    cases hb : s.bs with
    | nil => rw [hb] at h; simp [bad] at h
    | cons b t => exact ⟨he, rfl⟩
  · rw [if_neg he] at h; exact absurd h he
theorem rdB_one (s : RS) (hs : s.ok) (h : (rdB s).2.er = 0) : s.er = 0 ∧ s.bs = (if (rdB s).1 then 1 else 0) :: (rdB s).2.bs := by
  unfold rdB at *
  by_cases he : s.er = 0
  · rw [if_pos he] at h ⊢
    cases hb : s.bs with
    | nil => rw [hb] at h; simp [bad] at h
    | cons b t =>
      rw [hb] at h
      have hbb := hs.1 b (by rw [hb]; simp)
      unfold byteI at hbb
      by_cases h1 : 1 < b
      · simp [h1, bad] at h
      · refine ⟨he, ?_⟩
        have : b = 0 ∨ b = 1 := by omega
        rcases this with rfl | rfl <;> simp
  · rw [if_neg he] at h; exact absurd h he
theorem rdN_one (f : RS → Int × RS) (enc : Int → List Int) (hok : ∀ s : RS, s.ok → (f s).2.ok) (hf : ∀ s : RS, s.ok → (f s).2.er = 0 → s.er = 0 ∧ s.bs = enc (f s).1 ++ (f s).2.bs) :
    ∀ (k : Nat) (acc : List Int) (s : RS), s.ok → (rdN f k acc s).2.er = 0 → ∃ x, x.length = k ∧ (rdN f k acc s).1 = acc ++ x ∧ s.er = 0 ∧ s.bs = x.flatMap enc ++ (rdN f k acc s).2.bs := by
  intro k
  induction k with
  | zero => intro acc s hs h; exact ⟨[], rfl, by simp [rdN], h, by simp [rdN]⟩
  | succ k ih =>
    intro acc s hs h
    by_cases he : (f s).2.er = 0
    · rw [rdN, if_pos he] at h ⊢
      obtain ⟨x, x1, x2, x3, x4⟩ := ih _ _ (hok s hs) h
      obtain ⟨y1, y2⟩ := hf s hs he
      exact ⟨(f s).1 :: x, by simp [x1], by rw [x2]; simp, y1, by rw [y2, x4]; simp⟩
    · rw [rdN, if_neg he] at h; exact absurd h he
theorem rdL_one (f : RS → Int × RS) (enc : Int → List Int) (hok : ∀ s : RS, s.ok → (f s).2.ok) (hf : ∀ s : RS, s.ok → (f s).2.er = 0 → s.er = 0 ∧ s.bs = enc (f s).1 ++ (f s).2.bs) (s : RS) (hs : s.ok) (h : (rdL f s).2.er = 0) :
    s.er = 0 ∧ s.bs = encU (rdL f s).1.length ++ (rdL f s).1.flatMap enc ++ (rdL f s).2.bs := by
  obtain ⟨hu, huok, _, _⟩ := rdU_ok s hs
  unfold rdL at *
  by_cases he : (rdU s).2.er = 0
  · rw [if_pos he] at h ⊢
    obtain ⟨y1, y2⟩ := rdU_one s hs he
    by_cases hm : (rdU s).1 ≤ (rdU s).2.bs.length
    · rw [if_pos hm] at h ⊢
      obtain ⟨x, x1, x2, x3, x4⟩ := rdN_one f enc hok hf _ _ _ huok h
      refine ⟨y1, ?_⟩
      unfold u64 at hu
      rw [x2, List.nil_append, x1, show (((rdU s).1.toNat : Nat) : Int) = (rdU s).1 by omega, y2, List.append_assoc]
      congr 1
    · rw [if_neg hm] at h; simp [bad] at h
  · rw [if_neg he] at h; exact absurd h he
theorem flat_id (l : List Int) : l.flatMap (fun b => [b]) = l := by induction l <;> simp_all
theorem rdL_O_one (s : RS) (hs : s.ok) (h : (rdL rdO s).2.er = 0) : s.er = 0 ∧ s.bs = encR (rdL rdO s).1 ++ (rdL rdO s).2.bs := by
  have := rdL_one rdO (fun b => [b]) (fun s hs => (rdO_ok s hs).2.1) (fun s hs h => by simpa using rdO_one s h) s hs h
  rw [flat_id] at this; exact this
theorem rdL_I_one (s : RS) (hs : s.ok) (h : (rdL rdI s).2.er = 0) : s.er = 0 ∧ s.bs = encL (rdL rdI s).1 ++ (rdL rdI s).2.bs :=
  rdL_one rdI (fun n => encU (zig n)) (fun s hs => (rdI_ok s hs).2.1) (fun s hs h => rdI_one s hs h) s hs h
theorem rdV_one (k : Int) (s : RS) (hs : s.ok) (h : (rdV k s).2.er = 0) : s.er = 0 ∧ s.bs = encV (rdV k s).1 ++ (rdV k s).2.bs := by
  unfold rdV at *
  by_cases k0 : k = 0
  · rw [if_pos k0] at h ⊢; simpa [encV, k0] using rdU_one s hs h
  rw [if_neg k0] at h ⊢
  by_cases k1 : k = 1
  · rw [if_pos k1] at h ⊢; simpa [encV, k1] using rdI_one s hs h
  rw [if_neg k1] at h ⊢
  by_cases k2 : k = 2
  · rw [if_pos k2] at h ⊢
    have := rdB_one s hs h
    refine ⟨this.1, ?_⟩
    rw [this.2]
    cases (rdB s).1 <;> simp [encV, k2]
  rw [if_neg k2] at h ⊢
  by_cases k3 : k = 3 ∨ k = 4
  · rw [if_pos k3] at h ⊢
    simpa [encV, k0, k1, k2, k3] using rdL_O_one s hs h
  · rw [if_neg k3] at h ⊢
    simpa [encV, k0, k1, k2, k3] using rdL_I_one s hs h
end Go.Proofs.Ytjnjglkmabnlfaa
