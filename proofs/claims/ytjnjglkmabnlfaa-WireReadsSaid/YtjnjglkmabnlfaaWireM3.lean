/- Prefixes of encodings; sequences of values. No Go text. -/
import Derived.Test.YtjnjglkmabnlfaaWireM2
namespace Go.Proofs.Ytjnjglkmabnlfaa
set_option linter.unusedVariables false

theorem rs_eta (s : RS) (h : s.er = 0) : s = ⟨s.bs, 0⟩ := by
  obtain ⟨b, e⟩ := s
  simp only at h
  subst h; rfl

theorem decA_ext : ∀ (l : List Int) (n : Int) (i : Nat) (q : List Int), (∀ v r, decA n i l = .got v r → decA n i (l ++ q) = .got v (r ++ q)) ∧ (decA n i l = .err 2 → decA n i (l ++ q) = .err 2) := by
  intro l
  induction l with
  | nil => intro n i q; exact ⟨fun v r h => by simp [decA] at h, fun h => by simp [decA] at h⟩
  | cons b t ih =>
    intro n i q
    rw [List.cons_append, decA, decA]
    by_cases h1 : (0 < i ∧ b = 0) ∨ (i = 9 ∧ 1 < b)
    · rw [if_pos h1, if_pos h1]; exact ⟨fun v r h => (by cases h), fun h => h⟩
    · rw [if_neg h1, if_neg h1]
      by_cases h2 : b < 128
      · rw [if_pos h2, if_pos h2]
        exact ⟨fun v r h => by simp only [Dec.got.injEq] at h ⊢; exact ⟨h.1, by rw [h.2]⟩, fun h => by cases h⟩
      · rw [if_neg h2, if_neg h2]; exact ih _ _ _

/-- more bytes behind change nothing of a success, nor of a wrong form -/
def Ext {α : Type} (f : RS → α × RS) : Prop :=
  ∀ l q : List Int, ((f ⟨l, 0⟩).2.er = 0 → f ⟨l ++ q, 0⟩ = ((f ⟨l, 0⟩).1, ⟨(f ⟨l, 0⟩).2.bs ++ q, 0⟩)) ∧ ((f ⟨l, 0⟩).2.er = 2 → (f ⟨l ++ q, 0⟩).2.er = 2)
theorem rdU_ext : Ext rdU := by
  intro l q
  have h := decA_ext l 0 0 q
  unfold rdU
  rw [if_pos rfl, if_pos rfl]
  simp only
  cases hd : decA 0 0 l with
  | got v r => rw [h.1 v r hd]; simp [Dec.val, Dec.st]
  | err e =>
    refine ⟨fun h0 => ?_, fun h2 => ?_⟩
    · rcases decA_err _ _ _ _ hd with rfl | rfl <;> simp [Dec.st, bad] at h0
    · have : e = 2 := h2
      subst this
      rw [h.2 hd]; rfl
theorem rdI_ext : Ext rdI := by
  intro l q
  obtain ⟨h1, h2⟩ := rdU_ext l q
  unfold rdI
  exact ⟨fun h => by rw [h1 h], fun h => h2 h⟩
theorem rdO_ext : Ext rdO := by
  intro l q
  unfold rdO
  rw [if_pos rfl, if_pos rfl]
  cases l with
  | nil => simp [bad]
  | cons b t => simp
theorem rdB_ext : Ext rdB := by
  intro l q
  unfold rdB
  rw [if_pos rfl, if_pos rfl]
  cases l with
  | nil => simp [bad]
  | cons b t =>
    by_cases h : 1 < b
    · simp [h, bad]
    · simp [h]
theorem rdN_ext (f : RS → Int × RS) (hf : Ext f) : ∀ k acc, Ext (rdN f k acc) := by
  intro k
  induction k with
  | zero => intro acc l q; simp [rdN]
  | succ k ih =>
    intro acc l q
    obtain ⟨h1, h2⟩ := hf l q
    by_cases he : (f ⟨l, 0⟩).2.er = 0
    · have e := h1 he
      rw [rdN, if_pos he, rdN, e, if_pos rfl]
      have hst := rs_eta _ he
      have := ih (acc ++ [(f ⟨l, 0⟩).1]) (f ⟨l, 0⟩).2.bs q
      rw [← hst] at this
      exact this
    · rw [rdN, if_neg he]
      refine ⟨fun h => absurd h he, fun h => ?_⟩
      have := h2 h
      rw [rdN, if_neg (by rw [this]; omega)]
      exact this
theorem rdL_ext (f : RS → Int × RS) (hf : Ext f) : Ext (rdL f) := by
  intro l q
  obtain ⟨h1, h2⟩ := rdU_ext l q
  by_cases he : (rdU ⟨l, 0⟩).2.er = 0
  · have e := h1 he
    have hst := rs_eta _ he
    unfold rdL
    rw [if_pos he, e, if_pos rfl]
    by_cases hm : (rdU ⟨l, 0⟩).1 ≤ (rdU ⟨l, 0⟩).2.bs.length
    · rw [if_pos hm, if_pos (by simp only [List.length_append]; omega)]
      have := rdN_ext f hf (rdU ⟨l, 0⟩).1.toNat [] (rdU ⟨l, 0⟩).2.bs q
      rw [← hst] at this
      exact this
    · rw [if_neg hm]
      exact ⟨fun h => by simp [bad] at h, fun h => by simp [bad] at h⟩
  · unfold rdL
    rw [if_neg he]
    refine ⟨fun h => absurd h he, fun h => ?_⟩
    have := h2 h
    rw [if_neg (by rw [this]; omega)]
    exact this
theorem rdV_ext (k : Int) : Ext (rdV k) := by
  intro l q
  unfold rdV
  by_cases k0 : k = 0
  · simp only [if_pos k0]; obtain ⟨h1, h2⟩ := rdU_ext l q; exact ⟨fun h => by rw [h1 h], h2⟩
  simp only [if_neg k0]
  by_cases k1 : k = 1
  · simp only [if_pos k1]; obtain ⟨h1, h2⟩ := rdI_ext l q; exact ⟨fun h => by rw [h1 h], h2⟩
  simp only [if_neg k1]
  by_cases k2 : k = 2
  · simp only [if_pos k2]; obtain ⟨h1, h2⟩ := rdB_ext l q; exact ⟨fun h => by rw [h1 h], h2⟩
  simp only [if_neg k2]
  by_cases k3 : k = 3 ∨ k = 4
  · simp only [if_pos k3]; obtain ⟨h1, h2⟩ := rdL_ext rdO rdO_ext l q; exact ⟨fun h => by rw [h1 h], h2⟩
  · simp only [if_neg k3]; obtain ⟨h1, h2⟩ := rdL_ext rdI rdI_ext l q; exact ⟨fun h => by rw [h1 h], h2⟩

/-! ### errors stay -/
def zV (k : Int) : V := ⟨k, 0, 0, [], []⟩
theorem rdU_stay (s : RS) (h : s.er ≠ 0) : rdU s = (0, s) := by unfold rdU; rw [if_neg h]
theorem rdV_stay (k : Int) (s : RS) (h : s.er ≠ 0) : rdV k s = (zV k, s) := by
  have hu := rdU_stay s h
  have hi : rdI s = (0, s) := by unfold rdI; rw [hu]; rfl
  have hb : rdB s = (false, s) := by unfold rdB; rw [if_neg h]
  have hl : ∀ f, rdL f s = ([], s) := fun f => by unfold rdL; rw [hu, if_neg h]
  unfold rdV zV
  rw [hu, hi, hb, hl, hl]
  simp
theorem rdB_ok (s : RS) (hs : s.ok) : (rdB s).2.ok := by
  unfold rdB
  split
  · split
    · exact bad_ok 3 (.inr rfl)
    · rename_i b t hbt
      split
      · exact bad_ok 2 (.inl rfl)
      · exact ⟨fun x hx => hs.1 x (by rw [hbt]; simp only at hx; simp [hx]), by simp, .inl rfl⟩
  · exact hs

/-! ### sequences -/
/-- the values of the kinds, read one by one -/
def rdVs : List Int → RS → List V × RS
  | [], s => ([], s)
  | k :: ks, s => ((rdV k s).1 :: (rdVs ks (rdV k s).2).1, (rdVs ks (rdV k s).2).2)
theorem rdVs_snoc (ks : List Int) (k : Int) : ∀ s, rdVs (ks ++ [k]) s = ((rdVs ks s).1 ++ [(rdV k (rdVs ks s).2).1], (rdV k (rdVs ks s).2).2) := by
  induction ks with
  | nil => intro s; simp [rdVs]
  | cons a ks ih => intro s; simp [rdVs, ih]
theorem rdVs_len (ks : List Int) : ∀ s, (rdVs ks s).1.length = ks.length := by
  induction ks with
  | nil => intro s; rfl
  | cons a ks ih => intro s; simp [rdVs, ih]
theorem rdVs_stay (ks : List Int) : ∀ s : RS, s.er ≠ 0 → (rdVs ks s).2 = s := by
  induction ks with
  | nil => intro s _; rfl
  | cons a ks ih => intro s h; rw [rdVs, rdV_stay a s h]; exact ih s h
theorem rdVs_enc (l : List V) (h : ∀ v ∈ l, v.can) (r : List Int) : rdVs (l.map V.k) ⟨encVs l ++ r, 0⟩ = (l, ⟨r, 0⟩) := by
  induction l with
  | nil => simp [rdVs, encVs]
  | cons v l ih =>
    have e := rdV_enc v (h v (by simp)) (encVs l ++ r)
    have : encVs (v :: l) ++ r = encV v ++ (encVs l ++ r) := by simp [encVs]
    rw [List.map_cons, rdVs, this, e, ih (fun x hx => h x (by simp [hx]))]
theorem rdV_prefix (v : V) (h : v.can) (p q : List Int) (hq : q ≠ []) (hs : (⟨p, 0⟩ : RS).ok) (hok : (rdV v.k ⟨p, 0⟩).2.ok) (e : p ++ q = encV v) : (rdV v.k ⟨p, 0⟩).2 = bad 3 := by
  have hr := rdV_enc v h []
  rw [List.append_nil, ← e] at hr
  obtain ⟨h1, h2⟩ := rdV_ext v.k p q
  have hb := hok.2.1
  have h3 : (rdV v.k ⟨p, 0⟩).2.er = 3 := by
    rcases hok.2.2 with h0 | h0 | h0
    · have := h1 h0
      rw [hr] at this
      have hst := congrArg (fun x => x.2.bs) this
      simp only at hst
      exact absurd (List.append_eq_nil_iff.1 hst.symm).2 hq
    · have := h2 h0
      rw [hr] at this
      simp at this
    · exact h0
  have hbs := hb (by rw [h3]; omega)
  generalize (rdV v.k ⟨p, 0⟩).2 = s at h3 hbs
  obtain ⟨bs, er⟩ := s
  simp only at h3 hbs
  subst h3 hbs; rfl
theorem rdVs_prefix : ∀ (l : List V), (∀ v ∈ l, v.can) → (∀ v ∈ l, ∀ s : RS, s.ok → (rdV v.k s).2.ok) → ∀ (p q : List Int), q ≠ [] → (∀ b ∈ p, byteI b) → p ++ q = encVs l → (rdVs (l.map V.k) ⟨p, 0⟩).2 = bad 3 := by
  intro l
  induction l with
  | nil => intro _ _ p q hq _ e; simp [encVs] at e; exact absurd e.2 hq
  | cons v l ih =>
    intro h hok p q hq hb e
    have hv := h v (by simp)
    have hs : (⟨p, 0⟩ : RS).ok := ⟨hb, by simp, .inl rfl⟩
    have e' : p ++ q = encV v ++ encVs l := by rw [e]; simp [encVs]
    rw [List.map_cons, rdVs]
    rcases List.append_eq_append_iff.1 e' with ⟨a, ha, hqa⟩ | ⟨a, ha, hqa⟩
    · -- the value's encoding goes on behind p
      by_cases han : a = []
      · subst han
        simp only [List.append_nil] at ha
        rw [← ha]
        have hr := rdV_enc v hv []
        rw [List.append_nil] at hr
        rw [hr]
        simp only [List.nil_append] at hqa
        exact ih (fun x hx => h x (by simp [hx])) (fun x hx => hok x (by simp [hx])) [] q hq (by simp) (by rw [hqa]; rfl)
      · have := rdV_prefix v hv p a han hs (hok v (by simp) _ hs) ha.symm
        rw [this]
        exact rdVs_stay _ _ (by simp [bad])
    · rw [ha]
      have hr := rdV_enc v hv a
      rw [hr]
      exact ih (fun x hx => h x (by simp [hx])) (fun x hx => hok x (by simp [hx])) a q hq (fun b hb' => hb b (by rw [ha]; simp [hb'])) hqa.symm
theorem rdVs_one : ∀ (ks : List Int) (s : RS), (∀ k ∈ ks, ∀ s : RS, s.ok → (rdV k s).2.ok) → s.ok → (rdVs ks s).2.er = 0 → s.er = 0 ∧ s.bs = encVs (rdVs ks s).1 ++ (rdVs ks s).2.bs := by
  intro ks
  induction ks with
  | nil => intro s _ _ h; exact ⟨h, by simp [rdVs, encVs]⟩
  | cons k ks ih =>
    intro s hk hs h
    rw [rdVs] at h ⊢
    obtain ⟨h1, h2⟩ := ih _ (fun x hx => hk x (by simp [hx])) (hk k (by simp) s hs) h
    obtain ⟨h3, h4⟩ := rdV_one k s hs h1
    refine ⟨h3, ?_⟩
    rw [h4, h2]; simp [encVs]
theorem endE_ok (s : RS) (hs : s.ok) (h : endE s = 0) : s.er = 0 ∧ s.bs = [] := by
  unfold endE at h
  split at h
  · omega
  · rename_i hn
    refine ⟨h, ?_⟩
    rcases Nat.eq_zero_or_pos s.bs.length with h0 | h0
    · exact List.eq_nil_of_length_eq_zero h0
    · exact absurd ⟨h, h0⟩ hn
end Go.Proofs.Ytjnjglkmabnlfaa
