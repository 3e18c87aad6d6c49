/- One group of bytes decides the hash; one byte of the label decides it; a further zero byte changes it. No Go text. -/
import Derived.Test.YtjnjglkmabnlfaaInj
namespace Go.Proofs.Ytjnjglkmabnlfaa
open Go.RowKit

theorem leI_inj : ∀ (l r : List Int), l.length = r.length → (∀ b ∈ l, byteI b) → (∀ b ∈ r, byteI b) → leI l = leI r → l = r
  | [], [], _, _, _, _ => rfl
  | [], _ :: _, h, _, _, _ => by simp at h
  | _ :: _, [], h, _, _, _ => by simp at h
  | a :: l, b :: r, h, ha, hb, e => by
    rw [leI_cons, leI_cons] at e
    have h1 := ha a (by simp)
    have h2 := hb b (by simp)
    unfold byteI at h1 h2
    have e1 : a = b := by omega
    have e2 : leI l = leI r := by omega
    rw [e1, leI_inj l r (by simpa using h) (fun x hx => ha x (by simp [hx])) (fun x hx => hb x (by simp [hx])) e2]

theorem seg_get (zs : List Int) (a b j : Nat) (h : j < b - a) : (seg zs a b)[j]? = zs[a + j]? := by
  unfold seg; rw [List.getElem?_take, if_pos h, List.getElem?_drop]
theorem seg_congr (xs ys : List Int) (a b : Nat) (hx : b ≤ xs.length) (hy : b ≤ ys.length) (h : ∀ i, a ≤ i → i < b → xs[i]? = ys[i]?) : seg xs a b = seg ys a b := by
  apply List.ext_getElem?
  intro j
  by_cases hj : j < b - a
  · rw [seg_get _ _ _ _ hj, seg_get _ _ _ _ hj]; exact h _ (by omega) (by omega)
  · rw [List.getElem?_eq_none (by rw [seg_len _ _ _ hx]; omega), List.getElem?_eq_none (by rw [seg_len _ _ _ hy]; omega)]
theorem wordAt_congr (xs ys : List Int) (hl : xs.length = ys.length) (g : Nat) (h : ∀ i, i / 8 = g → xs[i]? = ys[i]?) : wordAt xs g = wordAt ys g := by
  unfold wordAt; rw [hl]
  rw [seg_congr xs ys _ _ (by omega) (by omega) (fun i h1 h2 => h i (by omega))]

theorem map_range_split {α : Type} (f : Nat → α) (k g : Nat) (h : g < k) : (List.range k).map f = (List.range g).map f ++ f g :: (List.range (k - g - 1)).map (fun i => f (g + 1 + i)) := by
  obtain ⟨m, rfl⟩ : ∃ m, k = g + (1 + m) := ⟨k - g - 1, by omega⟩
  rw [List.range_add, List.map_append, show g + (1 + m) - g - 1 = m from by omega, List.range_add]
  simp [List.range_one, List.map_map, Function.comp_def, Nat.add_assoc]

/-- words that differ in the group g at the most -/
theorem wordsI_split (xs ys : List Int) (hl : xs.length = ys.length) (g : Nat) (hg : g < (xs.length + 7) / 8) (h : ∀ i, i / 8 ≠ g → xs[i]? = ys[i]?) :
    ∃ l r, wordsI xs = l ++ wordAt xs g :: r ∧ wordsI ys = l ++ wordAt ys g :: r := by
  refine ⟨(List.range g).map (wordAt xs), (List.range ((xs.length + 7) / 8 - g - 1)).map (fun i => wordAt xs (g + 1 + i)), map_range_split _ _ _ hg, ?_⟩
  have e1 : (List.range g).map (wordAt xs) = (List.range g).map (wordAt ys) := by
    apply List.map_congr_left
    intro i hi
    have : i < g := by simpa using hi
    exact wordAt_congr xs ys hl i (fun j hj => h j (by omega))
  have e2 : (fun i => wordAt xs (g + 1 + i)) = (fun i => wordAt ys (g + 1 + i)) := by
    funext i
    exact wordAt_congr xs ys hl _ (fun j hj => h j (by omega))
  rw [e1, e2]
  unfold wordsI wordsUpto
  rw [← hl]
  exact map_range_split _ _ _ hg

/-- lists of bytes of one length that agree outside the group g and in its number are equal -/
theorem eq_of_word (xs ys : List Int) (hl : xs.length = ys.length) (hx : ∀ b ∈ xs, byteI b) (hy : ∀ b ∈ ys, byteI b) (g : Nat) (h : ∀ i, i / 8 ≠ g → xs[i]? = ys[i]?) (e : wordAt xs g = wordAt ys g) : xs = ys := by
  unfold wordAt at e
  rw [hl] at e
  have e2 := leI_inj _ _ (by unfold seg; simp; omega) (fun b hb => hx b (seg_mem hb)) (fun b hb => hy b (seg_mem hb)) e
  apply List.ext_getElem?
  intro i
  by_cases hi : i / 8 = g
  · by_cases hlt : i < ys.length
    · have h1 := seg_get xs (8 * g) (min (8 * g + 8) ys.length) (i - 8 * g) (by omega)
      have h2 := seg_get ys (8 * g) (min (8 * g + 8) ys.length) (i - 8 * g) (by omega)
      rw [e2, h2] at h1
      rw [show 8 * g + (i - 8 * g) = i from by omega] at h1
      exact h1.symm
    · rw [List.getElem?_eq_none (by omega), List.getElem?_eq_none (by omega)]
  · exact h i hi

/-- the bytes' hash: one group decides it -/
theorem bytesI_group (lab xs ys : List Int) (hl : xs.length = ys.length) (hx : ∀ b ∈ xs, byteI b) (hy : ∀ b ∈ ys, byteI b) (g : Nat) (hg : g < (xs.length + 7) / 8) (h : ∀ i, i / 8 ≠ g → xs[i]? = ys[i]?) :
    bytesI lab xs = bytesI lab ys ↔ xs = ys := by
  constructor
  · intro e
    obtain ⟨l, r, e1, e2⟩ := wordsI_split xs ys hl g hg h
    unfold bytesI at e
    rw [e1, e2, hl, List.map_append, List.map_append, List.map_cons, List.map_cons, List.append_assoc, List.append_assoc, List.cons_append, List.cons_append] at e
    have e3 := sumI_one _ _ _ _ _ e
    rw [toU_wrap _ (wordAt_u64 xs hx g), toU_wrap _ (wordAt_u64 ys hy g)] at e3
    exact eq_of_word xs ys hl hx hy g h e3
  · rintro rfl; rfl

/-- the label: one byte decides the hash -/
theorem sumI_label (la lb ws : List Int) (hl : la.length = lb.length) (hx : ∀ b ∈ la, byteI b) (hy : ∀ b ∈ lb, byteI b) (g : Nat) (hg : g < (la.length + 7) / 8) (h : ∀ i, i / 8 ≠ g → la[i]? = lb[i]?) :
    sumI la ws = sumI lb ws ↔ la = lb := by
  constructor
  · intro e
    obtain ⟨l, r, e1, e2⟩ := wordsI_split la lb hl g hg h
    rw [sumI_eq, sumI_eq] at e
    have h1 := mixI_left _ _ _ (foldM_u64 _ (headM_u64 _ _) _) (foldM_u64 _ (headM_u64 _ _) _) e
    have h2 := foldM_left _ _ (headM_u64 _ _) (headM_u64 _ _) _ h1
    unfold headM at h2
    rw [hl] at h2
    have h3 := mixI_left _ _ _ (mixI_u64 _ _) (mixI_u64 _ _) h2
    have h4 := mixI_left _ _ _ (foldM_u64 _ u0 _) (foldM_u64 _ u0 _) h3
    rw [e1, e2] at h4
    exact eq_of_word la lb hl hx hy g h (foldM_one _ u0 _ _ _ _ (wordAt_u64 la hx g) (wordAt_u64 lb hy g) h4)
  · rintro rfl; rfl

/-- a further zero byte in an open group leaves the words -/
theorem seg_zero (zs : List Int) (a b : Nat) (h : b ≤ zs.length) : seg (zs ++ [0]) a b = seg zs a b := by
  unfold seg
  rw [List.drop_append, List.take_append_of_le_length]
  simp; omega
theorem leI_zero (l : List Int) : leI (l ++ [0]) = leI l := by rw [leI_snoc]; omega
theorem wordsI_zero (zs : List Int) (h : zs.length % 8 ≠ 0) : wordsI (zs ++ [0]) = wordsI zs := by
  unfold wordsI wordsUpto
  have el : (zs ++ [(0 : Int)]).length = zs.length + 1 := by simp
  rw [el, show (zs.length + 1 + 7) / 8 = (zs.length + 7) / 8 from by omega]
  apply List.map_congr_left
  intro i hi
  have hi' : i < (zs.length + 7) / 8 := by simpa using hi
  unfold wordAt
  by_cases hlast : 8 * i + 8 ≤ zs.length
  · rw [Nat.min_eq_left (by simp; omega), Nat.min_eq_left hlast, seg_zero _ _ _ hlast]
  · rw [Nat.min_eq_right (by simp; omega), Nat.min_eq_right (by omega)]
    have : seg (zs ++ [0]) (8 * i) (zs ++ [0]).length = seg zs (8 * i) zs.length ++ [0] := by
      unfold seg
      rw [List.take_of_length_le (by simp), List.take_of_length_le (by simp), List.drop_append_of_le_length (by omega)]
    rw [this, leI_zero]
theorem bytesI_zero (lab zs : List Int) (h : zs.length % 8 ≠ 0) (hb : zs.length ≤ 1000000) : bytesI lab (zs ++ [0]) ≠ bytesI lab zs := by
  intro e
  unfold bytesI at e
  rw [wordsI_zero zs h] at e
  have e3 := toU_inj _ _ (by simp; omega) (by omega) (sumI_one _ _ [] _ _ e)
  simp at e3
  omega
end Go.Proofs.Ytjnjglkmabnlfaa
