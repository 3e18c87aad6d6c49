/- One word decides the hash: the plain mathematics behind the laws. No Go text. -/
import Derived.Test.YtjnjglkmabnlfaaSumM
import Derived.Test.YtjnjglkmabnlfaaConv
namespace Go.Proofs.Ytjnjglkmabnlfaa
open Go.RowKit

theorem toU_wrap (a : Int) (h : u64 a) : toU (wrap64 a) = a := by
  unfold toU u64 wrap64 at *; rw [IntKind.wrap_u64]; omega

/-- the state before the words -/
def headM (lab : List Int) (k : Nat) : Int := mixI (mixI (foldM 0 (wordsI lab)) lab.length) k
theorem headM_u64 (lab : List Int) (k : Nat) : u64 (headM lab k) := mixI_u64 _ _
theorem sumI_eq (lab ws : List Int) : sumI lab ws = mixI (foldM (headM lab ws.length) (ws.map toU)) 0 := rfl

/-- two folds over lists that differ in one place -/
theorem foldM_one (s : Int) (_hs : u64 s) (l r : List Int) (x y : Int) (hx : u64 x) (hy : u64 y) (h : foldM s (l ++ x :: r) = foldM s (l ++ y :: r)) : x = y := by
  rw [foldM_append, foldM_append] at h
  exact mixI_right _ _ _ hx hy (foldM_left _ _ (mixI_u64 _ _) (mixI_u64 _ _) r h)

/-- lists of words of one length that differ in one place at the most: equal hashes, equal words -/
theorem sumI_one (lab l r : List Int) (x y : Int) (h : sumI lab (l ++ x :: r) = sumI lab (l ++ y :: r)) : toU x = toU y := by
  rw [sumI_eq, sumI_eq] at h
  have hl : (l ++ x :: r).length = (l ++ y :: r).length := by simp
  rw [hl] at h
  have h1 := mixI_left _ _ _ (foldM_u64 _ (headM_u64 _ _) _) (foldM_u64 _ (headM_u64 _ _) _) h
  rw [List.map_append, List.map_append, List.map_cons, List.map_cons] at h1
  exact foldM_one _ (headM_u64 _ _) _ _ _ _ (toU_u64 _) (toU_u64 _) h1

theorem pairI_left (a b c : Int) (ha : u64 a) (hb : u64 b) (h : pairI a c = pairI b c) : a = b := by
  have := sumI_one [112, 97, 105, 114] [] [wrap64 c] (wrap64 a) (wrap64 b) h
  rwa [toU_wrap a ha, toU_wrap b hb] at this
theorem pairI_right (a b c : Int) (ha : u64 a) (hb : u64 b) (h : pairI c a = pairI c b) : a = b := by
  have := sumI_one [112, 97, 105, 114] [wrap64 c] [] (wrap64 a) (wrap64 b) h
  rwa [toU_wrap a ha, toU_wrap b hb] at this

/-- one element replaced -/
theorem sumI_set (lab l : List Int) (k : Nat) (hk : k < l.length) (v : Int) (hl : ∀ x ∈ l, -9223372036854775808 ≤ x ∧ x ≤ 9223372036854775807) (hv : -9223372036854775808 ≤ v ∧ v ≤ 9223372036854775807) :
    sumI lab l = sumI lab (l.set k v) ↔ l[k]?.getD 0 = v := by
  have e1 : l = l.take k ++ l[k] :: l.drop (k + 1) := by
    rw [← List.drop_eq_getElem_cons hk, List.take_append_drop]
  have e2 : l.set k v = l.take k ++ v :: l.drop (k + 1) := by
    rw [List.set_eq_take_append_cons_drop, if_pos hk]
  rw [List.getElem?_eq_getElem hk]
  constructor
  · intro h
    rw [e2] at h
    rw [show sumI lab l = sumI lab (l.take k ++ l[k] :: l.drop (k + 1)) from by rw [← e1]] at h
    exact toU_inj _ _ (hl _ (List.getElem_mem hk)) hv (sumI_one _ _ _ _ _ h)
  · intro h
    have h' : l[k] = v := h
    rw [e2, ← h', ← e1]
end Go.Proofs.Ytjnjglkmabnlfaa
