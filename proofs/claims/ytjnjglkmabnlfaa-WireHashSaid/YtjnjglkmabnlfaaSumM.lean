/- The hash as a function on lists of numbers; that one word decides it. No Go text. -/
import Derived.Test.YtjnjglkmabnlfaaWords
namespace Go.Proofs.Ytjnjglkmabnlfaa
open Go.RowKit

def toU (n : Int) : Int := IntKind.u64.wrap n
theorem toU_def (n : Int) : toU n = IntKind.u64.wrap n := rfl
theorem toU_u64 (n : Int) : u64 (toU n) := by unfold toU u64; rw [IntKind.wrap_u64]; omega
theorem toU_inj (a b : Int) (ha : -9223372036854775808 ≤ a ∧ a ≤ 9223372036854775807) (hb : -9223372036854775808 ≤ b ∧ b ≤ 9223372036854775807) (h : toU a = toU b) : a = b := by
  unfold toU at h; rw [IntKind.wrap_u64, IntKind.wrap_u64] at h; omega

def foldM (s : Int) (l : List Int) : Int := l.foldl mixI s
theorem foldM_nil (s : Int) : foldM s [] = s := rfl
theorem foldM_snoc (s : Int) (l : List Int) (x : Int) : foldM s (l ++ [x]) = mixI (foldM s l) x := by simp [foldM]
theorem foldM_append (s : Int) (l r : List Int) : foldM s (l ++ r) = foldM (foldM s l) r := by simp [foldM]
theorem foldM_u64 (s : Int) (hs : u64 s) (l : List Int) : u64 (foldM s l) := by
  induction l generalizing s with
  | nil => exact hs
  | cons x l ih => exact ih _ (mixI_u64 _ _)
theorem foldM_left (s t : Int) (hs : u64 s) (ht : u64 t) (l : List Int) (h : foldM s l = foldM t l) : s = t := by
  induction l generalizing s t with
  | nil => exact h
  | cons x l ih => exact mixI_left _ _ _ hs ht (ih _ _ (mixI_u64 _ _) (mixI_u64 _ _) h)

/-- all that is mixed in before the last step -/
def sumI (lab ws : List Int) : Int := mixI (foldM (mixI (mixI (foldM 0 (wordsI lab)) lab.length) ws.length) (ws.map toU)) 0
def bytesI (lab bs : List Int) : Int := sumI lab ((wordsI bs).map wrap64 ++ [(bs.length : Int)])
def pairI (a b : Int) : Int := sumI [112, 97, 105, 114] [wrap64 a, wrap64 b]
theorem u0 : u64 0 := by unfold u64; omega
end Go.Proofs.Ytjnjglkmabnlfaa
