/- Bytes in groups of eight, read as numbers, the lowest byte first. No Go text. -/
import Derived.Test.YtpilpceclmppgaaDoorMix
namespace Go.Proofs.YtpilpceclmppgaaDoor

/-- the number of a group -/
def leI (l : List Int) : Int := l.foldr (fun b a => 256 * a + b) 0
def byteI (b : Int) : Prop := 0 ≤ b ∧ b ≤ 255
theorem leI_nil : leI [] = 0 := rfl
theorem leI_cons (b : Int) (l : List Int) : leI (b :: l) = 256 * leI l + b := rfl
theorem leI_bd (l : List Int) (h : ∀ b ∈ l, byteI b) : 0 ≤ leI l ∧ leI l < 256 ^ l.length := by
  induction l with
  | nil => simp [leI]
  | cons b l ih =>
    have hb := h b (by simp)
    have hi := ih (fun x hx => h x (by simp [hx]))
    rw [leI_cons, List.length_cons, Int.pow_succ]
    unfold byteI at hb
    omega
theorem leI_snoc (l : List Int) (b : Int) : leI (l ++ [b]) = leI l + b * 256 ^ l.length := by
  induction l with
  | nil => simp [leI]
  | cons x l ih =>
    rw [List.cons_append, leI_cons, ih, leI_cons, List.length_cons, Int.pow_succ]
    rw [Int.mul_add, ← Int.mul_assoc, ← Int.mul_assoc, Int.mul_comm 256 b, Int.mul_assoc b 256, Int.mul_assoc b (256 ^ l.length), Int.mul_comm (256 ^ l.length) 256]
    omega

def seg (zs : List Int) (a b : Nat) : List Int := (zs.drop a).take (b - a)
theorem seg_self (zs : List Int) (a : Nat) : seg zs a a = [] := by simp [seg]
theorem seg_len (zs : List Int) (a b : Nat) (h : b ≤ zs.length) : (seg zs a b).length = b - a := by simp [seg]; omega
theorem seg_cons (zs : List Int) (a b : Nat) (h : a < b) (hb : b ≤ zs.length) : seg zs a b = zs[a]?.getD 0 :: seg zs (a + 1) b := by
  unfold seg
  rw [List.drop_eq_getElem_cons (by omega : a < zs.length)]
  obtain ⟨m, hm⟩ : ∃ m, b - a = m + 1 := ⟨b - a - 1, by omega⟩
  rw [hm, List.take_succ_cons, List.getElem?_eq_getElem (by omega : a < zs.length)]
  have : m = b - (a + 1) := by omega
  rw [this]; rfl
theorem seg_mem {zs : List Int} {a b : Nat} {x : Int} (h : x ∈ seg zs a b) : x ∈ zs := List.mem_of_mem_drop (List.mem_of_mem_take h)
theorem seg_bd (zs : List Int) (hz : ∀ b ∈ zs, byteI b) (a b : Nat) (h : b ≤ zs.length) : 0 ≤ leI (seg zs a b) ∧ leI (seg zs a b) < 256 ^ (b - a) := by
  have := leI_bd (seg zs a b) (fun x hx => hz x (seg_mem hx))
  rwa [seg_len zs a b h] at this
theorem getD_bd (zs : List Int) (hz : ∀ b ∈ zs, byteI b) (k : Nat) (h : k < zs.length) : byteI (zs[k]?.getD 0) := by
  rw [List.getElem?_eq_getElem h]; exact hz _ (List.getElem_mem h)
theorem pow_le7 (n : Nat) (h : n ≤ 7) : (256 : Int) ^ n ≤ 72057594037927936 := by
  have : n = 0 ∨ n = 1 ∨ n = 2 ∨ n = 3 ∨ n = 4 ∨ n = 5 ∨ n = 6 ∨ n = 7 := by omega
  rcases this with h | h | h | h | h | h | h | h <;> subst h <;> decide

/-- the i-th number, the first k of them, all of them -/
def wordAt (zs : List Int) (i : Nat) : Int := leI (seg zs (8 * i) (min (8 * i + 8) zs.length))
def wordsUpto (zs : List Int) (k : Nat) : List Int := (List.range k).map (wordAt zs)
def wordsI (zs : List Int) : List Int := wordsUpto zs ((zs.length + 7) / 8)
theorem wordsUpto_succ (zs : List Int) (k : Nat) : wordsUpto zs (k + 1) = wordsUpto zs k ++ [wordAt zs k] := by simp [wordsUpto, List.range_succ]
theorem wordsUpto_len (zs : List Int) (k : Nat) : (wordsUpto zs k).length = k := by simp [wordsUpto]
theorem wordAt_u64 (zs : List Int) (hz : ∀ b ∈ zs, byteI b) (i : Nat) : u64 (wordAt zs i) := by
  unfold wordAt
  have h := seg_bd zs hz (8 * i) (min (8 * i + 8) zs.length) (by omega)
  have hm : min (8 * i + 8) zs.length - 8 * i ≤ 8 := by omega
  generalize min (8 * i + 8) zs.length - 8 * i = m at h hm
  have hp : (256 : Int) ^ m ≤ 18446744073709551616 := by
    have : m ≤ 7 ∨ m = 8 := by omega
    rcases this with h7 | rfl
    · exact Int.le_trans (pow_le7 m h7) (by decide)
    · decide
  unfold u64; omega
theorem wordsUpto_u64 (zs : List Int) (hz : ∀ b ∈ zs, byteI b) (k : Nat) : ∀ x ∈ wordsUpto zs k, u64 x := by
  intro x hx
  obtain ⟨i, _, rfl⟩ := List.mem_map.1 hx
  exact wordAt_u64 zs hz i
end Go.Proofs.YtpilpceclmppgaaDoor
