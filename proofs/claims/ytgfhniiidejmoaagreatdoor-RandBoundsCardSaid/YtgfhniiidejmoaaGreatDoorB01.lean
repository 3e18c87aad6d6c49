/- The mixing step of the hash: as the walk spells it, as a step on 64 bits, and that it is one-to-one in each of its two arguments. No Go text. · Bytes in groups of eight, read as numbers, the lowest byte first. No Go text. · The hash as a function on lists of numbers; that one word decides it. No Go text. -/
import Derived.RowKit
import Derived.Laws.Bits64
namespace Go.Proofs.YtgfhniiidejmoaaGreatDoor
open Go.RowKit

/-- the step on 64 bits -/
def mixB (s x : BitVec 64) : BitVec 64 :=
  let m := (s ^^^ x) * 11400714819323198485#64
  m ^^^ (m >>> 32)

/-- the step as the walk spells it -/
def mixI (s x : Int) : Int :=
  bits BinOp.xor IntKind.u64 (IntKind.u64.wrap (bits BinOp.xor IntKind.u64 s x * 11400714819323198485))
    (IntKind.u64.wrap (bits BinOp.xor IntKind.u64 s x * 11400714819323198485) / 4294967296)

theorem ofInt_toNat (n : Int) : ((BitVec.ofInt 64 n).toNat : Int) = n % 18446744073709551616 := by
  rw [BitVec.toNat_ofInt]; omega
theorem wrap_u64_eq (n : Int) : IntKind.u64.wrap n = ((BitVec.ofInt 64 n).toNat : Int) := by
  rw [IntKind.wrap_u64, ofInt_toNat]
theorem xor_eq (a b : Int) : bits BinOp.xor IntKind.u64 a b = ((BitVec.ofInt 64 a ^^^ BitVec.ofInt 64 b).toNat : Int) := by
  show IntKind.u64.wrap ((BitVec.ofInt 64 a ^^^ BitVec.ofInt 64 b).toNat : Int) = _
  rw [IntKind.wrap_u64]
  have := (BitVec.ofInt 64 a ^^^ BitVec.ofInt 64 b).isLt
  omega
theorem mixI_eq (s x : Int) : mixI s x = ((mixB (BitVec.ofInt 64 s) (BitVec.ofInt 64 x)).toNat : Int) := by
  unfold mixI mixB
  rw [xor_eq s x, wrap_u64_eq, xor_eq]
  have e1 : BitVec.ofInt 64 (((BitVec.ofInt 64 s ^^^ BitVec.ofInt 64 x).toNat : Int) * 11400714819323198485) = (BitVec.ofInt 64 s ^^^ BitVec.ofInt 64 x) * 11400714819323198485#64 := by
    rw [BitVec.ofInt_mul, BitVec.ofInt_natCast, BitVec.ofNat_toNat, BitVec.setWidth_eq]; rfl
  rw [e1]
  generalize (BitVec.ofInt 64 s ^^^ BitVec.ofInt 64 x) * 11400714819323198485#64 = m
  have e2 : BitVec.ofInt 64 ((m.toNat : Int)) = m := by rw [BitVec.ofInt_natCast, BitVec.ofNat_toNat, BitVec.setWidth_eq]
  have e3 : BitVec.ofInt 64 ((m.toNat : Int) / 4294967296) = m >>> 32 := by
    have : ((m.toNat : Int) / 4294967296) = ((m.toNat / 4294967296 : Nat) : Int) := by omega
    rw [this, BitVec.ofInt_natCast]
    apply BitVec.eq_of_toNat_eq
    rw [BitVec.toNat_ofNat, BitVec.toNat_ushiftRight, Nat.shiftRight_eq_div_pow]
    have := m.isLt
    omega
  rw [e2, e3]

def u64 (n : Int) : Prop := 0 ≤ n ∧ n ≤ 18446744073709551615
theorem mixI_u64 (s x : Int) : u64 (mixI s x) := by
  rw [mixI_eq]; have := (mixB (BitVec.ofInt 64 s) (BitVec.ofInt 64 x)).isLt; unfold u64; omega
theorem toNat_inj {a b : BitVec 64} (h : (a.toNat : Int) = (b.toNat : Int)) : a = b := BitVec.eq_of_toNat_eq (by omega)
end Go.Proofs.YtgfhniiidejmoaaGreatDoor
namespace Go.Proofs.YtgfhniiidejmoaaGreatDoor

/-- the number of a group -/
def leI (l : List Int) : Int := l.foldr (fun b a => 256 * a + b) 0
def byteI (b : Int) : Prop := 0 ≤ b ∧ b ≤ 255
theorem leI_cons (b : Int) (l : List Int) : leI (b :: l) = 256 * leI l + b := rfl
theorem leI_bd (l : List Int) (h : ∀ b ∈ l, byteI b) : 0 ≤ leI l ∧ leI l < 256 ^ l.length := by
  induction l with
  | nil => simp [leI]
  | cons b l ih =>
    have hb := h b (by simp)
    have hi := ih (fun x hx => h x (by simp [hx]))
    rw [leI_cons, List.length_cons, Int.pow_succ]
    unfold byteI at hb
    omega
theorem leI_snoc (l : List Int) (b : Int) : leI (l ++ [b]) = leI l + b * 256 ^ l.length := by
  induction l with
  | nil => simp [leI]
  | cons x l ih =>
    rw [List.cons_append, leI_cons, ih, leI_cons, List.length_cons, Int.pow_succ]
    rw [Int.mul_add, ← Int.mul_assoc, ← Int.mul_assoc, Int.mul_comm 256 b, Int.mul_assoc b 256, Int.mul_assoc b (256 ^ l.length), Int.mul_comm (256 ^ l.length) 256]
    omega

def seg (zs : List Int) (a b : Nat) : List Int := (zs.drop a).take (b - a)
theorem getD_bd (zs : List Int) (hz : ∀ b ∈ zs, byteI b) (k : Nat) (h : k < zs.length) : byteI (zs[k]?.getD 0) := by
  rw [List.getElem?_eq_getElem h]; exact hz _ (List.getElem_mem h)
/-- the i-th number, the first k of them, all of them -/
def wordAt (zs : List Int) (i : Nat) : Int := leI (seg zs (8 * i) (min (8 * i + 8) zs.length))
def wordsUpto (zs : List Int) (k : Nat) : List Int := (List.range k).map (wordAt zs)
def wordsI (zs : List Int) : List Int := wordsUpto zs ((zs.length + 7) / 8)
theorem wordsUpto_succ (zs : List Int) (k : Nat) : wordsUpto zs (k + 1) = wordsUpto zs k ++ [wordAt zs k] := by simp [wordsUpto, List.range_succ]
theorem wordsUpto_len (zs : List Int) (k : Nat) : (wordsUpto zs k).length = k := by simp [wordsUpto]
end Go.Proofs.YtgfhniiidejmoaaGreatDoor
namespace Go.Proofs.YtgfhniiidejmoaaGreatDoor
open Go.RowKit

def toU (n : Int) : Int := IntKind.u64.wrap n
theorem toU_def (n : Int) : toU n = IntKind.u64.wrap n := rfl
def foldM (s : Int) (l : List Int) : Int := l.foldl mixI s
theorem foldM_snoc (s : Int) (l : List Int) (x : Int) : foldM s (l ++ [x]) = mixI (foldM s l) x := by simp [foldM]
/-- all that is mixed in before the last step -/
def sumI (lab ws : List Int) : Int := mixI (foldM (mixI (mixI (foldM 0 (wordsI lab)) lab.length) ws.length) (ws.map toU)) 0
theorem u0 : u64 0 := by unfold u64; omega
end Go.Proofs.YtgfhniiidejmoaaGreatDoor
