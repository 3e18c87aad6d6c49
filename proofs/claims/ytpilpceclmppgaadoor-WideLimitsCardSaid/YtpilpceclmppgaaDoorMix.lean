/- The mixing step of the hash: as the walk spells it, as a step on 64 bits, and that it is one-to-one in each of its two arguments. No Go text. -/
import Derived.RowKit
import Derived.Laws.Bits64
namespace Go.Proofs.YtpilpceclmppgaaDoor
open Go.RowKit

/-- the step on 64 bits -/
def mixB (s x : BitVec 64) : BitVec 64 :=
  let m := (s ^^^ x) * 11400714819323198485#64
  m ^^^ (m >>> 32)

theorem mulM_inj (a b : BitVec 64) (h : a * 11400714819323198485#64 = b * 11400714819323198485#64) : a = b := by
  have e : (11400714819323198485#64 : BitVec 64) * 17428512612931826493#64 = 1#64 := by decide
  have h2 : a * 11400714819323198485#64 * 17428512612931826493#64 = b * 11400714819323198485#64 * 17428512612931826493#64 := by rw [h]
  rwa [BitVec.mul_assoc, BitVec.mul_assoc, e, BitVec.mul_one, BitVec.mul_one] at h2

theorem fold32_inv (m : BitVec 64) : (m ^^^ (m >>> 32)) ^^^ ((m ^^^ (m >>> 32)) >>> 32) = m := by
  rw [BitVec.ushiftRight_xor_distrib, ← BitVec.shiftRight_add]
  have z : m >>> (32 + 32) = 0#64 := BitVec.ushiftRight_eq_zero (by decide)
  rw [z, BitVec.xor_zero, BitVec.xor_assoc, BitVec.xor_self, BitVec.xor_zero]

theorem fold32_inj (a b : BitVec 64) (h : a ^^^ (a >>> 32) = b ^^^ (b >>> 32)) : a = b := by
  rw [← fold32_inv a, h, fold32_inv b]

theorem mixB_right (s x y : BitVec 64) (h : mixB s x = mixB s y) : x = y := by
  have h1 := mulM_inj _ _ (fold32_inj _ _ h)
  have h2 : s ^^^ (s ^^^ x) = s ^^^ (s ^^^ y) := by rw [h1]
  rwa [← BitVec.xor_assoc, ← BitVec.xor_assoc, BitVec.xor_self, BitVec.zero_xor, BitVec.zero_xor] at h2
theorem mixB_comm (s x : BitVec 64) : mixB s x = mixB x s := by unfold mixB; rw [BitVec.xor_comm s x]
theorem mixB_left (s t x : BitVec 64) (h : mixB s x = mixB t x) : s = t := by
  rw [mixB_comm s, mixB_comm t] at h; exact mixB_right _ _ _ h

/-- the step as the walk spells it -/
def mixI (s x : Int) : Int :=
  bits BinOp.xor IntKind.u64 (IntKind.u64.wrap (bits BinOp.xor IntKind.u64 s x * 11400714819323198485))
    (IntKind.u64.wrap (bits BinOp.xor IntKind.u64 s x * 11400714819323198485) / 4294967296)

theorem ofInt_toNat (n : Int) : ((BitVec.ofInt 64 n).toNat : Int) = n % 18446744073709551616 := by
  rw [BitVec.toNat_ofInt]; omega
theorem wrap_u64_eq (n : Int) : IntKind.u64.wrap n = ((BitVec.ofInt 64 n).toNat : Int) := by
  rw [IntKind.wrap_u64, ofInt_toNat]
theorem xor_eq (a b : Int) : bits BinOp.xor IntKind.u64 a b = ((BitVec.ofInt 64 a ^^^ BitVec.ofInt 64 b).toNat : Int) := by
  show IntKind.u64.wrap ((BitVec.ofInt 64 a ^^^ BitVec.ofInt 64 b).toNat : Int) = _
  rw [IntKind.wrap_u64]
  have := (BitVec.ofInt 64 a ^^^ BitVec.ofInt 64 b).isLt
  omega
theorem mixI_eq (s x : Int) : mixI s x = ((mixB (BitVec.ofInt 64 s) (BitVec.ofInt 64 x)).toNat : Int) := by
  unfold mixI mixB
  rw [xor_eq s x, wrap_u64_eq, xor_eq]
  have e1 : BitVec.ofInt 64 (((BitVec.ofInt 64 s ^^^ BitVec.ofInt 64 x).toNat : Int) * 11400714819323198485) = (BitVec.ofInt 64 s ^^^ BitVec.ofInt 64 x) * 11400714819323198485#64 := by
    rw [BitVec.ofInt_mul, BitVec.ofInt_natCast, BitVec.ofNat_toNat, BitVec.setWidth_eq]; rfl
  rw [e1]
  generalize (BitVec.ofInt 64 s ^^^ BitVec.ofInt 64 x) * 11400714819323198485#64 = m
  have e2 : BitVec.ofInt 64 ((m.toNat : Int)) = m := by rw [BitVec.ofInt_natCast, BitVec.ofNat_toNat, BitVec.setWidth_eq]
  have e3 : BitVec.ofInt 64 ((m.toNat : Int) / 4294967296) = m >>> 32 := by
    have : ((m.toNat : Int) / 4294967296) = ((m.toNat / 4294967296 : Nat) : Int) := by omega
    rw [this, BitVec.ofInt_natCast]
    apply BitVec.eq_of_toNat_eq
    rw [BitVec.toNat_ofNat, BitVec.toNat_ushiftRight, Nat.shiftRight_eq_div_pow]
    have := m.isLt
    omega
  rw [e2, e3]

def u64 (n : Int) : Prop := 0 ≤ n ∧ n ≤ 18446744073709551615
theorem mixI_u64 (s x : Int) : u64 (mixI s x) := by
  rw [mixI_eq]; have := (mixB (BitVec.ofInt 64 s) (BitVec.ofInt 64 x)).isLt; unfold u64; omega
theorem ofInt_inj (a b : Int) (ha : u64 a) (hb : u64 b) (h : BitVec.ofInt 64 a = BitVec.ofInt 64 b) : a = b := by
  have := congrArg (fun v : BitVec 64 => (v.toNat : Int)) h
  simp only [ofInt_toNat] at this
  unfold u64 at ha hb; omega
theorem toNat_inj {a b : BitVec 64} (h : (a.toNat : Int) = (b.toNat : Int)) : a = b := BitVec.eq_of_toNat_eq (by omega)
theorem mixI_right (s x y : Int) (hx : u64 x) (hy : u64 y) (h : mixI s x = mixI s y) : x = y := by
  rw [mixI_eq, mixI_eq] at h; exact ofInt_inj _ _ hx hy (mixB_right _ _ _ (toNat_inj h))
theorem mixI_left (s t x : Int) (hs : u64 s) (ht : u64 t) (h : mixI s x = mixI t x) : s = t := by
  rw [mixI_eq, mixI_eq] at h; exact ofInt_inj _ _ hs ht (mixB_left _ _ _ (toNat_inj h))
end Go.Proofs.YtpilpceclmppgaaDoor
