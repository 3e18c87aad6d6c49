/- The mixing step of the hash: as the walk spells it, as a step on 64 bits, and that it is one-to-one in each of its two arguments. No Go text. · Bytes in groups of eight, read as numbers, the lowest byte first. No Go text. -/
import Derived.RowKit
import Derived.Laws.Bits64
namespace Go.Proofs.YtocooajlfpngdaaGreatDoor
open Go.RowKit

def u64 (n : Int) : Prop := 0 ≤ n ∧ n ≤ 18446744073709551615
theorem toNat_inj {a b : BitVec 64} (h : (a.toNat : Int) = (b.toNat : Int)) : a = b := BitVec.eq_of_toNat_eq (by omega)
end Go.Proofs.YtocooajlfpngdaaGreatDoor
namespace Go.Proofs.YtocooajlfpngdaaGreatDoor

def byteI (b : Int) : Prop := 0 ≤ b ∧ b ≤ 255
end Go.Proofs.YtocooajlfpngdaaGreatDoor
