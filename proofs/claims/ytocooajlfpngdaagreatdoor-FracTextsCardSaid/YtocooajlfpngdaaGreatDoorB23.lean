/- A string turned into bytes: what is read behind it. No Go text. -/
import Derived.Test.YtocooajlfpngdaaGreatDoorB02
import Derived.Test.YtocooajlfpngdaaGreatDoorB01
import Derived.Lib.ConvBytes
namespace Go.Proofs.YtocooajlfpngdaaGreatDoor
open Go.RowKit

/-- a string's bytes as numbers -/
def sB (s : ByteArray) : List Int := s.data.toList.map fun b => (b.toNat : Int)
theorem sB_len (s : ByteArray) : (sB s).length = s.size := by simp [sB]
theorem sB_byte (s : ByteArray) : ∀ b ∈ sB s, byteI b := by
  intro b hb
  obtain ⟨c, _, rfl⟩ := List.mem_map.1 hb
  have := c.toNat_lt
  unfold byteI; omega
theorem sB_at (s : ByteArray) (j : Nat) (hj : j < s.size) : (sB s)[j]?.getD 0 = ((s.data.toList.getD j 0).toNat : Int) := by
  have hl : j < s.data.toList.length := by simpa using hj
  simp [sB, List.getD, List.getElem?_eq_getElem hl]

theorem bytesWorld_below (w : World) (e : TypeId) (s : ByteArray) : Below w.heap.size w (Lib.bytesWorld w e s) :=
  ⟨rfl, rfl, rfl, by rw [Lib.bytesWorld_size]; omega, fun k hk => Lib.bytesWorld_at_old w e s k hk⟩
end Go.Proofs.YtocooajlfpngdaaGreatDoor
