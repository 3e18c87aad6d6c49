/- A string turned into bytes: what is read behind it. No Go text. -/
import Derived.Test.YtgfhniiidejmoaaGreatDoorB02
import Derived.Test.YtgfhniiidejmoaaGreatDoorB01
import Derived.Lib.ConvBytes
namespace Go.Proofs.YtgfhniiidejmoaaGreatDoor
open Go.RowKit

/-- a string's bytes as numbers -/
def sB (s : ByteArray) : List Int := s.data.toList.map fun b => (b.toNat : Int)
theorem sB_len (s : ByteArray) : (sB s).length = s.size := by simp [sB]
theorem sB_byte (s : ByteArray) : ∀ b ∈ sB s, byteI b := by
  intro b hb
  obtain ⟨c, _, rfl⟩ := List.mem_map.1 hb
  have := c.toNat_lt
  unfold byteI; omega
theorem sB_at (s : ByteArray) (j : Nat) (hj : j < s.size) : (sB s)[j]?.getD 0 = ((s.data.toList.getD j 0).toNat : Int) := by
  have hl : j < s.data.toList.length := by simpa using hj
  simp [sB, List.getD, List.getElem?_eq_getElem hl]

theorem bytesWorld_below (w : World) (e : TypeId) (s : ByteArray) : Below w.heap.size w (Lib.bytesWorld w e s) :=
  ⟨rfl, rfl, rfl, by rw [Lib.bytesWorld_size]; omega, fun k hk => Lib.bytesWorld_at_old w e s k hk⟩
theorem conv_bytes {P : Program} (w : World) (src dst e : TypeId) (s : ByteArray) {u : TypeDesc} (hm : s.size ≤ maxLen)
    (hs : P.underlying src = some u) (hd : P.underlying dst = some (.slice e)) (he : P.underlying e = some (.int .u8)) :
    ∃ cap w1, (convert src dst (.string s)).run P w = .ok (.slice (some ⟨w.heap.size, 0, none⟩) s.size cap) w1 ∧ Below w.heap.size w w1 ∧ w.heap.size < w1.heap.size ∧
      Sl .u8 w1 w1.heap.size (some ⟨w.heap.size, 0, none⟩) s.size (sB s) ∧ s.size ≤ cap ∧ cap ≤ maxLen := by
  refine ⟨_, _, Lib.run_convert_string_bytes w src dst e s hs hd he, bytesWorld_below w e s, by rw [Lib.bytesWorld_size]; omega, ⟨sB_len s, .inr ⟨_, 0, rfl, by rw [Lib.bytesWorld_size]; omega, fun j hj => ?_⟩⟩, grownCap_ge w s.size 0 e, grownCap_le_maxLen w s.size 0 e hm⟩
  rw [Nat.zero_add, Lib.bytesWorld_cell w e s j hj, sB_at s j hj]
end Go.Proofs.YtgfhniiidejmoaaGreatDoor
