/- Layer 3's laws: rows of strings; texts that are read. -/
import Derived.Test.YtpilpceclmppgaaDoorLaw3J
namespace Go.Proofs.YtpilpceclmppgaaDoor
open Go.RowKit
set_option linter.unusedVariables false

/-- block g holds five strings -/
def ArrS (W : World) (g : Nat) : Prop := g < W.heap.size ∧ ∀ i : Nat, i < 5 → ∃ s : ByteArray, W.cell? ⟨g, i, none⟩ = some (.string s) ∧ s.size ≤ maxLen
theorem ArrS.below {W W' : World} {g : Nat} (h : ArrS W g) (hb : Below W.heap.size W W') : ArrS W' g := by
  obtain ⟨h1, h2⟩ := h
  refine ⟨Nat.lt_of_lt_of_le h1 hb.size, fun i hi => ?_⟩
  obtain ⟨s, a1, a2⟩ := h2 i hi
  exact ⟨s, (hb.cell (p := ⟨g, i, none⟩) h1).trans a1, a2⟩
theorem ArrS.new (W : World) (t : TypeId) (s0 s1 s2 s3 s4 : ByteArray) (h0 : s0.size ≤ maxLen) (h1 : s1.size ≤ maxLen) (h2 : s2.size ≤ maxLen) (h3 : s3.size ≤ maxLen) (h4 : s4.size ≤ maxLen) :
    ArrS (W.alloc (.cells #[.string s0, .string s1, .string s2, .string s3, .string s4] t)) W.heap.size := by
  refine ⟨by rw [World.size_alloc]; omega, fun i hi => ?_⟩
  have hn : (W.alloc (.cells #[.string s0, .string s1, .string s2, .string s3, .string s4] t)).heap[W.heap.size]? = some (.cells #[.string s0, .string s1, .string s2, .string s3, .string s4] t (0, 0)) := World.alloc_heap_new _ _
  have : i = 0 ∨ i = 1 ∨ i = 2 ∨ i = 3 ∨ i = 4 := by omega
  rcases this with rfl | rfl | rfl | rfl | rfl
  · exact ⟨_, cell_at hn rfl, h0⟩
  · exact ⟨_, cell_at hn rfl, h1⟩
  · exact ⟨_, cell_at hn rfl, h2⟩
  · exact ⟨_, cell_at hn rfl, h3⟩
  · exact ⟨_, cell_at hn rfl, h4⟩
theorem short30 (s : ByteArray) (w : World) (hs : s.size ≤ maxLen) :
    Calls Tryd.prog 15 #[.string s, .int .i64 30] w fun e w' => e = .returned (.string (shortB s 30)) ∧ w = w' := short_any s 30 w hs
theorem short_le (s : ByteArray) (m : Nat) (hs : s.size ≤ maxLen) : (shortB s m).size ≤ maxLen := by
  unfold shortB
  split
  · simp [ByteArray.size_extract]; omega
  · exact hs
theorem dec_pos (z : Int) : 1 ≤ (decT z).length := by
  unfold decT
  split
  · simp
  · split
    · simp
    · have := dec_ne (x := z) (by omega)
      cases h : dec10 z with
      | nil => exact absurd h this
      | cons a b => simp
/-- one byte as a string -/
theorem conv_one (w : World) (c : Int) (hc : byteI c) :
    (convert 29 9 (.slice (some ⟨w.heap.size, 0, none⟩) 1 1)).run Tryd.prog (w.alloc (.cells #[.int .u8 c] 5)) = .ok (.string (strOf [c])) (w.alloc (.cells #[.int .u8 c] 5)) :=
  conv_back _ 29 9 5 w.heap.size 0 1 1 (w.heap.size + 1) [c] Tryd.underlying29 Tryd.underlying5 Tryd.underlying9
    ⟨rfl, .inr ⟨w.heap.size, 0, rfl, by omega, fun j hj => by obtain rfl : j = 0 := by omega
                                                              exact cell_at (World.alloc_heap_new w _) rfl⟩⟩ (fun x hx => by obtain rfl := List.mem_singleton.1 hx; exact hc)
theorem conv_one' (w : World) (c : Int) (hc : byteI c) :
    (convert 29 9 (.slice (some ⟨w.heap.size, 0, none⟩) 1 1)).run Tryd.prog (w.alloc (.cells #[.int .u8 c] 5)).drew = .ok (.string (strOf [c])) (w.alloc (.cells #[.int .u8 c] 5)).drew :=
  conv_back _ 29 9 5 w.heap.size 0 1 1 (w.heap.size + 1) [c] Tryd.underlying29 Tryd.underlying5 Tryd.underlying9
    ⟨rfl, .inr ⟨w.heap.size, 0, rfl, by omega, fun j hj => by obtain rfl : j = 0 := by omega
                                                              exact cell_at (World.alloc_heap_new w _) rfl⟩⟩ (fun x hx => by obtain rfl := List.mem_singleton.1 hx; exact hc)
theorem rparse_as (s : ByteArray) (w : World) (hs : s.size ≤ maxLen) (z : Int) (er : Nat) (h : parseT s.data.toList = (z, er)) :
    Calls Tryd.prog 17 #[.string s] w fun e w' => ∃ v, e = .returned (.tuple #[v, .int .i64 (er : Int)]) ∧ RepN w' w'.heap.size z v ∧ Below w.heap.size w w' := by
  have := parse_any s w hs
  unfold ParsePost at this
  rwa [h] at this
theorem parse_lt {l : List UInt8} {z : Int} {er : Nat} (h : parseT l = (z, er)) : (z.natAbs : Int) < lim := by
  have := parse_bd l
  rwa [h] at this
theorem parse_text {s : ByteArray} {z : Int} (h : parseT s.data.toList = (z, 0)) : strB (decT z) = s := by
  have h1 := dec_parse (l := s.data.toList) (by rw [h])
  rw [h] at h1
  have h2 : decT z = s.data.toList := h1
  rw [h2]
  show ByteArray.mk s.data.toList.toArray = s
  simp
end Go.Proofs.YtpilpceclmppgaaDoor
