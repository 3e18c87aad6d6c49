/- From what a row reads to the words of the walks. -/
import Derived.Test.YtocooajlfpngdaaGreatDoorRows
import Derived.Test.YtocooajlfpngdaaGreatDoorB02
import Derived.Test.YtocooajlfpngdaaGreatDoorB01
import Derived.WalkKit
import Derived.ProofKit
import Derived.OpenShut
namespace Go.Proofs.YtocooajlfpngdaaGreatDoor
open Go.RowKit

/-- a slice of whole numbers that came in: nil, or a row of cells -/
def RowIn (k : IntKind) (w : World) (a : Option Addr) (len cap : Nat) (zs : List Int) : Prop :=
  (a = none ∧ len = 0 ∧ cap = 0 ∧ zs = []) ∨
  ∃ x, a = some x ∧ len ≤ cap ∧ cap ≤ maxLen ∧ zs.length = cap ∧ (∀ i, i < zs.length → w.cell? (x.add i) = some (.int k (zs.getD i 0))) ∧ ∀ n ∈ zs, (Lit.int k n).wf = true

theorem of_row {k : IntKind} {w : World} {a : Option Addr} {len cap : Nat} {zs : List Int} (h : RowIn k w a len cap zs) :
    Sl k w w.heap.size a len (zs.take len) ∧ len ≤ cap ∧ cap ≤ maxLen ∧ (a = none → len = 0 ∧ cap = 0) ∧ ∀ n ∈ zs.take len, (Lit.int k n).wf = true := by
  rcases h with ⟨rfl, rfl, rfl, rfl⟩ | ⟨x, rfl, hl, hm, hz, hcell, hwz⟩
  · exact ⟨Sl.nil _ _ _ _, Nat.le_refl _, Nat.zero_le _, fun _ => ⟨rfl, rfl⟩, by simp⟩
  · refine ⟨⟨by rw [List.length_take]; omega, ?_⟩, hl, hm, (by intro h; cases h), fun n hn => hwz n (List.mem_of_mem_take hn)⟩
    by_cases h0 : len = 0
    · exact .inl h0
    · have hc0 := hcell 0 (by omega)
      obtain ⟨b, off, spot⟩ := x
      have hspot : spot = none := by simpa [Addr.add] using World.cell?_spot hc0
      subst hspot
      have hlt : b < w.heap.size := by
        have h1 : w.cell? ⟨b, off, none⟩ = some (.int k (zs.getD 0 0)) := by simpa [Addr.add] using hc0
        rcases Nat.lt_or_ge b w.heap.size with hlt | hge
        · exact hlt
        · simp [World.cell?, Array.getElem?_eq_none hge] at h1
      refine .inr ⟨b, off, rfl, hlt, fun j hj => ?_⟩
      have hcj := hcell j (by omega)
      rw [add_lit] at hcj
      rw [hcj, List.getElem?_take, if_pos hj, List.getD_eq_getElem?_getD]

theorem wf_byte {n : Int} (h : (Lit.int .u8 n).wf = true) : byteI n := by
  have := bounds_u8 h; unfold byteI; omega
theorem wf_i64 {n : Int} (h : (Lit.int .i64 n).wf = true) : -9223372036854775808 ≤ n ∧ n ≤ 9223372036854775807 := by
  have := bounds_i64 h; omega
theorem all_i64 {zs : List Int} (h : ∀ n ∈ zs, (Lit.int .i64 n).wf = true) : ∀ b ∈ zs, -9223372036854775808 ≤ b ∧ b ≤ 9223372036854775807 := fun b hb => wf_i64 (h b hb)
end Go.Proofs.YtocooajlfpngdaaGreatDoor
