/- Bytes turned into a string. No Go text. -/
import Derived.Test.YtocooajlfpngdaaGreatDoorB23
import Derived.Laws.IdiomStrings
namespace Go.Proofs.YtocooajlfpngdaaGreatDoor
open Go.RowKit
set_option linter.unusedVariables false

/-- bytes as a string -/
def strOf (zs : List Int) : ByteArray := ⟨(zs.map fun z => UInt8.ofNat z.toNat).toArray⟩
theorem strOf_size (zs : List Int) : (strOf zs).size = zs.length := by simp [strOf, ByteArray.size]
theorem conv_back {P : Program} (w : World) (src dst e : TypeId) (b off n c B : Nat) (zs : List Int) (hs : P.underlying src = some (.slice e)) (he : P.underlying e = some (.int .u8)) (hd : P.underlying dst = some .string)
    (h : Sl .u8 w B (some ⟨b, off, none⟩) n zs) (hz : ∀ x ∈ zs, byteI x) : (convert src dst (.slice (some ⟨b, off, none⟩) n c)).run P w = .ok (.string (strOf zs)) w := by
  have hl := h.len
  have hr := run_convert_bytes_back (P := P) w src dst e ⟨b, off, none⟩ c (zs.map fun z => UInt8.ofNat z.toNat) hs he hd (fun j hj => by
    have hj' : j < n := by simpa [hl] using hj
    obtain ⟨b', off', hA, _, hc⟩ := h.at_ (by omega)
    cases hA
    rw [add_lit, hc j hj', List.getElem?_eq_getElem (by omega), List.getElem_map]
    have hb := hz zs[j] (List.getElem_mem _)
    unfold byteI at hb
    simp; omega)
  rw [List.length_map, hl] at hr
  exact hr
/-- .. of a slice that may be nil -/
theorem conv_sl {P : Program} (w : World) (src dst e : TypeId) (A : Option Addr) (n c B : Nat) (zs : List Int) (hs : P.underlying src = some (.slice e)) (he : P.underlying e = some (.int .u8)) (hd : P.underlying dst = some .string)
    (h : Sl .u8 w B A n zs) (hz : ∀ x ∈ zs, byteI x) : (convert src dst (.slice A n c)).run P w = .ok (.string (strOf zs)) w := by
  have hl := h.len
  cases A with
  | none =>
    have h0 : n = 0 := by
      rcases Nat.eq_zero_or_pos n with h0 | h0
      · exact h0
      · obtain ⟨_, _, hA', _⟩ := h.at_ h0
        cases hA'
    subst h0
    have hzz : zs = [] := List.eq_nil_of_length_eq_zero h.len
    subst hzz
    rw [run_convert_bytes_string w src dst e none 0 c hs he hd]
    simp [strOf, Conv.bytesToString]
    rfl
  | some a =>
    have hr := run_convert_bytes_back (P := P) w src dst e a c (zs.map fun z => UInt8.ofNat z.toNat) hs he hd (fun j hj => by
      have hj' : j < n := by simpa [hl] using hj
      obtain ⟨b', off', hA, _, hc⟩ := h.at_ (by omega)
      cases hA
      rw [add_lit, hc j hj', List.getElem?_eq_getElem (by omega), List.getElem_map]
      have hb := hz zs[j] (List.getElem_mem _)
      unfold byteI at hb
      simp; omega)
    rw [List.length_map, hl] at hr
    exact hr
end Go.Proofs.YtocooajlfpngdaaGreatDoor
