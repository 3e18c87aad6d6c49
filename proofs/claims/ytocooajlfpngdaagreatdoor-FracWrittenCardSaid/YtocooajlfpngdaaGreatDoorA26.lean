/- Contracts of the reference: Parse. · Contracts of the reference: Pick, Bound, Number, Near. · Contracts of the reference: Near. -/
import Derived.Test.YtocooajlfpngdaaGreatDoorA25
import Derived.Test.YtocooajlfpngdaaGreatDoorA04
namespace Go.Proofs.YtocooajlfpngdaaGreatDoor
open Go.RowKit
set_option linter.unusedVariables false

theorem byteArray_ext {a b : ByteArray} (h : a.data.toList = b.data.toList) : a = b := by
  cases a; cases b
  congr 1
  exact Array.toList_inj.1 h
theorem str_len (s : ByteArray) : s.data.toList.length = s.size := rfl
/-- digits gathered in groups of four, from the last one on -/
def GrpI (t : List UInt8) (k : Nat) (L : List Int) : Prop := L.length = k ∧ Dig 10000 L ∧ dv 10000 L = valT (t.drop (t.length - 4 * k)) ∧ (0 < k → 4 * (k - 1) < t.length)
theorem valT_take {t : List UInt8} (hd : ∀ b ∈ t, isD b = true) (n : Nat) : 0 ≤ valT (t.take n) ∧ valT (t.take n) < 10 ^ n := by
  obtain ⟨h0, h1⟩ := valT_bd (l := t.take n) (fun b hb => hd b (List.mem_of_mem_take hb))
  have h2 := pow_mono' (show (0 : Int) < 10 by omega) (show (t.take n).length ≤ n by rw [List.length_take]; omega)
  exact ⟨h0, by omega⟩
theorem GrpI.step {t : List UInt8} {k e' : Nat} {L : List Int} (h : GrpI t k L) (hd : ∀ b ∈ t, isD b = true) (hk : 4 * k < t.length) (he : e' = t.length - 4 * (k + 1)) :
    GrpI t (k + 1) (L ++ [valT ((t.drop e').take (t.length - 4 * k - e'))]) ∧ 0 ≤ valT ((t.drop e').take (t.length - 4 * k - e')) ∧ valT ((t.drop e').take (t.length - 4 * k - e')) < 10000 := by
  obtain ⟨h1, h2, h3, h4⟩ := h
  have hb := valT_take (t := t.drop e') (fun b hb => hd b (List.mem_of_mem_drop hb)) (t.length - 4 * k - e')
  have hp := pow_mono' (show (0 : Int) < 10 by omega) (show t.length - 4 * k - e' ≤ 4 by omega)
  have h10 : (10 : Int) ^ 4 = 10000 := by decide
  rw [h10] at hp
  refine ⟨⟨by simp [h1], h2.app (Dig.cons ⟨hb.1, by omega⟩ Dig.nil), ?_, fun _ => by omega⟩, hb.1, by omega⟩
  have e1 : t.drop e' = (t.drop e').take (t.length - 4 * k - e') ++ t.drop (t.length - 4 * k) := by
    conv => lhs; rw [← List.take_append_drop (t.length - 4 * k - e') (t.drop e')]
    rw [List.drop_drop, show e' + (t.length - 4 * k - e') = t.length - 4 * k by omega]
  rw [dv_snoc, h3, h1, ← he]
  conv => rhs; rw [e1]
  rw [valT_app, List.length_drop, show t.length - (t.length - 4 * k) = 4 * k by omega, Int.pow_mul]
  rfl

def ParsePost (l : List UInt8) (w : World) (e : Ending) (w' : World) : Prop := ∃ v, e = .returned (.tuple #[v, .int .i64 ((parseT l).2 : Int)]) ∧ RepN w' w'.heap.size (parseT l).1 v ∧ Below w.heap.size w w'
theorem ParsePost.mk {l : List UInt8} {z : Int} {n : Nat} (hp : parseT l = (z, n)) {w w' : World} {v : Value} (hr : RepN w' w'.heap.size z v) (hb : Below w.heap.size w w') (k : Int) (hk : k = (n : Int)) : ParsePost l w (.returned (.tuple #[v, .int .i64 k])) w' :=
  ⟨v, by rw [hp, hk], by rw [hp]; exact hr, hb⟩
theorem RepN.nil (w : World) (B : Nat) : RepN w B 0 (.agg #[.bool false, .slice none 0 0]) := ⟨none, 0, 0, [], rfl, Sl.nil _ _ _ _, Nat.le_refl _, by unfold maxLen; omega, fun _ => rfl, Dig.nil, by simp [Top], rfl⟩
end Go.Proofs.YtocooajlfpngdaaGreatDoor
namespace Go.Proofs.YtocooajlfpngdaaGreatDoor
open Go.RowKit
set_option linter.unusedVariables false

/-- a slice of ints as it came in -/
def InI (w : World) (A : Option Addr) (n : Nat) (zs : List Int) : Prop := Sl .i64 w w.heap.size A n zs ∧ ∀ z ∈ zs, -9223372036854775808 ≤ z ∧ z ≤ 9223372036854775807
theorem InI.below {w w' : World} {A : Option Addr} {n : Nat} {zs : List Int} (h : InI w A n zs) (hb : Below w.heap.size w w') : InI w' A n zs := ⟨(h.1.below hb).more hb.size, h.2⟩
/-! ### Number -/
def NumS (w : World) (A : Option Addr) (n : Nat) (zs : List Int) (gO : Nat) (z : Int) (wr : World) : Prop := BoxN wr gO z ∧ Blk2 wr w.heap.size 24 (.bool false) (.slice none 0 0) ∧ Sl .i64 wr w.heap.size A n zs ∧ Below w.heap.size w wr
theorem NumS.below {w wr w' : World} {A : Option Addr} {n gO : Nat} {zs : List Int} {z : Int} (h : NumS w A n zs gO z wr) (hb : Below wr.heap.size wr w') : NumS w A n zs gO z w' :=
  ⟨h.1.below hb, h.2.1.below hb, h.2.2.1.below (hb.mono h.2.2.2.size), h.2.2.2.trans (hb.mono h.2.2.2.size)⟩
end Go.Proofs.YtocooajlfpngdaaGreatDoor
namespace Go.Proofs.YtocooajlfpngdaaGreatDoor
open Go.RowKit
set_option linter.unusedVariables false

/-! ### Near -/
end Go.Proofs.YtocooajlfpngdaaGreatDoor
