/- Contracts of the reference: Pick, Bound, Number, Near. -/
import Derived.Test.YtgfhniiidejmoaaGreatDoorB32
namespace Go.Proofs.YtgfhniiidejmoaaGreatDoor
open Go.RowKit
set_option linter.unusedVariables false

/-- a slice of ints as it came in -/
def InI (w : World) (A : Option Addr) (n : Nat) (zs : List Int) : Prop := Sl .i64 w w.heap.size A n zs ∧ ∀ z ∈ zs, -9223372036854775808 ≤ z ∧ z ≤ 9223372036854775807
theorem InI.below {w w' : World} {A : Option Addr} {n : Nat} {zs : List Int} (h : InI w A n zs) (hb : Below w.heap.size w w') : InI w' A n zs := ⟨(h.1.below hb).more hb.size, h.2⟩
set_option maxHeartbeats 1000000 in
theorem bound_any (n m : Int) (w : World) (h0 : -9223372036854775808 ≤ n) (h1 : n ≤ 9223372036854775807) (h2 : 0 ≤ m) (h3 : m ≤ 1000000) :
    Calls Tryz.prog 20 #[.int .i64 n, .int .i64 m] w fun e w' => e = .returned (.int .i64 (aroundI n (2 * m + 1) - m)) ∧ w = w' := by
  have hbd := aroundI_bd n (2 * m + 1) (by omega)
  have HA := Lib.hid (around_any n (2 * m + 1) w h0 h1 (by omega) (by omega))
  obtain ⟨r, hr⟩ : ∃ r, r = aroundI n (2 * m + 1) := ⟨_, rfl⟩
  rw [← hr] at HA hbd ⊢
  obtain ⟨b0, b1⟩ := hbd
  clear hr
  go_enter Tryz.func20, Tryz.ntmps20
  go_wp2_with fail
  refine HA.out.mono ?_
  rintro e w1 ⟨rfl, rfl⟩
  go_wp2_with fail
  go_ret
  exact ⟨rfl, rfl⟩

/-! ### Number -/
def NumS (w : World) (A : Option Addr) (n : Nat) (zs : List Int) (gO : Nat) (z : Int) (wr : World) : Prop := BoxN wr gO z ∧ Blk2 wr w.heap.size 26 (.bool false) (.slice none 0 0) ∧ Sl .i64 wr w.heap.size A n zs ∧ Below w.heap.size w wr
theorem NumS.below {w wr w' : World} {A : Option Addr} {n gO : Nat} {zs : List Int} {z : Int} (h : NumS w A n zs gO z wr) (hb : Below wr.heap.size wr w') : NumS w A n zs gO z w' :=
  ⟨h.1.below hb, h.2.1.below hb, h.2.2.1.below (hb.mono h.2.2.2.size), h.2.2.2.trans (hb.mono h.2.2.2.size)⟩
end Go.Proofs.YtgfhniiidejmoaaGreatDoor
