/- Layer 3's laws: equal, wider. · Layer 3's laws: wider. · Layer 3's laws: boxes that hold integers. · Layer 3's laws: lives. -/
import Derived.Test.YtgfhniiidejmoaaGreatDoorB33
import Derived.Test.YtgfhniiidejmoaaGreatDoorB35
namespace Go.Proofs.YtgfhniiidejmoaaGreatDoor
open Go.RowKit
set_option linter.unusedVariables false

/-- both integers that equal looks at, wherever its calls have led -/
def EqS (w : World) (x a : Int) (b1 b2 : Bool) (A E : Option Addr) (n c m f : Nat) (wr : World) : Prop :=
  wr.cell? ⟨w.heap.size, 0, none⟩ = some (.bool b1) ∧ wr.cell? ⟨w.heap.size, 1, none⟩ = some (.slice A n c) ∧ wr.cell? ⟨w.heap.size + 1, 0, none⟩ = some (.bool b2) ∧ wr.cell? ⟨w.heap.size + 1, 1, none⟩ = some (.slice E m f) ∧
  RepI wr wr.heap.size x (.agg #[.bool b1, .slice A n c]) ∧ RepN wr wr.heap.size a (.agg #[.bool b2, .slice E m f]) ∧ Below w.heap.size w wr
theorem EqS.drew {w : World} {x a : Int} {b1 b2 : Bool} {A E : Option Addr} {n c m f : Nat} {wr : World} (h : EqS w x a b1 b2 A E n c m f wr) : EqS w x a b1 b2 A E n c m f wr.drew :=
  ⟨h.1, h.2.1, h.2.2.1, h.2.2.2.1, h.2.2.2.2.1, h.2.2.2.2.2.1, ⟨h.2.2.2.2.2.2.os, h.2.2.2.2.2.2.tape, h.2.2.2.2.2.2.output, h.2.2.2.2.2.2.size, h.2.2.2.2.2.2.block⟩⟩
theorem EqS.below {w : World} {x a : Int} {b1 b2 : Bool} {A E : Option Addr} {n c m f : Nat} {wr w2 : World} (h : EqS w x a b1 b2 A E n c m f wr) (hb : Below wr.heap.size wr w2) : EqS w x a b1 b2 A E n c m f w2 :=
  ⟨cell_below h.1 hb, cell_below h.2.1 hb, cell_below h.2.2.1 hb, cell_below h.2.2.2.1 hb, (h.2.2.2.2.1.below hb).more hb.size, (h.2.2.2.2.2.1.below hb).more hb.size, h.2.2.2.2.2.2.trans (hb.mono h.2.2.2.2.2.2.size)⟩
end Go.Proofs.YtgfhniiidejmoaaGreatDoor
namespace Go.Proofs.YtgfhniiidejmoaaGreatDoor
open Go.RowKit
set_option linter.unusedVariables false

end Go.Proofs.YtgfhniiidejmoaaGreatDoor
namespace Go.Proofs.YtgfhniiidejmoaaGreatDoor
open Go.RowKit
set_option linter.unusedVariables false

theorem al_below (w : World) (o : Obj) : Below w.heap.size w (w.alloc o) := (Below.refl _ _).alloc (Nat.le_refl _) o
/-- block p holds the wide.Int z -/
def HoldI (W : World) (p : Nat) (z : Int) (d : Bool) (A : Option Addr) (n c : Nat) : Prop := Blk2 W p 36 (.bool d) (.slice A n c) ∧ RepI W W.heap.size z (.agg #[.bool d, .slice A n c])
/-- block p holds the reference's integer z -/
def HoldN (W : World) (p : Nat) (z : Int) (d : Bool) (A : Option Addr) (n c : Nat) : Prop := Blk2 W p 26 (.bool d) (.slice A n c) ∧ RepN W W.heap.size z (.agg #[.bool d, .slice A n c])
section
variable {W W' : World} {p : Nat} {z : Int} {d : Bool} {A : Option Addr} {n c : Nat}
theorem HoldI.below (h : HoldI W p z d A n c) (hb : Below W.heap.size W W') : HoldI W' p z d A n c := ⟨h.1.below hb, (h.2.below hb).more hb.size⟩
theorem HoldN.below (h : HoldN W p z d A n c) (hb : Below W.heap.size W W') : HoldN W' p z d A n c := ⟨h.1.below hb, (h.2.below hb).more hb.size⟩
theorem HoldI.new (h : RepI W W.heap.size z (.agg #[.bool d, .slice A n c])) : HoldI (W.alloc (.cells #[.bool d, .slice A n c] 36)) W.heap.size z d A n c :=
  ⟨Blk2.new _ _ _ _, (h.below (al_below _ _)).more (al_below _ _).size⟩
theorem HoldN.new (h : RepN W W.heap.size z (.agg #[.bool d, .slice A n c])) : HoldN (W.alloc (.cells #[.bool d, .slice A n c] 26)) W.heap.size z d A n c :=
  ⟨Blk2.new _ _ _ _, (h.below (al_below _ _)).more (al_below _ _).size⟩
theorem HoldI.c0 (h : HoldI W p z d A n c) : W.cell? ⟨p, 0, none⟩ = some (.bool d) := h.1.c0
theorem HoldI.c1 (h : HoldI W p z d A n c) : W.cell? ⟨p, 1, none⟩ = some (.slice A n c) := h.1.c1
theorem HoldN.c0 (h : HoldN W p z d A n c) : W.cell? ⟨p, 0, none⟩ = some (.bool d) := h.1.c0
theorem HoldN.c1 (h : HoldN W p z d A n c) : W.cell? ⟨p, 1, none⟩ = some (.slice A n c) := h.1.c1
end
theorem RepI.step {w w' : World} {z : Int} {v : Value} (h : RepI w w.heap.size z v) (b : Below w.heap.size w w') : RepI w' w'.heap.size z v := (h.below b).more b.size
theorem RepN.step {w w' : World} {z : Int} {v : Value} (h : RepN w w.heap.size z v) (b : Below w.heap.size w w') : RepN w' w'.heap.size z v := (h.below b).more b.size
theorem bstep {w w1 w2 : World} (h : Below w.heap.size w w1) (b : Below w1.heap.size w1 w2) : Below w.heap.size w w2 := h.trans (b.mono h.size)
theorem tiny {z : Int} (h : (z.natAbs : Int) < 2 ^ 100) : (z.natAbs : Int) < lim := by
  have : (2 : Int) ^ 100 ≤ 2 ^ 16384 := pow_mono' (by omega) (by omega)
  unfold lim
  omega
theorem below_drew {B : Nat} {w W : World} (h : Below B w W) : Below B w W.drew := ⟨h.os, h.tape, h.output, h.size, h.block⟩
theorem fit_in {z : Int} (h : (z.natAbs : Int) < lim) : fitI z = z ∧ fitE z = 0 := by unfold fitI fitE; rw [if_pos h, if_pos h]; exact ⟨rfl, rfl⟩
theorem isub_fit (x y z : Int) (u v : Value) (w : World) (hx : RepI w w.heap.size x u) (hy : RepI w w.heap.size y v) (bx : (x.natAbs : Int) < lim) (by_ : (y.natAbs : Int) < lim) (hz : x - y = z) (bz : (z.natAbs : Int) < lim) :
    Calls Tryz.prog 30 #[u, v] w (NewE z 0 w) := by
  have := isub_any x y u v w hx hy bx by_
  rwa [hz, (fit_in bz).1, (fit_in bz).2] at this
theorem iparse_as (s : ByteArray) (l : List UInt8) (hl : s.data.toList = l) (w : World) (z : Int) (er : Nat) (h : parseT l = (z, er)) :
    Calls Tryz.prog 12 #[.string s] w (NewE z er w) := by
  have := iparse_any s l hl w
  rwa [h] at this
end Go.Proofs.YtgfhniiidejmoaaGreatDoor
namespace Go.Proofs.YtgfhniiidejmoaaGreatDoor
open Go.RowKit
set_option linter.unusedVariables false

end Go.Proofs.YtgfhniiidejmoaaGreatDoor
