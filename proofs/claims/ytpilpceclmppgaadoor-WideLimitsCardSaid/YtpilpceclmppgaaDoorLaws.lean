/- Layer 3's laws: equal, wider. · Layer 3's laws: wider. · Layer 3's laws: boxes that hold integers. · Layer 3's laws: lives. · Layer 3's laws: calls inside regions that draw their order: each gives back whatever stays true. -/
import Derived.Test.YtpilpceclmppgaaDoorTxts
import Derived.Test.YtpilpceclmppgaaDoorRef3S
namespace Go.Proofs.YtpilpceclmppgaaDoor
open Go.RowKit
set_option linter.unusedVariables false

theorem fit_bits {z : Int} (h : (z.natAbs : Int) < lim) : Bits 60000 z := (bits_lim (Int.le_of_lt h)).mono (by omega)
theorem boxes_two (w : World) (a0 a1 b0 b1 : Value) (t t' : TypeId) : ∃ W, W = (w.alloc (.cells #[a0, a1] t)).alloc (.cells #[b0, b1] t') ∧ Below w.heap.size w W ∧ W.heap.size = w.heap.size + 1 + 1 ∧ Blk2 W w.heap.size t a0 a1 ∧ Blk2 W (w.heap.size + 1) t' b0 b1 := by
  have h1 := Blk2.new w t a0 a1
  have h2 := Blk2.new (w.alloc (.cells #[a0, a1] t)) t' b0 b1
  have e1 : Below (w.alloc (.cells #[a0, a1] t)).heap.size (w.alloc (.cells #[a0, a1] t)) ((w.alloc (.cells #[a0, a1] t)).alloc (.cells #[b0, b1] t')) := (Below.refl _ _).alloc (Nat.le_refl _) _
  rw [World.size_alloc] at h2
  exact ⟨_, rfl, box2_below w _ _, by simp, h1.below e1, h2⟩
/-- both integers that equal looks at, wherever its calls have led -/
def EqS (w : World) (x a : Int) (b1 b2 : Bool) (A E : Option Addr) (n c m f : Nat) (wr : World) : Prop :=
  wr.cell? ⟨w.heap.size, 0, none⟩ = some (.bool b1) ∧ wr.cell? ⟨w.heap.size, 1, none⟩ = some (.slice A n c) ∧ wr.cell? ⟨w.heap.size + 1, 0, none⟩ = some (.bool b2) ∧ wr.cell? ⟨w.heap.size + 1, 1, none⟩ = some (.slice E m f) ∧
  RepI wr wr.heap.size x (.agg #[.bool b1, .slice A n c]) ∧ RepN wr wr.heap.size a (.agg #[.bool b2, .slice E m f]) ∧ Below w.heap.size w wr
theorem EqS.drew {w : World} {x a : Int} {b1 b2 : Bool} {A E : Option Addr} {n c m f : Nat} {wr : World} (h : EqS w x a b1 b2 A E n c m f wr) : EqS w x a b1 b2 A E n c m f wr.drew :=
  ⟨h.1, h.2.1, h.2.2.1, h.2.2.2.1, h.2.2.2.2.1, h.2.2.2.2.2.1, ⟨h.2.2.2.2.2.2.os, h.2.2.2.2.2.2.tape, h.2.2.2.2.2.2.output, h.2.2.2.2.2.2.size, h.2.2.2.2.2.2.block⟩⟩
theorem EqS.below {w : World} {x a : Int} {b1 b2 : Bool} {A E : Option Addr} {n c m f : Nat} {wr w2 : World} (h : EqS w x a b1 b2 A E n c m f wr) (hb : Below wr.heap.size wr w2) : EqS w x a b1 b2 A E n c m f w2 :=
  ⟨cell_below h.1 hb, cell_below h.2.1 hb, cell_below h.2.2.1 hb, cell_below h.2.2.2.1 hb, (h.2.2.2.2.1.below hb).more hb.size, (h.2.2.2.2.2.1.below hb).more hb.size, h.2.2.2.2.2.2.trans (hb.mono h.2.2.2.2.2.2.size)⟩
theorem eq_str {w : World} {x a : Int} {b1 b2 : Bool} {A E : Option Addr} {n c m f : Nat} {wr : World} (h : EqS w x a b1 b2 A E n c m f wr) (bx : (x.natAbs : Int) < lim) :
    Calls Tryd.prog 19 #[.agg #[.bool b1, .slice A n c]] wr fun e w' => e = .returned (.string (strB (decT x))) ∧ EqS w x a b1 b2 A E n c m f w' :=
  (istring_any x _ wr h.2.2.2.2.1 bx).mono fun _ _ ⟨h1, h2⟩ => ⟨h1, h.below h2⟩
theorem eq_txt {w : World} {x a : Int} {b1 b2 : Bool} {A E : Option Addr} {n c m f : Nat} {wr : World} (h : EqS w x a b1 b2 A E n c m f wr) (ba : Bits 60000 a) :
    Calls Tryd.prog 12 #[.agg #[.bool b2, .slice E m f]] wr fun e w' => e = .returned (.string (strB (decT a))) ∧ EqS w x a b1 b2 A E n c m f w' :=
  (text_any a _ wr h.2.2.2.2.2.1 ba).mono fun _ _ ⟨h1, h2⟩ => ⟨h1, h.below h2⟩
theorem eq_val (x a : Int) : ((strB (decT x)).toList == (strB (decT a)).toList) = decide (decT x = decT a) := by
  rw [Lib.toList_data, Lib.toList_data, show (strB (decT x)).data.toList = decT x from rfl, show (strB (decT a)).data.toList = decT a from rfl]
  by_cases h : decT x = decT a
  · rw [decide_eq_true h, h]; exact beq_self_eq_true _
  · rw [decide_eq_false h]; exact beq_eq_false_iff_ne.2 h
set_option maxRecDepth 100000 in
set_option maxHeartbeats 1000000 in
theorem equal_any (x a : Int) (u v : Value) (w : World) (hx : RepI w w.heap.size x u) (bx : (x.natAbs : Int) < lim) (ha : RepN w w.heap.size a v) (ba : Bits 60000 a) :
    Calls Tryd.prog 18 #[u, v] w fun e w' => e = .returned (.bool (decide (decT x = decT a))) ∧ Below w.heap.size w w' := by
  obtain ⟨b1, A, n, c, rfl⟩ := hx.shape
  obtain ⟨b2, E, m, f, rfl⟩ := ha.shape
  obtain ⟨W2, hW2, hB2, hS2, p1, p2⟩ := boxes_two w (.bool b1) (.slice A n c) (.bool b2) (.slice E m f) 34 25
  have HW := Lib.hid hW2
  have hS0 : EqS w x a b1 b2 A E n c m f W2 := ⟨p1.c0, p1.c1, p2.c0, p2.c1, (hx.below hB2).more hB2.size, (ha.below hB2).more hB2.size, hB2⟩
  have HBA := Lib.hid ba
  have HBX := Lib.hid bx
  clear hW2 hx ha hB2 hS2 p1 p2 ba bx
  go_enter Tryd.func18, Tryd.ntmps18
  go_wp2_with fail
  rw [← HW.out]
  clear HW
  go_region_held3 (fun w' => w'.cell? ⟨w.heap.size, 0, none⟩ = some (.bool b1) ∧ w'.cell? ⟨w.heap.size, 1, none⟩ = some (.slice A n c) ∧ w'.cell? ⟨w.heap.size + 1, 0, none⟩ = some (.bool b2) ∧ w'.cell? ⟨w.heap.size + 1, 1, none⟩ = some (.slice E m f) ∧ EqS w x a b1 b2 A E n c m f w')
    (first | exact ⟨hS0.1, hS0.2.1, hS0.2.2.1, hS0.2.2.2.1, hS0⟩ | (have h := EqS.drew (by assumption); exact ⟨h.1, h.2.1, h.2.2.1, h.2.2.2.1, h⟩) | (have h : EqS w x a b1 b2 A E n c m f _ := (by assumption); exact ⟨h.1, h.2.1, h.2.2.1, h.2.2.2.1, h⟩))
    (first
      | (go_at_call 19
         refine (eq_str (by first | assumption | exact And.right (And.right (And.right (And.right (by assumption))))) HBX.out).mono ?_
         rintro e w3 ⟨rfl, h3⟩)
      | (go_at_call 12
         refine (eq_txt (by first | assumption | exact And.right (And.right (And.right (And.right (by assumption))))) HBA.out).mono ?_
         rintro e w4 ⟨rfl, h4⟩))
  have HF := Lib.hid h4.2.2.2.2.2.2
  have HE := Lib.hid (eq_val x a)
  go_wp2_with fail
  go_ret
  exact ⟨by rw [HE.out]; rfl, HF.out⟩
end Go.Proofs.YtpilpceclmppgaaDoor
namespace Go.Proofs.YtpilpceclmppgaaDoor
open Go.RowKit
set_option linter.unusedVariables false

def WidU (z : Int) (w : World) (e : Ending) (w' : World) : Prop := ∃ v, e = .returned (.tuple #[v, .bool true]) ∧ RepI w' w'.heap.size z v ∧ Below w.heap.size w w'
set_option maxRecDepth 100000 in
set_option maxHeartbeats 1000000 in
theorem wider_any (z : Int) (u : Value) (w : World) (hx : RepN w w.heap.size z u) (bz : (z.natAbs : Int) < lim) :
    Calls Tryd.prog 25 #[u] w (WidU z w) := by
  obtain ⟨b1, A, n, c, rfl⟩ := hx.shape
  obtain ⟨W2, hW2, hB2, hS2, p1, p2⟩ := boxes_two w (.bool b1) (.slice A n c) (.bool false) (.slice none 0 0) 25 34
  have HW := Lib.hid hW2
  have HT := Lib.hid (text_any z _ W2 ((hx.below hB2).more hB2.size) (fit_bits bz))
  have HB := Lib.hid hB2
  have HP2 := Lib.hid p2
  have hrb := read_back bz
  have HPA := Lib.hid (fun W => iparse_any (strB (decT z)) (decT z) rfl W)
  rw [hrb] at HPA
  have g0 := p1.c0
  have g1 := p1.c1
  clear hW2 hx hB2 hS2 p1 p2 hrb bz
  go_enter Tryd.func25, Tryd.ntmps25
  go_wp2_with fail
  rw [← HW.out]
  refine HT.out.mono ?_
  rintro e w3 ⟨rfl, b3⟩
  have HP3 := Lib.hid (HP2.out.below b3)
  have HB3 := Lib.hid (HB.out.trans (b3.mono HB.out.size))
  clear b3 HT
  go_wp2_with fail
  refine (HPA.out w3).mono ?_
  rintro e w4 ⟨v4, rfl, r4, b4⟩
  obtain ⟨d4, A4, n4, q4, rfl⟩ := r4.shape
  have hal : Below w4.heap.size w4 (w4.alloc (.cells #[.bool d4, .slice A4 n4 q4] 34)) := (Below.refl _ _).alloc (Nat.le_refl _) _
  have hk4 := (HP3.out.below b4).below hal
  have f0 := hk4.f0
  have f1 := hk4.f1
  have c0 := hk4.c0
  have c1 := hk4.c1
  have HF := Lib.hid (repI_ret (w := w) ((r4.below hal).more hal.size) hk4 ((HB3.out.trans (b4.mono HB3.out.size)).trans (hal.mono (Nat.le_trans HB3.out.size b4.size))) (by omega))
  clear r4 b4 hk4 hal HPA
  go_wp2_with fail
  exact bodyPost_ret (v := .tuple #[.agg #[.bool d4, .slice A4 n4 q4], .bool true]) (by simp [results, Tryd.results25, go_sem, c0, c1]) rfl ⟨_, rfl, HF.out.1, HF.out.2⟩
end Go.Proofs.YtpilpceclmppgaaDoor
namespace Go.Proofs.YtpilpceclmppgaaDoor
open Go.RowKit
set_option linter.unusedVariables false

theorem al_below (w : World) (o : Obj) : Below w.heap.size w (w.alloc o) := (Below.refl _ _).alloc (Nat.le_refl _) o
theorem al_set_below (w : World) (o : Obj) (u u' : Value) : Below w.heap.size w (((w.alloc o).setCell ⟨w.heap.size, 0, none⟩ u).setCell ⟨w.heap.size, 1, none⟩ u') :=
  (((al_below w o).setCell (p := ⟨w.heap.size, 0, none⟩) (Nat.le_refl _) u).setCell (p := ⟨w.heap.size, 1, none⟩) (Nat.le_refl _) u')
/-- block p holds the wide.Int z -/
def HoldI (W : World) (p : Nat) (z : Int) (d : Bool) (A : Option Addr) (n c : Nat) : Prop := Blk2 W p 34 (.bool d) (.slice A n c) ∧ RepI W W.heap.size z (.agg #[.bool d, .slice A n c])
/-- block p holds the reference's integer z -/
def HoldN (W : World) (p : Nat) (z : Int) (d : Bool) (A : Option Addr) (n c : Nat) : Prop := Blk2 W p 25 (.bool d) (.slice A n c) ∧ RepN W W.heap.size z (.agg #[.bool d, .slice A n c])
section
variable {W W' : World} {p : Nat} {z : Int} {d : Bool} {A : Option Addr} {n c : Nat}
theorem HoldI.below (h : HoldI W p z d A n c) (hb : Below W.heap.size W W') : HoldI W' p z d A n c := ⟨h.1.below hb, (h.2.below hb).more hb.size⟩
theorem HoldN.below (h : HoldN W p z d A n c) (hb : Below W.heap.size W W') : HoldN W' p z d A n c := ⟨h.1.below hb, (h.2.below hb).more hb.size⟩
theorem HoldI.new (h : RepI W W.heap.size z (.agg #[.bool d, .slice A n c])) : HoldI (W.alloc (.cells #[.bool d, .slice A n c] 34)) W.heap.size z d A n c :=
  ⟨Blk2.new _ _ _ _, (h.below (al_below _ _)).more (al_below _ _).size⟩
theorem HoldN.new (h : RepN W W.heap.size z (.agg #[.bool d, .slice A n c])) : HoldN (W.alloc (.cells #[.bool d, .slice A n c] 25)) W.heap.size z d A n c :=
  ⟨Blk2.new _ _ _ _, (h.below (al_below _ _)).more (al_below _ _).size⟩
theorem HoldI.c0 (h : HoldI W p z d A n c) : W.cell? ⟨p, 0, none⟩ = some (.bool d) := h.1.c0
theorem HoldI.c1 (h : HoldI W p z d A n c) : W.cell? ⟨p, 1, none⟩ = some (.slice A n c) := h.1.c1
theorem HoldN.c0 (h : HoldN W p z d A n c) : W.cell? ⟨p, 0, none⟩ = some (.bool d) := h.1.c0
theorem HoldN.c1 (h : HoldN W p z d A n c) : W.cell? ⟨p, 1, none⟩ = some (.slice A n c) := h.1.c1
end
theorem RepI.step {w w' : World} {z : Int} {v : Value} (h : RepI w w.heap.size z v) (b : Below w.heap.size w w') : RepI w' w'.heap.size z v := (h.below b).more b.size
theorem RepN.step {w w' : World} {z : Int} {v : Value} (h : RepN w w.heap.size z v) (b : Below w.heap.size w w') : RepN w' w'.heap.size z v := (h.below b).more b.size
theorem bstep {w w1 w2 : World} (h : Below w.heap.size w w1) (b : Below w1.heap.size w1 w2) : Below w.heap.size w w2 := h.trans (b.mono h.size)
theorem tiny {z : Int} (h : (z.natAbs : Int) < 2 ^ 100) : (z.natAbs : Int) < lim := by
  have : (2 : Int) ^ 100 ≤ 2 ^ 16384 := pow_mono' (by omega) (by omega)
  unfold lim
  omega
theorem str_m4 : strB (decT (-4)) = ⟨#[45, 52]⟩ := by decide +kernel
theorem str_1 : strB (decT 1) = ⟨#[49]⟩ := by decide +kernel
theorem str_m3 : strB (decT (-3)) = ⟨#[45, 51]⟩ := by decide +kernel
theorem str_64 : strB (decT 18446744073709551616) = ⟨#[49, 56, 52, 52, 54, 55, 52, 52, 48, 55, 51, 55, 48, 57, 53, 53, 49, 54, 49, 54]⟩ := by decide +kernel
theorem below_drew {B : Nat} {w W : World} (h : Below B w W) : Below B w W.drew := ⟨h.os, h.tape, h.output, h.size, h.block⟩
/-- what stays true behind whatever a call writes -/
def Stab (S : World → Prop) : Prop := ∀ W W', S W → Below W.heap.size W W' → S W'
theorem fit_in {z : Int} (h : (z.natAbs : Int) < lim) : fitI z = z ∧ fitE z = 0 := by unfold fitI fitE; rw [if_pos h, if_pos h]; exact ⟨rfl, rfl⟩
theorem imul_fit (x y z : Int) (u v : Value) (w : World) (hx : RepI w w.heap.size x u) (hy : RepI w w.heap.size y v) (bx : (x.natAbs : Int) < lim) (by_ : (y.natAbs : Int) < lim) (hz : x * y = z) (bz : (z.natAbs : Int) < lim) :
    Calls Tryd.prog 31 #[u, v] w (NewE z 0 w) := by
  have := imul_any x y u v w hx hy bx by_
  rwa [hz, (fit_in bz).1, (fit_in bz).2] at this
theorem iadd_fit (x y z : Int) (u v : Value) (w : World) (hx : RepI w w.heap.size x u) (hy : RepI w w.heap.size y v) (bx : (x.natAbs : Int) < lim) (by_ : (y.natAbs : Int) < lim) (hz : x + y = z) (bz : (z.natAbs : Int) < lim) :
    Calls Tryd.prog 27 #[u, v] w (NewE z 0 w) := by
  have := iadd_any x y u v w hx hy bx by_
  rwa [hz, (fit_in bz).1, (fit_in bz).2] at this
theorem isub_fit (x y z : Int) (u v : Value) (w : World) (hx : RepI w w.heap.size x u) (hy : RepI w w.heap.size y v) (bx : (x.natAbs : Int) < lim) (by_ : (y.natAbs : Int) < lim) (hz : x - y = z) (bz : (z.natAbs : Int) < lim) :
    Calls Tryd.prog 28 #[u, v] w (NewE z 0 w) := by
  have := isub_any x y u v w hx hy bx by_
  rwa [hz, (fit_in bz).1, (fit_in bz).2] at this
theorem ismall_as (z : Int) (u : Value) (w : World) (hx : RepI w w.heap.size z u) (N : Nat) (hN : N ≤ 100000) (bx : (z.natAbs : Int) < 4294967296 ^ N) (r : Int) (ok : Bool) (hr : (if isI z then z else 0) = r) (ho : isI z = ok) :
    Calls Tryd.prog 22 #[u] w (SmallU r ok w) := by
  have := ismall_any z u w hx N hN bx
  rwa [hr, ho] at this
theorem iparse_as (s : ByteArray) (l : List UInt8) (hl : s.data.toList = l) (w : World) (z : Int) (er : Nat) (h : parseT l = (z, er)) :
    Calls Tryd.prog 16 #[.string s] w (NewE z er w) := by
  have := iparse_any s l hl w
  rwa [h] at this
theorem istring_as (z : Int) (u : Value) (w : World) (hx : RepI w w.heap.size z u) (bx : (z.natAbs : Int) < lim) (s : ByteArray) (hs : strB (decT z) = s) :
    Calls Tryd.prog 19 #[u] w (StrU s w) := by
  have := istring_any z u w hx bx
  rwa [hs] at this
end Go.Proofs.YtpilpceclmppgaaDoor
namespace Go.Proofs.YtpilpceclmppgaaDoor
open Go.RowKit
set_option linter.unusedVariables false

set_option maxRecDepth 100000 in
set_option maxHeartbeats 1000000 in
theorem lives_any (w : World) : Calls Tryd.prog 20 #[] w fun e w' => e = .returned (.bool true) ∧ Below w.heap.size w w' := by
  have HB := Lib.hid (Below.refl w.heap.size w)
  go_enter Tryd.func20, Tryd.ntmps20
  go_wp2_with fail
  refine (from_any (-7) _ (by omega) (by omega)).mono ?_
  rintro e w1 ⟨v, rfl, h, b⟩
  obtain ⟨d1, A1, n1, c1, rfl⟩ := h.shape
  replace HB := Lib.hid (bstep HB.out b)
  have V1 := Lib.hid h
  clear h b
  go_wp2_with fail
  refine (from_any (2) _ (by omega) (by omega)).mono ?_
  rintro e w2 ⟨v, rfl, h, b⟩
  obtain ⟨d2, A2, n2, c2, rfl⟩ := h.shape
  replace HB := Lib.hid (bstep HB.out b)
  replace V1 := Lib.hid (V1.out.step b)
  have V2 := Lib.hid h
  clear h b
  go_wp2_with fail
  refine (idiv_any (-7) (2) _ _ _ V1.out V2.out (tiny (by decide)) (tiny (by decide)) (by omega)).mono ?_
  rintro e w3 ⟨u, v, rfl, h, h', b⟩
  obtain ⟨d3, A3, n3, c3, rfl⟩ := h.shape
  obtain ⟨d4, A4, n4, c4, rfl⟩ := h'.shape
  replace HB := Lib.hid (bstep HB.out b)
  replace V1 := Lib.hid (V1.out.step b)
  replace V2 := Lib.hid (V2.out.step b)
  clear b
  have b1 := al_below w3 (.cells #[.bool d3, .slice A3 n3 c3] 34)
  have b2 := al_below (w3.alloc (.cells #[.bool d3, .slice A3 n3 c3] 34)) (.cells #[.bool d4, .slice A4 n4 c4] 34)
  have b := bstep b1 b2
  have K := (HoldI.new h).below b2
  have J := HoldI.new (h'.step b1)
  rw [World.size_alloc] at J
  replace HB := Lib.hid (bstep HB.out b)
  replace V1 := Lib.hid (V1.out.step b)
  replace V2 := Lib.hid (V2.out.step b)
  have H3 := Lib.hid K
  have H4 := Lib.hid J
  clear h h' b1 b2 b K J
  clear V1
  clear V2
  go_wp2_with fail
  refine (from_any (7) _ (by omega) (by omega)).mono ?_
  rintro e w5 ⟨v, rfl, h, b⟩
  obtain ⟨d5, A5, n5, c5, rfl⟩ := h.shape
  replace HB := Lib.hid (bstep HB.out b)
  replace H3 := Lib.hid (H3.out.below b)
  replace H4 := Lib.hid (H4.out.below b)
  have V5 := Lib.hid h
  clear h b
  go_wp2_with fail
  refine (from_any (-2) _ (by omega) (by omega)).mono ?_
  rintro e w6 ⟨v, rfl, h, b⟩
  obtain ⟨d6, A6, n6, c6, rfl⟩ := h.shape
  replace HB := Lib.hid (bstep HB.out b)
  replace H3 := Lib.hid (H3.out.below b)
  replace H4 := Lib.hid (H4.out.below b)
  replace V5 := Lib.hid (V5.out.step b)
  have V6 := Lib.hid h
  clear h b
  go_wp2_with fail
  refine (idiv_any (7) (-2) _ _ _ V5.out V6.out (tiny (by decide)) (tiny (by decide)) (by omega)).mono ?_
  rintro e w7 ⟨u, v, rfl, h, h', b⟩
  obtain ⟨d7, A7, n7, c7, rfl⟩ := h.shape
  obtain ⟨d8, A8, n8, c8, rfl⟩ := h'.shape
  replace HB := Lib.hid (bstep HB.out b)
  replace H3 := Lib.hid (H3.out.below b)
  replace H4 := Lib.hid (H4.out.below b)
  replace V5 := Lib.hid (V5.out.step b)
  replace V6 := Lib.hid (V6.out.step b)
  clear b
  have b1 := al_below w7 (.cells #[.bool d7, .slice A7 n7 c7] 34)
  have b2 := al_below (w7.alloc (.cells #[.bool d7, .slice A7 n7 c7] 34)) (.cells #[.bool d8, .slice A8 n8 c8] 34)
  have b := bstep b1 b2
  have K := (HoldI.new h).below b2
  have J := HoldI.new (h'.step b1)
  rw [World.size_alloc] at J
  replace HB := Lib.hid (bstep HB.out b)
  replace H3 := Lib.hid (H3.out.below b)
  replace H4 := Lib.hid (H4.out.below b)
  replace V5 := Lib.hid (V5.out.step b)
  replace V6 := Lib.hid (V6.out.step b)
  have H7 := Lib.hid K
  have H8 := Lib.hid J
  clear h h' b1 b2 b K J
  clear V5
  clear V6
  go_wp2_with fail
  refine (from_any (4294967296) _ (by omega) (by omega)).mono ?_
  rintro e w9 ⟨v, rfl, h, b⟩
  obtain ⟨d9, A9, n9, c9, rfl⟩ := h.shape
  replace HB := Lib.hid (bstep HB.out b)
  replace H3 := Lib.hid (H3.out.below b)
  replace H4 := Lib.hid (H4.out.below b)
  replace H7 := Lib.hid (H7.out.below b)
  replace H8 := Lib.hid (H8.out.below b)
  have V9 := Lib.hid h
  clear h b
  go_wp2_with fail
  refine (from_any (4294967296) _ (by omega) (by omega)).mono ?_
  rintro e w10 ⟨v, rfl, h, b⟩
  obtain ⟨d10, A10, n10, c10, rfl⟩ := h.shape
  replace HB := Lib.hid (bstep HB.out b)
  replace H3 := Lib.hid (H3.out.below b)
  replace H4 := Lib.hid (H4.out.below b)
  replace H7 := Lib.hid (H7.out.below b)
  replace H8 := Lib.hid (H8.out.below b)
  replace V9 := Lib.hid (V9.out.step b)
  have V10 := Lib.hid h
  clear h b
  go_wp2_with fail
  refine (imul_fit 4294967296 4294967296 18446744073709551616 _ _ _ V9.out V10.out (tiny (by decide)) (tiny (by decide)) (by omega) (tiny (by decide))).mono ?_
  rintro e w11 ⟨v, rfl, h, b⟩
  obtain ⟨d11, A11, n11, c11, rfl⟩ := h.shape
  replace HB := Lib.hid (bstep HB.out b)
  replace H3 := Lib.hid (H3.out.below b)
  replace H4 := Lib.hid (H4.out.below b)
  replace H7 := Lib.hid (H7.out.below b)
  replace H8 := Lib.hid (H8.out.below b)
  replace V9 := Lib.hid (V9.out.step b)
  replace V10 := Lib.hid (V10.out.step b)
  have V11 := Lib.hid h
  clear h b
  clear V9
  clear V10
  have h := HoldI.new V11.out
  have b := al_below w11 (.cells #[.bool d11, .slice A11 n11 c11] 34)
  replace HB := Lib.hid (bstep HB.out b)
  replace H3 := Lib.hid (H3.out.below b)
  replace H4 := Lib.hid (H4.out.below b)
  replace H7 := Lib.hid (H7.out.below b)
  replace H8 := Lib.hid (H8.out.below b)
  have H11 := Lib.hid h
  clear h b V11
  have gH110 := H11.out.c0
  have gH111 := H11.out.c1
  go_wp2_with fail
  refine (ismall_as 18446744073709551616 _ _ H11.out.2 10 (by omega) (by decide) 0 false rfl rfl).mono ?_
  rintro e w12 ⟨rfl, b⟩
  clear gH110 gH111
  replace HB := Lib.hid (bstep HB.out b)
  replace H3 := Lib.hid (H3.out.below b)
  replace H4 := Lib.hid (H4.out.below b)
  replace H7 := Lib.hid (H7.out.below b)
  replace H8 := Lib.hid (H8.out.below b)
  replace H11 := Lib.hid (H11.out.below b)
  clear b
  go_wp2_with fail
  refine (iparse_as _ [45, 48] rfl _ 0 2 (by decide +kernel)).mono ?_
  rintro e w13 ⟨v, rfl, h, b⟩
  obtain ⟨d13, A13, n13, c13, rfl⟩ := h.shape
  replace HB := Lib.hid (bstep HB.out b)
  replace H3 := Lib.hid (H3.out.below b)
  replace H4 := Lib.hid (H4.out.below b)
  replace H7 := Lib.hid (H7.out.below b)
  replace H8 := Lib.hid (H8.out.below b)
  replace H11 := Lib.hid (H11.out.below b)
  have V13 := Lib.hid h
  clear h b
  have h := HoldI.new V13.out
  have b := al_below w13 (.cells #[.bool d13, .slice A13 n13 c13] 34)
  replace HB := Lib.hid (bstep HB.out b)
  replace H3 := Lib.hid (H3.out.below b)
  replace H4 := Lib.hid (H4.out.below b)
  replace H7 := Lib.hid (H7.out.below b)
  replace H8 := Lib.hid (H8.out.below b)
  replace H11 := Lib.hid (H11.out.below b)
  have H13 := Lib.hid h
  clear h b V13
  clear H13
  go_wp2_with fail
  refine (iparse_as _ [48, 49] rfl _ 0 2 (by decide +kernel)).mono ?_
  rintro e w14 ⟨v, rfl, h, b⟩
  obtain ⟨d14, A14, n14, c14, rfl⟩ := h.shape
  replace HB := Lib.hid (bstep HB.out b)
  replace H3 := Lib.hid (H3.out.below b)
  replace H4 := Lib.hid (H4.out.below b)
  replace H7 := Lib.hid (H7.out.below b)
  replace H8 := Lib.hid (H8.out.below b)
  replace H11 := Lib.hid (H11.out.below b)
  have V14 := Lib.hid h
  clear h b
  have h := HoldI.new V14.out
  have b := al_below w14 (.cells #[.bool d14, .slice A14 n14 c14] 34)
  replace HB := Lib.hid (bstep HB.out b)
  replace H3 := Lib.hid (H3.out.below b)
  replace H4 := Lib.hid (H4.out.below b)
  replace H7 := Lib.hid (H7.out.below b)
  replace H8 := Lib.hid (H8.out.below b)
  replace H11 := Lib.hid (H11.out.below b)
  have H14 := Lib.hid h
  clear h b V14
  clear H14
  have gH30 := H3.out.c0
  have gH31 := H3.out.c1
  go_wp2_with fail
  refine (istring_as (-4) _ _ H3.out.2 (tiny (by decide)) _ str_m4).mono ?_
  rintro e w15 ⟨rfl, b⟩
  clear gH30 gH31
  replace HB := Lib.hid (bstep HB.out b)
  replace H3 := Lib.hid (H3.out.below b)
  replace H4 := Lib.hid (H4.out.below b)
  replace H7 := Lib.hid (H7.out.below b)
  replace H8 := Lib.hid (H8.out.below b)
  replace H11 := Lib.hid (H11.out.below b)
  clear b
  have gH40 := H4.out.c0
  have gH41 := H4.out.c1
  go_wp2_with fail
  refine (istring_as (1) _ _ H4.out.2 (tiny (by decide)) _ str_1).mono ?_
  rintro e w16 ⟨rfl, b⟩
  clear gH40 gH41
  replace HB := Lib.hid (bstep HB.out b)
  replace H3 := Lib.hid (H3.out.below b)
  replace H4 := Lib.hid (H4.out.below b)
  replace H7 := Lib.hid (H7.out.below b)
  replace H8 := Lib.hid (H8.out.below b)
  replace H11 := Lib.hid (H11.out.below b)
  clear b
  have gH70 := H7.out.c0
  have gH71 := H7.out.c1
  go_wp2_with fail
  refine (istring_as (-3) _ _ H7.out.2 (tiny (by decide)) _ str_m3).mono ?_
  rintro e w17 ⟨rfl, b⟩
  clear gH70 gH71
  replace HB := Lib.hid (bstep HB.out b)
  replace H3 := Lib.hid (H3.out.below b)
  replace H4 := Lib.hid (H4.out.below b)
  replace H7 := Lib.hid (H7.out.below b)
  replace H8 := Lib.hid (H8.out.below b)
  replace H11 := Lib.hid (H11.out.below b)
  clear b
  have gH80 := H8.out.c0
  have gH81 := H8.out.c1
  go_wp2_with fail
  refine (istring_as (1) _ _ H8.out.2 (tiny (by decide)) _ str_1).mono ?_
  rintro e w18 ⟨rfl, b⟩
  clear gH80 gH81
  replace HB := Lib.hid (bstep HB.out b)
  replace H3 := Lib.hid (H3.out.below b)
  replace H4 := Lib.hid (H4.out.below b)
  replace H7 := Lib.hid (H7.out.below b)
  replace H8 := Lib.hid (H8.out.below b)
  replace H11 := Lib.hid (H11.out.below b)
  clear b
  have gH110 := H11.out.c0
  have gH111 := H11.out.c1
  go_wp2_with fail
  refine (istring_as (18446744073709551616) _ _ H11.out.2 (tiny (by decide)) _ str_64).mono ?_
  rintro e w19 ⟨rfl, b⟩
  clear gH110 gH111
  replace HB := Lib.hid (bstep HB.out b)
  replace H3 := Lib.hid (H3.out.below b)
  replace H4 := Lib.hid (H4.out.below b)
  replace H7 := Lib.hid (H7.out.below b)
  replace H8 := Lib.hid (H8.out.below b)
  replace H11 := Lib.hid (H11.out.below b)
  clear b
  go_wp2_with fail
  go_ret
  exact ⟨rfl, HB.out⟩
end Go.Proofs.YtpilpceclmppgaaDoor
namespace Go.Proofs.YtpilpceclmppgaaDoor
open Go.RowKit
set_option linter.unusedVariables false

theorem below_sz {W w' : World} (b : Below W.heap.size W w') : W.heap.size ≤ w'.heap.size := b.size
theorem below_sz' {W w' : World} {o : Obj} (b : Below (W.alloc o).heap.size (W.alloc o) w') : W.heap.size + 1 ≤ w'.heap.size := by
  have := b.size
  rwa [World.size_alloc] at this
section
variable {W : World} {p g : Nat} {z : Int} {d b0 : Bool} {A A1 : Option Addr} {n c n1 k1 : Nat} {t : TypeId} {u u' : Value}
theorem HoldN.off (h : HoldN W p z d A n c) (hk : Blk2 W g t (.bool b0) (.slice A1 n1 k1)) (hne : p ≠ g) : HoldN ((W.setCell ⟨g, 0, none⟩ u).setCell ⟨g, 1, none⟩ u') p z d A n c :=
  ⟨(set2_heap W g u u' p hne).trans h.1, by rw [size_set2]; exact h.2.stored hk⟩
theorem HoldI.off (h : HoldI W p z d A n c) (hk : Blk2 W g t (.bool b0) (.slice A1 n1 k1)) (hne : p ≠ g) : HoldI ((W.setCell ⟨g, 0, none⟩ u).setCell ⟨g, 1, none⟩ u') p z d A n c :=
  ⟨(set2_heap W g u u' p hne).trans h.1, by rw [size_set2]; exact h.2.stored hk⟩
theorem InI.off {zs : List Int} (h : InI W A n zs) (hk : Blk2 W g t (.bool b0) (.slice A1 n1 k1)) : InI ((W.setCell ⟨g, 0, none⟩ u).setCell ⟨g, 1, none⟩ u') A n zs :=
  ⟨by rw [size_set2]; exact h.1.off_blk hk (set2_heap _ _ _ _), h.2⟩
theorem HoldN.made (h : RepN W W.heap.size z (.agg #[.bool d, .slice A n c])) (hk : Blk2 W g 25 (.bool b0) (.slice A1 n1 k1)) : HoldN ((W.setCell ⟨g, 0, none⟩ (.bool d)).setCell ⟨g, 1, none⟩ (.slice A n c)) g z d A n c :=
  ⟨(hk.set0 _).set1 _, by rw [size_set2]; exact h.stored hk⟩
theorem HoldI.made (h : RepI W W.heap.size z (.agg #[.bool d, .slice A n c])) (hk : Blk2 W g 34 (.bool b0) (.slice A1 n1 k1)) : HoldI ((W.setCell ⟨g, 0, none⟩ (.bool d)).setCell ⟨g, 1, none⟩ (.slice A n c)) g z d A n c :=
  ⟨(hk.set0 _).set1 _, by rw [size_set2]; exact h.stored hk⟩
theorem below_off {w0 : World} (h : Below w0.heap.size w0 W) (hg : w0.heap.size ≤ g) : Below w0.heap.size w0 ((W.setCell ⟨g, 0, none⟩ u).setCell ⟨g, 1, none⟩ u') :=
  (h.setCell (p := ⟨g, 0, none⟩) hg _).setCell (p := ⟨g, 1, none⟩) hg _
theorem HoldN.lt (h : HoldN W p z d A n c) : p < W.heap.size := h.1.lt
theorem HoldI.lt (h : HoldI W p z d A n c) : p < W.heap.size := h.1.lt
end
theorem isign_lim (x : Int) (u : Value) (w : World) (hx : RepI w w.heap.size x u) (bx : (x.natAbs : Int) < lim) (r : Int) (hr : cmpI' x 0 = r) :
    Calls Tryd.prog 39 #[u] w fun e w' => e = .returned (.int .i64 r) ∧ Below w.heap.size w w' := by
  obtain ⟨N, hN, h1⟩ := fit_pow bx
  have := isign_any x u w hx N (by omega) h1
  unfold CmpU at this
  rwa [hr] at this
theorem icompare_lim (x y : Int) (u v : Value) (w : World) (hx : RepI w w.heap.size x u) (hy : RepI w w.heap.size y v) (bx : (x.natAbs : Int) < lim) (by_ : (y.natAbs : Int) < lim) (r : Int) (hr : cmpI' x y = r) :
    Calls Tryd.prog 37 #[u, v] w fun e w' => e = .returned (.int .i64 r) ∧ Below w.heap.size w w' := by
  obtain ⟨N, hN, h1⟩ := fit_pow bx
  obtain ⟨M, hM, h2⟩ := fit_pow by_
  subst hM
  subst hN
  have := icompare_any x y u v w hx hy 512 (by omega) h1 h2
  unfold CmpU at this
  rwa [hr] at this
theorem igcd_lim (x y : Int) (u v : Value) (w : World) (hx : RepI w w.heap.size x u) (hy : RepI w w.heap.size y v) (bx : (x.natAbs : Int) < lim) (by_ : (y.natAbs : Int) < lim) (r : Int) (hr : (Nat.gcd x.natAbs y.natAbs : Int) = r) :
    Calls Tryd.prog 41 #[u, v] w (NewI r w) := by
  obtain ⟨N, hN, h1⟩ := fit_pow bx
  obtain ⟨M, hM, h2⟩ := fit_pow by_
  subst hM
  subst hN
  have := igcd_any x y u v w hx hy 512 (by omega) h1 h2
  rwa [hr] at this
theorem ineg_lim (x : Int) (u : Value) (w : World) (hx : RepI w w.heap.size x u) (bx : (x.natAbs : Int) < lim) :
    Calls Tryd.prog 40 #[u] w (NewI (-x) w) := by
  obtain ⟨N, hN, h1⟩ := fit_pow bx
  exact ineg_any x u w hx N (by omega) h1
theorem ismall_lim (z : Int) (u : Value) (w : World) (hx : RepI w w.heap.size z u) (bx : (z.natAbs : Int) < lim) (r : Int) (ok : Bool) (hr : (if isI z then z else 0) = r) (ho : isI z = ok) :
    Calls Tryd.prog 22 #[u] w (SmallU r ok w) := by
  obtain ⟨N, hN, h1⟩ := fit_pow bx
  exact ismall_as z u w hx N (by omega) h1 r ok hr ho
section
variable {S : World → Prop} {W : World}
theorem lives_S (hS : Stab S) (h : S W) : Calls Tryd.prog 20 #[] W fun e w' => e = .returned (.bool true) ∧ S w' :=
  (lives_any W).mono fun _ _ ⟨h1, h2⟩ => ⟨h1, hS _ _ h h2⟩
theorem eq_S (hS : Stab S) (h : S W) {x a : Int} {u v : Value} (hx : S W → RepI W W.heap.size x u) (ha : S W → RepN W W.heap.size a v) (hxa : x = a) (bx : (x.natAbs : Int) < lim) :
    Calls Tryd.prog 18 #[u, v] W fun e w' => e = .returned (.bool true) ∧ S w' := by
  subst hxa
  refine (equal_any x x u v W (hx h) bx (ha h) (fit_bits bx)).mono fun _ _ ⟨h1, h2⟩ => ⟨?_, hS _ _ h h2⟩
  rw [h1, decide_eq_true rfl]
/-- a new integer, and what stays true -/
def NewS (S : World → Prop) (z : Int) (w : World) (e : Ending) (w' : World) : Prop := ∃ v, e = .returned v ∧ RepN w' w'.heap.size z v ∧ Below w.heap.size w w' ∧ S w'
def NewSI (S : World → Prop) (z : Int) (w : World) (e : Ending) (w' : World) : Prop := ∃ v, e = .returned v ∧ RepI w' w'.heap.size z v ∧ Below w.heap.size w w' ∧ S w'
theorem add_S (hS : Stab S) (h : S W) {x y : Int} {u v : Value} (hx : S W → RepN W W.heap.size x u) (hy : S W → RepN W W.heap.size y v) (bx : Bits 200000 x) (by_ : Bits 200000 y) :
    Calls Tryd.prog 29 #[u, v] W (NewS S (x + y) W) :=
  (add_any x y u v W (hx h) (hy h) bx by_).mono fun _ _ ⟨v, h1, h2, h3⟩ => ⟨v, h1, h2, h3, hS _ _ h h3⟩
theorem sub_S (hS : Stab S) (h : S W) {x y : Int} {u v : Value} (hx : S W → RepN W W.heap.size x u) (hy : S W → RepN W W.heap.size y v) (bx : Bits 200000 x) (by_ : Bits 200000 y) :
    Calls Tryd.prog 30 #[u, v] W (NewS S (x - y) W) :=
  (sub_any x y u v W (hx h) (hy h) bx by_).mono fun _ _ ⟨v, h1, h2, h3⟩ => ⟨v, h1, h2, h3, hS _ _ h h3⟩
theorem mul_S (hS : Stab S) (h : S W) {x y : Int} {u v : Value} (hx : S W → RepN W W.heap.size x u) (hy : S W → RepN W W.heap.size y v) (bx : Bits 100000 x) (by_ : Bits 100000 y) :
    Calls Tryd.prog 32 #[u, v] W (NewS S (x * y) W) :=
  (mul_any x y u v W (hx h) (hy h) bx by_).mono fun _ _ ⟨v, h1, h2, h3⟩ => ⟨v, h1, h2, h3, hS _ _ h h3⟩
theorem neg_S (hS : Stab S) (h : S W) {x : Int} {u : Value} (hx : S W → RepN W W.heap.size x u) :
    Calls Tryd.prog 36 #[u] W (NewS S (-x) W) :=
  (neg_any x u W (hx h)).mono fun _ _ ⟨v, h1, h2, h3⟩ => ⟨v, h1, h2, h3, hS _ _ h h3⟩
theorem gcd_S (hS : Stab S) (h : S W) {x y : Int} {u v : Value} (hx : S W → RepN W W.heap.size x u) (hy : S W → RepN W W.heap.size y v) (bx : Bits 60000 x) (by_ : Bits 60000 y) :
    Calls Tryd.prog 42 #[u, v] W (NewS S (Nat.gcd x.natAbs y.natAbs : Nat) W) :=
  (gcd_any x y u v W (hx h) (hy h) bx by_).mono fun _ _ ⟨v, h1, h2, h3⟩ => ⟨v, h1, h2, h3, hS _ _ h h3⟩
theorem cmp_S (hS : Stab S) (h : S W) {x y : Int} {u v : Value} (hx : S W → RepI W W.heap.size x u) (hy : S W → RepI W W.heap.size y v) (bx : (x.natAbs : Int) < lim) (by_ : (y.natAbs : Int) < lim) (r : Int) (hr : cmpI' x y = r) :
    Calls Tryd.prog 37 #[u, v] W fun e w' => e = .returned (.int .i64 r) ∧ S w' :=
  (icompare_lim x y u v W (hx h) (hy h) bx by_ r hr).mono fun _ _ ⟨h1, h2⟩ => ⟨h1, hS _ _ h h2⟩
theorem sign_S (hS : Stab S) (h : S W) {x : Int} {u : Value} (hx : S W → RepI W W.heap.size x u) (bx : (x.natAbs : Int) < lim) (r : Int) (hr : cmpI' x 0 = r) :
    Calls Tryd.prog 39 #[u] W fun e w' => e = .returned (.int .i64 r) ∧ S w' :=
  (isign_lim x u W (hx h) bx r hr).mono fun _ _ ⟨h1, h2⟩ => ⟨h1, hS _ _ h h2⟩
theorem rcmp_S (hS : Stab S) (h : S W) {x y : Int} {u v : Value} (hx : S W → RepN W W.heap.size x u) (hy : S W → RepN W W.heap.size y v) (bx : Bits 200000 x) (by_ : Bits 200000 y) (r : Int) (hr : cmpI x y = r) :
    Calls Tryd.prog 38 #[u, v] W fun e w' => e = .returned (.int .i64 r) ∧ S w' :=
  (compare_any x y u v W (hx h) (hy h) bx by_).mono fun _ _ ⟨h1, h2⟩ => ⟨hr ▸ h1, hS _ _ h h2⟩
theorem str_S (hS : Stab S) (h : S W) {x : Int} {u : Value} (hx : S W → RepI W W.heap.size x u) (bx : (x.natAbs : Int) < lim) (s : ByteArray) (hs : strB (decT x) = s) :
    Calls Tryd.prog 19 #[u] W fun e w' => e = .returned (.string s) ∧ S w' :=
  (istring_as x u W (hx h) bx s hs).mono fun _ _ ⟨h1, h2⟩ => ⟨h1, hS _ _ h h2⟩
theorem ineg_S (hS : Stab S) (h : S W) {x : Int} {u : Value} (hx : S W → RepI W W.heap.size x u) (bx : (x.natAbs : Int) < lim) :
    Calls Tryd.prog 40 #[u] W (NewSI S (-x) W) :=
  (ineg_lim x u W (hx h) bx).mono fun _ _ ⟨v, h1, h2, h3⟩ => ⟨v, h1, h2, h3, hS _ _ h h3⟩
theorem of_S (hS : Stab S) (h : S W) (k : Int) (h0 : -9223372036854775808 ≤ k) (h1 : k ≤ 9223372036854775807) :
    Calls Tryd.prog 23 #[.int .i64 k] W (NewS S k W) :=
  (of_any k W h0 h1).mono fun _ _ ⟨v, h1, h2, h3⟩ => ⟨v, h1, h2, h3, hS _ _ h h3⟩
end
/-- a generated integer -/
def Num (z : Int) : Prop := Bits 310 z
theorem bits_lt {k : Nat} {z : Int} (h : Bits k z) (hk : k ≤ 16384) : (z.natAbs : Int) < lim := by
  have := h.mono hk
  exact this
theorem Num.bits {z : Int} (h : Num z) (k : Nat) (hk : 310 ≤ k) : Bits k z := Bits.mono h hk
theorem Num.ltl {z : Int} (h : Num z) : (z.natAbs : Int) < lim := bits_lt h (by omega)
theorem Num.mul {x y : Int} (hx : Num x) (hy : Num y) : Bits 620 (x * y) := (Bits.mul (show Bits 310 x from hx) (show Bits 310 y from hy)).mono (by omega)
theorem Num.add {x y : Int} (hx : Num x) (hy : Num y) : Bits 311 (x + y) := (Bits.add (show Bits 310 x from hx) (show Bits 310 y from hy)).mono (by omega)
theorem Num.sub {x y : Int} (hx : Num x) (hy : Num y) : Bits 311 (x - y) := (Bits.sub (show Bits 310 x from hx) (show Bits 310 y from hy)).mono (by omega)
/-- a generated integer, and what stays true -/
def NumSt (S : World → Prop) (w : World) (e : Ending) (w' : World) : Prop := ∃ z, Hid (Num z) ∧ NewS S z w e w'
theorem number_S {S : World → Prop} {W : World} (hS : Stab S) (h : S W) {A : Option Addr} {n c : Nat} {at_ : Int} {zs : List Int} (hi : S W → InI W A n zs) (hn : n ≤ 9223372036854775807) (ha0 : 0 ≤ at_) (ha1 : at_ ≤ 100) :
    Calls Tryd.prog 13 #[.slice A n c, .int .i64 at_] W (NumSt S W) :=
  (number_any A n c at_ zs W (hi h) hn ha0 ha1).mono fun _ _ ⟨z, h0, v, h1, h2, h3⟩ => ⟨z, Lib.hid (show Num z from h0), v, h1, h2, h3, hS _ _ h h3⟩
theorem Num.mul_ltl {x y : Int} (hx : Num x) (hy : Num y) : ((x * y).natAbs : Int) < lim := bits_lt (hx.mul hy) (by omega)
theorem Num.add_ltl {x y : Int} (hx : Num x) (hy : Num y) : ((x + y).natAbs : Int) < lim := bits_lt (hx.add hy) (by omega)
theorem Num.sub_ltl {x y : Int} (hx : Num x) (hy : Num y) : ((x - y).natAbs : Int) < lim := bits_lt (hx.sub hy) (by omega)
/-- a product of two generated integers -/
def Num2 (z : Int) : Prop := Bits 620 z
theorem Num2.bits {z : Int} (h : Num2 z) (k : Nat) (hk : 620 ≤ k) : Bits k z := Bits.mono h hk
theorem Num2.ltl {z : Int} (h : Num2 z) : (z.natAbs : Int) < lim := bits_lt h (by omega)
theorem Num.two {x y : Int} (hx : Num x) (hy : Num y) : Num2 (x * y) := hx.mul hy
theorem gcd_ltl {a b : Int} (ha : (a.natAbs : Int) < lim) (hb : (b.natAbs : Int) < lim) : (((Nat.gcd a.natAbs b.natAbs : Nat) : Int).natAbs : Int) < lim := by
  rw [Int.natAbs_natCast]
  rcases Nat.eq_zero_or_pos a.natAbs with h | h
  · rw [h, Nat.gcd_zero_left]; exact hb
  · have := Nat.gcd_le_left b.natAbs h
    omega
theorem ediv_ltl {a : Int} (ha : (a.natAbs : Int) < lim) (g : Int) : ((a / g).natAbs : Int) < lim := by
  have := Int.natAbs_ediv_le_natAbs a g
  omega
theorem emod_ltl {a : Int} {g : Int} (hg : (g.natAbs : Int) < lim) (h0 : g ≠ 0) : ((a % g).natAbs : Int) < lim := by
  have h1 := Int.emod_nonneg a h0
  have h2 := Int.emod_lt a h0
  omega
theorem gcd_facts {a b : Int} (h : ((Nat.gcd a.natAbs b.natAbs : Nat) : Int) ≠ 0) : a % (Nat.gcd a.natAbs b.natAbs : Int) = 0 ∧ b % (Nat.gcd a.natAbs b.natAbs : Int) = 0 ∧
    (Nat.gcd (a / (Nat.gcd a.natAbs b.natAbs : Int)).natAbs (b / (Nat.gcd a.natAbs b.natAbs : Int)).natAbs : Int) = 1 := by
  have d1 : (Nat.gcd a.natAbs b.natAbs : Int) ∣ a := Int.ofNat_dvd_left.2 (Nat.gcd_dvd_left _ _)
  have d2 : (Nat.gcd a.natAbs b.natAbs : Int) ∣ b := Int.ofNat_dvd_left.2 (Nat.gcd_dvd_right _ _)
  refine ⟨Int.emod_eq_zero_of_dvd d1, Int.emod_eq_zero_of_dvd d2, ?_⟩
  have hp : 0 < Nat.gcd a.natAbs b.natAbs := by omega
  rw [Int.natAbs_ediv_of_dvd d1, Int.natAbs_ediv_of_dvd d2, Int.natAbs_natCast, Nat.gcd_div (Nat.gcd_dvd_left _ _) (Nat.gcd_dvd_right _ _), Nat.div_self hp]
  rfl
theorem ring_c {x y z : Int} (hx : Num x) (hy : Num y) (hz : Num z) : Bits 621 ((x + y) * z) := (Bits.mul (hx.add hy) (show Bits 310 z from hz)).mono (by omega)
theorem ring_q {c y : Int} (hc : Bits 621 c) (hy : Num y) : Bits 931 (c / y * y) := by
  have h1 : Bits 621 (c / y) := hc.le (Int.natAbs_ediv_le_natAbs c y)
  exact (Bits.mul h1 (show Bits 310 y from hy)).mono (by omega)
theorem ring_u (c y : Int) : c / y * y + c % y = c := Int.ediv_mul_add_emod c y
theorem ring_k (x y z : Int) : x * z + z * y = (x + y) * z := by rw [Int.add_mul, Int.mul_comm z y]
theorem cmp_self (x : Int) : cmpI' x x = 0 := by unfold cmpI'; rw [if_neg (by omega), if_neg (by omega)]
end Go.Proofs.YtpilpceclmppgaaDoor
