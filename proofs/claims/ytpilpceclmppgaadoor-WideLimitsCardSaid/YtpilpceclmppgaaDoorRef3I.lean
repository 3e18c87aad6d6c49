/- Contracts of the reference of wide: small. -/
import Derived.Test.YtpilpceclmppgaaDoorRef3H
namespace Go.Proofs.YtpilpceclmppgaaDoor
open Go.RowKit
set_option linter.unusedVariables false

/-- new digits of the reference, no zero on top -/
def NewT (x : Int) (w : World) (e : Ending) (w' : World) : Prop :=
  ∃ A n c l, e = .returned (.slice A n c) ∧ Sl .i64 w' w'.heap.size A n l ∧ n ≤ c ∧ c ≤ maxLen ∧ (A = none → c = 0) ∧ Below w.heap.size w w' ∧ Dig 10000 l ∧ Top l ∧ dv 10000 l = x
set_option maxHeartbeats 1000000 in
theorem small_any (A : Option Addr) (n c : Nat) (k : Int) (zs : List Int) (w : World) (h : Sl .i64 w w.heap.size A n zs) (hn : n ≤ c) (hc : c ≤ maxLen) (hA : A = none → c = 0) (hd : Dig 10000 zs) (ht : Top zs) (hb : Bits 99000 (dv 10000 zs)) (k0 : 0 ≤ k) (k1 : k ≤ 9999) :
    Calls Tryd.prog 81 #[.slice A n c, .int .i64 k] w (NewT (dv 10000 zs * k) w) := by
  have h0 := dv_nonneg (show (0 : Int) < 10000 by omega) hd
  have hN : RepN w w.heap.size (dv 10000 zs) (.agg #[.bool false, .slice A n c]) := ⟨A, n, c, zs, by rw [decide_eq_false (by omega)], h, hn, hc, hA, hd, ht, by omega⟩
  have HN := Lib.hid hN
  have HO := Lib.hid (of_any k)
  clear h hd ht hA
  go_enter Tryd.func81, Tryd.ntmps81
  go_wp2_with fail
  refine (HO.out _ (by omega) (by omega)).mono ?_
  rintro e w1 h1
  obtain ⟨v1, rfl, r1, b1⟩ := h1
  obtain ⟨d1, A1, n1, q1, rfl⟩ := r1.shape
  have HM := Lib.hid (mul_any (dv 10000 zs) k _ _ w1 ((HN.out.below b1).more b1.size) r1 (hb.mono (by omega)) ((Bits.i64 (by omega) (by omega)).mono (by omega)))
  have HB1 := Lib.hid b1
  clear r1 b1
  go_wp2_with fail
  refine HM.out.mono ?_
  rintro e w2 h2
  obtain ⟨v2, rfl, r2, b2⟩ := h2
  obtain ⟨A2, n2, q2, l2, e2, s2, t1, t2, t3, t4, t5, t6⟩ := r2
  have hnn : 0 ≤ dv 10000 zs * k := Int.mul_nonneg h0 k0
  rw [decide_eq_false (by omega)] at e2
  subst e2
  have HB2 := Lib.hid (HB1.out.trans (b2.mono HB1.out.size))
  have HF := Lib.hid (show ∀ w3, Below w2.heap.size w2 w3 → NewT (dv 10000 zs * k) w (.returned (.slice A2 n2 q2)) w3 from fun w3 h3 => ⟨A2, n2, q2, l2, rfl, (s2.below h3).more h3.size, t1, t2, t3, HB2.out.trans (h3.mono HB2.out.size), t4, t5, by omega⟩)
  clear s2 t3 t4 t5 t6 b2 hnn h0 hb
  go_wp2_with fail
  go_ret
  exact HF.out _ (((Below.refl _ _).alloc (Nat.le_refl _) _))
end Go.Proofs.YtpilpceclmppgaaDoor
