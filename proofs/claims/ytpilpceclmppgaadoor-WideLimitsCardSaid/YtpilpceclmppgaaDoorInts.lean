/- Contracts of package wide's integers: signed, inRange, From, Neg, Gcd. · Contracts of package wide's integers: Compare, Sign, Gcd, Small. · Contracts of package wide's integers: Small. · Contracts of package wide's integers: Mul. · Contracts of package wide's integers: Add. · Contracts of package wide's integers: Sub. · Contracts of package wide's integers: Div. -/
import Derived.Test.YtpilpceclmppgaaDoorNatK
import Derived.Test.YtpilpceclmppgaaDoorBlk
import Derived.Test.YtpilpceclmppgaaDoorRef3F
import Derived.Deep.RegionHeld3
import Derived.Deep.DeepMust
import Derived.Test.YtpilpceclmppgaaDoorNums
namespace Go.Proofs.YtpilpceclmppgaaDoor
open Go.RowKit
set_option linter.unusedVariables false

/-- an integer of package wide -/
def RepI (w : World) (B : Nat) (z : Int) (v : Value) : Prop :=
  ∃ A n c zs, v = .agg #[.bool (decide (z < 0)), .slice A n c] ∧ NatR w B (z.natAbs : Int) A n c zs
theorem RepI.below {w w' : World} {B : Nat} {z : Int} {v : Value} (h : RepI w B z v) (hb : Below B w w') : RepI w' B z v := by
  obtain ⟨A, n, c, zs, h1, h2⟩ := h
  exact ⟨A, n, c, zs, h1, h2.below hb⟩
theorem RepI.more {w : World} {B B' : Nat} {z : Int} {v : Value} (h : RepI w B z v) (hb : B ≤ B') : RepI w B' z v := by
  obtain ⟨A, n, c, zs, h1, h2⟩ := h
  exact ⟨A, n, c, zs, h1, h2.more hb⟩
theorem RepI.zero (w : World) (B : Nat) : RepI w B 0 (.agg #[.bool false, .slice none 0 0]) :=
  ⟨none, 0, 0, [], rfl, Sl.nil _ _ _ _, Nat.le_refl _, Nat.zero_le _, fun _ => rfl, Dig.nil, (fun h => by cases h), rfl⟩
/-- a new integer of package wide -/
def NewI (z : Int) (w : World) (e : Ending) (w' : World) : Prop := ∃ v, e = .returned v ∧ RepI w' w'.heap.size z v ∧ Below w.heap.size w w'
/-- the same with an error number -/
def NewE (z : Int) (er : Int) (w : World) (e : Ending) (w' : World) : Prop := ∃ v, e = .returned (.tuple #[v, .int .i64 er]) ∧ RepI w' w'.heap.size z v ∧ Below w.heap.size w w'
def sgn (neg : Bool) (x : Int) : Int := if neg then -x else x
theorem sgn_abs (neg : Bool) {x : Int} (h : 0 ≤ x) : ((sgn neg x).natAbs : Int) = x := by
  cases neg
  · show ((x.natAbs : Nat) : Int) = x; omega
  · show (((-x).natAbs : Nat) : Int) = x; omega
theorem sgn_neg (neg : Bool) {x : Int} (h : 0 < x) : decide (sgn neg x < 0) = neg := by
  cases neg
  · show decide (x < 0) = false; simp; omega
  · show decide (-x < 0) = true; simp; omega
theorem sgn_self (z : Int) : sgn (decide (z < 0)) (z.natAbs : Int) = z := by
  by_cases h : z < 0
  · rw [decide_eq_true h]; show -(z.natAbs : Int) = z; omega
  · rw [decide_eq_false h]; show (z.natAbs : Int) = z; omega
set_option maxHeartbeats 1000000 in
theorem signed_any (neg : Bool) (x : Int) (A : Option Addr) (n c : Nat) (zs : List Int) (w : World) (h : NatR w w.heap.size x A n c zs) :
    Calls Tryd.prog 54 #[.bool neg, .slice A n c] w (NewI (sgn neg x) w) := by
  have hal : ∀ o : Obj, Below w.heap.size w (w.alloc o) := fun o => (Below.refl _ _).alloc (Nat.le_refl _) o
  rcases Nat.eq_zero_or_pos n with rfl | hn
  · obtain rfl := h.zero.1 rfl
    have HF := Lib.hid (show NewI (sgn neg 0) w (.returned (.agg #[.bool false, .slice none 0 0])) (w.alloc (.cells #[.bool false, .slice none 0 0] 34)) from ⟨_, rfl, by rw [show sgn neg 0 = 0 by cases neg <;> rfl]; exact RepI.zero _ _, hal _⟩)
    clear h hal
    go_enter Tryd.func54, Tryd.ntmps54
    go_wp2_with fail
    exact bodyPost_ret (v := .agg #[.bool false, .slice none 0 0]) (by simp [results, Tryd.results54, go_sem]) rfl HF.out
  · have hx : 0 < x := by
      have := h.nonneg
      have := h.zero
      omega
    have HF := Lib.hid (show NewI (sgn neg x) w (.returned (.agg #[.bool neg, .slice A n c])) (w.alloc (.cells #[.bool neg, .slice A n c] 34)) from ⟨_, rfl, ⟨A, n, c, zs, by rw [sgn_neg neg hx], by rw [sgn_abs neg (Int.le_of_lt hx)]; exact (h.below (hal _)).more (hal _).size⟩, hal _⟩)
    clear h hal
    go_enter Tryd.func54, Tryd.ntmps54
    go_wp2_with fail
    exact bodyPost_ret (v := .agg #[.bool neg, .slice A n c]) (by simp [results, Tryd.results54, go_sem]) rfl HF.out
theorem RepI.shape {w : World} {B : Nat} {z : Int} {v : Value} (h : RepI w B z v) : ∃ d A n c, v = .agg #[.bool d, .slice A n c] := by
  obtain ⟨A, n, c, zs, rfl, _⟩ := h
  exact ⟨_, A, n, c, rfl⟩
theorem RepI.stored {w : World} {B R : Nat} {z : Int} {v u u' : Value} {b0 : Bool} {A0 : Option Addr} {n0 k0 : Nat} {t : TypeId} (h : RepI w B z v) (hk : Blk2 w R t (.bool b0) (.slice A0 n0 k0)) :
    RepI ((w.setCell ⟨R, 0, none⟩ u).setCell ⟨R, 1, none⟩ u') B z v := by
  obtain ⟨A, n, c, zs, h1, h2, h3⟩ := h
  exact ⟨A, n, c, zs, h1, h2.off_blk hk (set2_heap _ _ _ _), h3⟩
theorem repI_ret {w w1 : World} {z : Int} {R : Nat} {t : TypeId} {b0 : Bool} {A0 : Option Addr} {n0 k0 : Nat} {A : Option Addr} {n c : Nat} {d : Bool}
    (h : RepI w1 w1.heap.size z (.agg #[.bool d, .slice A n c])) (hk : Blk2 w1 R t (.bool b0) (.slice A0 n0 k0)) (hb : Below w.heap.size w w1) (hR : w.heap.size ≤ R) :
    RepI ((w1.setCell ⟨R, 0, none⟩ (.bool d)).setCell ⟨R, 1, none⟩ (.slice A n c)) ((w1.setCell ⟨R, 0, none⟩ (.bool d)).setCell ⟨R, 1, none⟩ (.slice A n c)).heap.size z (.agg #[.bool d, .slice A n c]) ∧ Below w.heap.size w ((w1.setCell ⟨R, 0, none⟩ (.bool d)).setCell ⟨R, 1, none⟩ (.slice A n c)) :=
  ⟨by have := h.stored (u := .bool d) (u' := .slice A n c) hk; simpa [World.setCell] using this, (hb.setCell (p := ⟨R, 0, none⟩) hR _).setCell (p := ⟨R, 1, none⟩) hR _⟩
set_option maxHeartbeats 1000000 in
theorem inRange_no (neg : Bool) (A : Option Addr) (n c : Nat) (w : World) (hn : 512 < n) :
    Calls Tryd.prog 49 #[.bool neg, .slice A n c] w (NewE 0 4 w) := by
  have hn' : (512 : Int) < (n : Int) := by omega
  have HF := Lib.hid (show NewE 0 4 w (.returned (.tuple #[.agg #[.bool false, .slice none 0 0], .int .i64 4])) (w.alloc (.cells #[.bool false, .slice none 0 0] 34)) from ⟨_, rfl, RepI.zero _ _, (Below.refl _ _).alloc (Nat.le_refl _) _⟩)
  go_enter Tryd.func49, Tryd.ntmps49
  go_wp2_with fail
  exact bodyPost_ret (v := .tuple #[.agg #[.bool false, .slice none 0 0], .int .i64 4]) (by simp [results, Tryd.results49, go_sem]) rfl HF.out
set_option maxHeartbeats 1000000 in
theorem inRange_ok (neg : Bool) (x : Int) (A : Option Addr) (n c : Nat) (zs : List Int) (w : World) (h : NatR w w.heap.size x A n c zs) (hn : n ≤ 512) :
    Calls Tryd.prog 49 #[.bool neg, .slice A n c] w (NewE (sgn neg x) 0 w) := by
  have hn' : ¬ (512 : Int) < (n : Int) := by omega
  have hal : Below w.heap.size w (w.alloc (.cells #[.bool false, .slice none 0 0] 34)) := (Below.refl _ _).alloc (Nat.le_refl _) _
  have HS := Lib.hid (signed_any neg x A n c zs _ ((h.below hal).more hal.size))
  have HK := Lib.hid (Blk2.new w 34 (.bool false) (.slice none 0 0))
  have HAL := Lib.hid hal
  clear h hal
  go_enter Tryd.func49, Tryd.ntmps49
  go_wp2_with fail
  refine HS.out.mono ?_
  rintro e w1 ⟨v, rfl, hr, hb⟩
  obtain ⟨d1, A1, n1, k1, rfl⟩ := hr.shape
  have hk := HK.out.below hb
  have f0 := hk.f0
  have f1 := hk.f1
  have c0 := hk.c0
  have c1 := hk.c1
  obtain ⟨h1, h2⟩ := repI_ret hr hk (HAL.out.trans (hb.mono HAL.out.size)) (Nat.le_refl _)
  have HF := Lib.hid (show NewE (sgn neg x) 0 w (.returned (.tuple #[.agg #[.bool d1, .slice A1 n1 k1], .int .i64 0])) _ from ⟨_, rfl, h1, h2⟩)
  clear hr hb hk h1 h2
  go_wp2_with fail
  exact bodyPost_ret (v := .tuple #[.agg #[.bool d1, .slice A1 n1 k1], .int .i64 0]) (by simp [results, Tryd.results49, go_sem, c0, c1]) rfl HF.out
theorem newI_ret {w w1 : World} {z : Int} {R : Nat} {t : TypeId} {b0 : Bool} {A0 : Option Addr} {n0 k0 : Nat} {A : Option Addr} {n c : Nat} {d : Bool}
    (h : RepI w1 w1.heap.size z (.agg #[.bool d, .slice A n c])) (hk : Blk2 w1 R t (.bool b0) (.slice A0 n0 k0)) (hb : Below w.heap.size w w1) (hR : w.heap.size ≤ R) :
    NewI z w (.returned (.agg #[.bool d, .slice A n c])) ((w1.setCell ⟨R, 0, none⟩ (.bool d)).setCell ⟨R, 1, none⟩ (.slice A n c)) := ⟨_, rfl, repI_ret h hk hb hR⟩
set_option maxHeartbeats 1000000 in
theorem from_any (k : Int) (w : World) (h0 : -9223372036854775808 ≤ k) (h1 : k ≤ 9223372036854775807) :
    Calls Tryd.prog 21 #[.int .i64 k] w (NewI k w) := by
  have hal : Below w.heap.size w (w.alloc (.cells #[.bool false, .slice none 0 0] 34)) := (Below.refl _ _).alloc (Nat.le_refl _) _
  have HK := Lib.hid (Blk2.new w 34 (.bool false) (.slice none 0 0))
  have HAL := Lib.hid hal
  clear hal
  by_cases hk : k < 0
  · have HW := Lib.hid (fromWord_any (-k) (w.alloc (.cells #[.bool false, .slice none 0 0] 34)) (by omega) (by omega))
    have e1 : IntKind.u64.wrap k = k + 18446744073709551616 := by rw [IntKind.wrap_u64]; omega
    have e2 : IntKind.u64.wrap (-(k + 18446744073709551616)) = -k := by rw [IntKind.wrap_u64]; omega
    go_enter Tryd.func21, Tryd.ntmps21
    go_wp2_with fail
    refine HW.out.mono ?_
    rintro e w1 ⟨A1, n1, c1, zs1, rfl, hr1, hb1⟩
    have HS := Lib.hid (signed_any true (-k) A1 n1 c1 zs1 w1 hr1)
    have HB1 := Lib.hid hb1
    clear hr1 hb1
    go_wp2_with fail
    refine HS.out.mono ?_
    rintro e w2 ⟨v, rfl, hr, hb⟩
    obtain ⟨d1, A2, n2, k2, rfl⟩ := hr.shape
    have hk2 := (HK.out.below HB1.out).below hb
    have f0 := hk2.f0
    have f1 := hk2.f1
    have c0 := hk2.c0
    have c1 := hk2.c1
    have HF := Lib.hid (newI_ret hr hk2 (HAL.out.trans ((HB1.out.trans (hb.mono HB1.out.size)).mono HAL.out.size)) (Nat.le_refl _))
    rw [show sgn true (-k) = k by unfold sgn; simp] at HF
    clear hr hb hk2
    go_wp2_with fail
    exact bodyPost_ret (v := .agg #[.bool d1, .slice A2 n2 k2]) (by simp [results, Tryd.results21, go_sem, c0, c1]) rfl HF.out
  · have HW := Lib.hid (fromWord_any k (w.alloc (.cells #[.bool false, .slice none 0 0] 34)) (by omega) (by omega))
    have e1 : IntKind.u64.wrap k = k := by rw [IntKind.wrap_u64]; omega
    go_enter Tryd.func21, Tryd.ntmps21
    go_wp2_with fail
    refine HW.out.mono ?_
    rintro e w1 ⟨A1, n1, c1, zs1, rfl, hr1, hb1⟩
    have HS := Lib.hid (signed_any false k A1 n1 c1 zs1 w1 hr1)
    have HB1 := Lib.hid hb1
    clear hr1 hb1
    go_wp2_with fail
    refine HS.out.mono ?_
    rintro e w2 ⟨v, rfl, hr, hb⟩
    obtain ⟨d1, A2, n2, k2, rfl⟩ := hr.shape
    have hk2 := (HK.out.below HB1.out).below hb
    have f0 := hk2.f0
    have f1 := hk2.f1
    have c0 := hk2.c0
    have c1 := hk2.c1
    have HF := Lib.hid (newI_ret hr hk2 (HAL.out.trans ((HB1.out.trans (hb.mono HB1.out.size)).mono HAL.out.size)) (Nat.le_refl _))
    rw [show sgn false k = k by unfold sgn; simp] at HF
    clear hr hb hk2
    go_wp2_with fail
    exact bodyPost_ret (v := .agg #[.bool d1, .slice A2 n2 k2]) (by simp [results, Tryd.results21, go_sem, c0, c1]) rfl HF.out
set_option maxHeartbeats 1000000 in
theorem ineg_any (z : Int) (v : Value) (w : World) (h : RepI w w.heap.size z v) (N : Nat) (hN : N ≤ 1000000) (hz : (z.natAbs : Int) < 4294967296 ^ N) :
    Calls Tryd.prog 40 #[v] w (NewI (-z) w) := by
  obtain ⟨A, n, c, zs, rfl, hr⟩ := h
  obtain ⟨b, hb⟩ : ∃ b, b = decide (z < 0) := ⟨_, rfl⟩
  rw [← hb]
  have hn := hr.len_le hz
  obtain ⟨W2, hW2, hB2, hS2, p1, p2⟩ := boxes2 w 34 (.bool b) (.slice A n c) (.bool false) (.slice none 0 0)
  have HW := Lib.hid hW2
  have HR := Lib.hid hr
  have HR2 := Lib.hid ((hr.below hB2).more hB2.size)
  have HB := Lib.hid hB2
  have HP2 := Lib.hid p2
  have HZ := Lib.hid (show sgn (!b) (z.natAbs : Int) = -z from by
    rw [hb]
    by_cases h : z < 0
    · rw [decide_eq_true h]; show (z.natAbs : Int) = -z; omega
    · rw [decide_eq_false h]; show -(z.natAbs : Int) = -z; omega)
  have g0 := p1.c0
  have g1 := p1.c1
  clear hW2 hr hb hB2 hS2 p1 p2 hz
  go_enter Tryd.func40, Tryd.ntmps40
  go_wp2_with fail
  rw [← HW.out]
  clear HW
  go_region_held3 (fun w' => w'.cell? ⟨w.heap.size, 0, none⟩ = some (.bool b) ∧ w'.cell? ⟨w.heap.size, 1, none⟩ = some (.slice A n c))
    (exact ⟨by first | assumption | (simp only [World.cell?_drew]; assumption) | exact cell_set2 (by assumption) (by omega), by first | assumption | (simp only [World.cell?_drew]; assumption) | exact cell_set2 (by assumption) (by omega)⟩)
    (first
      | (go_at_call 66
         refine (clone_any A n c _ _ (by exact HR2.out.1) HR2.out.2.2.2.1 HR2.out.2.1 (by omega)).mono ?_
         rintro e w3 h3
         obtain ⟨A3, n3, c3, ys3, rfl, r3, b3⟩ := h3.new HR.out.2.2.2.2.1 HR.out.2.2.2.2.2.1 HR.out.2.2.2.2.2.2
         have b3 : Below W2.heap.size W2 w3 := by first | exact b3 | exact below_undrew b3
         have HR3 := Lib.hid r3
         have HP3 := Lib.hid (HP2.out.below b3)
         have HB3 := Lib.hid (HB.out.trans (b3.mono HB.out.size))
         have k0 := cell_below g0 b3
         have k1 := cell_below g1 b3
         clear b3 r3 h3)
      | (go_at_call 54
         refine (signed_any (!b) _ A3 n3 c3 ys3 _ (by exact HR3.out)).mono ?_
         rintro e w4 h4
         obtain ⟨v4, rfl, r4, b4⟩ := h4
         obtain ⟨d4, A4, n4, q4, rfl⟩ := r4.shape
         have b4 : Below w3.heap.size w3 w4 := by first | exact b4 | exact below_undrew b4
         have hk4 := HP3.out.below b4
         have hb4 := HB3.out.trans (b4.mono HB3.out.size)
         have j0 := cell_below k0 b4
         have j1 := cell_below k1 b4
         have c0 := hk4.c0
         have c1 := hk4.c1
         have f0 := hk4.f0
         have f1 := hk4.f1
         have HF := Lib.hid (newI_ret r4 hk4 hb4 (by omega))
         clear hk4 hb4 r4 b4))
  go_wp2_with fail
  exact bodyPost_ret (v := .agg #[.bool d4, .slice A4 n4 q4]) (by simp [results, Tryd.results40, go_sem, c0, c1]) rfl (by have h := HF.out; rw [HZ.out] at h; exact h)
end Go.Proofs.YtpilpceclmppgaaDoor
namespace Go.Proofs.YtpilpceclmppgaaDoor
open Go.RowKit
set_option linter.unusedVariables false

theorem box2_below (w : World) (o1 o2 : Obj) : Below w.heap.size w ((w.alloc o1).alloc o2) := ((Below.refl _ _).alloc (Nat.le_refl _) _).alloc (by simp) _
def CmpU (x y : Int) (w : World) (e : Ending) (w' : World) : Prop := e = .returned (.int .i64 (cmpI' x y)) ∧ Below w.heap.size w w'
theorem cmpI'_lt {x y : Int} (h : x < y) : cmpI' x y = -1 := if_pos h
theorem cmpI'_gt {x y : Int} (h : y < x) : cmpI' x y = 1 := by rw [cmpI', if_neg (by omega), if_pos h]
theorem cmpI'_nn {x y : Int} (hx : 0 ≤ x) (hy : 0 ≤ y) : cmpI' (x.natAbs : Int) (y.natAbs : Int) = cmpI' x y := by unfold cmpI'; rw [show (x.natAbs : Int) = x by omega, show (y.natAbs : Int) = y by omega]
theorem cmpI'_pp {x y : Int} (hx : x < 0) (hy : y < 0) : cmpI' (y.natAbs : Int) (x.natAbs : Int) = cmpI' x y := by
  unfold cmpI'
  rw [show (x.natAbs : Int) = -x by omega, show (y.natAbs : Int) = -y by omega]
  split <;> split <;> (try split) <;> omega
set_option maxHeartbeats 1000000 in
theorem icompare_any (x y : Int) (u v : Value) (w : World) (hx : RepI w w.heap.size x u) (hy : RepI w w.heap.size y v) (N : Nat) (hN : N ≤ 100000) (bx : (x.natAbs : Int) < 4294967296 ^ N) (by_ : (y.natAbs : Int) < 4294967296 ^ N) :
    Calls Tryd.prog 37 #[u, v] w (CmpU x y w) := by
  obtain ⟨A, n, c, zs, rfl, hr⟩ := hx
  obtain ⟨E, m, f, ys, rfl, hs⟩ := hy
  have hn := hr.len_le bx
  have hm := hs.len_le by_
  have hal := box2_below w (.cells #[.bool (decide (x < 0)), .slice A n c] 34) (.cells #[.bool (decide (y < 0)), .slice E m f] 34)
  have hr2 := (hr.below hal).more hal.size
  have hs2 := (hs.below hal).more hal.size
  by_cases h1 : x < 0
  · rw [decide_eq_true h1] at hal hr2 hs2 ⊢
    by_cases h2 : y < 0
    · rw [decide_eq_true h2] at hal hr2 hs2 ⊢
      have HC := Lib.hid (ncompare_any _ _ E A m f n c ys zs _ hs2 hr2 (by omega) (by omega))
      rw [cmpI'_pp h1 h2] at HC
      have HAL := Lib.hid hal
      clear hal hr2 hs2 hr hs bx by_
      go_enter Tryd.func37, Tryd.ntmps37
      go_wp2_with fail
      refine HC.out.mono ?_
      rintro e w1 ⟨rfl, q, rfl⟩
      have HF := Lib.hid (below_drewN HAL.out q)
      go_wp2_with fail
      go_ret
      exact ⟨rfl, HF.out⟩
    · rw [decide_eq_false h2] at hal hr2 hs2 ⊢
      rw [show CmpU x y w = fun e w' => e = .returned (.int .i64 (-1)) ∧ Below w.heap.size w w' from by unfold CmpU; rw [cmpI'_lt (by omega)]]
      have HAL := Lib.hid hal
      clear hal hr2 hs2 hr hs bx by_
      go_enter Tryd.func37, Tryd.ntmps37
      go_wp2_with fail
      go_ret
      exact ⟨rfl, HAL.out⟩
  · rw [decide_eq_false h1] at hal hr2 hs2 ⊢
    by_cases h2 : y < 0
    · rw [decide_eq_true h2] at hal hr2 hs2 ⊢
      rw [show CmpU x y w = fun e w' => e = .returned (.int .i64 1) ∧ Below w.heap.size w w' from by unfold CmpU; rw [cmpI'_gt (by omega)]]
      have HAL := Lib.hid hal
      clear hal hr2 hs2 hr hs bx by_
      go_enter Tryd.func37, Tryd.ntmps37
      go_wp2_with fail
      go_ret
      exact ⟨rfl, HAL.out⟩
    · rw [decide_eq_false h2] at hal hr2 hs2 ⊢
      have HC := Lib.hid (ncompare_any _ _ A E n c m f zs ys _ hr2 hs2 (by omega) (by omega))
      rw [cmpI'_nn (by omega) (by omega)] at HC
      have HAL := Lib.hid hal
      clear hal hr2 hs2 hr hs bx by_
      go_enter Tryd.func37, Tryd.ntmps37
      go_wp2_with fail
      refine HC.out.mono ?_
      rintro e w1 ⟨rfl, q, rfl⟩
      have HF := Lib.hid (below_drewN HAL.out q)
      go_wp2_with fail
      go_ret
      exact ⟨rfl, HF.out⟩
theorem box1_below (w : World) (o1 : Obj) : Below w.heap.size w (w.alloc o1) := (Below.refl _ _).alloc (Nat.le_refl _) _
set_option maxHeartbeats 1000000 in
theorem isign_any (x : Int) (u : Value) (w : World) (hx : RepI w w.heap.size x u) (N : Nat) (hN : N ≤ 100000) (bx : (x.natAbs : Int) < 4294967296 ^ N) :
    Calls Tryd.prog 39 #[u] w (CmpU x 0 w) := by
  obtain ⟨d, A, n, c, rfl⟩ := hx.shape
  have hal := box1_below w (.cells #[.bool d, .slice A n c] 34)
  have HC := Lib.hid (icompare_any x 0 _ _ _ ((hx.below hal).more hal.size) (RepI.zero _ _) N hN bx (pow_pos' (by omega) N))
  have HAL := Lib.hid hal
  clear hal hx bx
  go_enter Tryd.func39, Tryd.ntmps39
  go_wp2_with fail
  refine HC.out.mono ?_
  rintro e w1 ⟨rfl, hb⟩
  have HF := Lib.hid (HAL.out.trans (hb.mono HAL.out.size))
  clear hb
  go_wp2_with fail
  go_ret
  exact ⟨rfl, HF.out⟩
set_option maxHeartbeats 1000000 in
theorem igcd_any (x y : Int) (u v : Value) (w : World) (hx : RepI w w.heap.size x u) (hy : RepI w w.heap.size y v) (N : Nat) (hN : N ≤ 40000) (bx : (x.natAbs : Int) < 4294967296 ^ N) (by_ : (y.natAbs : Int) < 4294967296 ^ N) :
    Calls Tryd.prog 41 #[u, v] w (NewI (Nat.gcd x.natAbs y.natAbs : Int) w) := by
  obtain ⟨A, n, c, zs, rfl, hr⟩ := hx
  obtain ⟨E, m, f, ys, rfl, hs⟩ := hy
  have hn := hr.len_le bx
  have hm := hs.len_le by_
  obtain ⟨b1, hb1⟩ : ∃ b, b = decide (x < 0) := ⟨_, rfl⟩
  obtain ⟨b2, hb2⟩ : ∃ b, b = decide (y < 0) := ⟨_, rfl⟩
  rw [← hb1, ← hb2]
  obtain ⟨W2, hW2, hB2, hS2, p1, p2, p3⟩ := boxes3 w 34 (.bool b1) (.slice A n c) (.bool b2) (.slice E m f) (.bool false) (.slice none 0 0)
  have HW := Lib.hid hW2
  have HG := Lib.hid (ngcd_any N x.natAbs y.natAbs A E n c m f zs ys W2 ((hr.below hB2).more hB2.size) ((hs.below hB2).more hB2.size) hn hm hN)
  have HB := Lib.hid hB2
  have HP3 := Lib.hid p3
  have HD := Lib.hid (show sgn false (Nat.gcd x.natAbs y.natAbs : Int) = (Nat.gcd x.natAbs y.natAbs : Int) from rfl)
  have g1 := p1.c1
  have g3 := p2.c1
  clear hr hs hb1 hb2 hW2 hB2 p1 p2 p3 bx by_
  go_enter Tryd.func41, Tryd.ntmps41
  go_wp2_with fail
  rw [← HW.out]
  refine HG.out.mono ?_
  rintro e w1 ⟨A1, n1, c1', zs1, rfl, hr1, hb1⟩
  have HS := Lib.hid (signed_any false _ A1 n1 c1' zs1 w1 hr1)
  have HP1 := Lib.hid (HP3.out.below hb1)
  have HB1 := Lib.hid (HB.out.trans (hb1.mono HB.out.size))
  clear hr1 hb1
  go_wp2_with fail
  refine HS.out.mono ?_
  rintro e w2 ⟨v, rfl, hr, hb⟩
  obtain ⟨d1, A2, n2, k2, rfl⟩ := hr.shape
  have hk2 := HP1.out.below hb
  have f0 := hk2.f0
  have f1 := hk2.f1
  have c0 := hk2.c0
  have c1 := hk2.c1
  have HF := Lib.hid (newI_ret hr hk2 (HB1.out.trans (hb.mono HB1.out.size)) (by omega))
  rw [HD.out] at HF
  clear hr hb hk2
  go_wp2_with fail
  exact bodyPost_ret (v := .agg #[.bool d1, .slice A2 n2 k2]) (by simp [results, Tryd.results41, go_sem, c0, c1]) rfl HF.out
end Go.Proofs.YtpilpceclmppgaaDoor
namespace Go.Proofs.YtpilpceclmppgaaDoor
open Go.RowKit
set_option linter.unusedVariables false

def SmallU (r : Int) (ok : Bool) (w : World) (e : Ending) (w' : World) : Prop := e = .returned (.tuple #[.int .i64 r, .bool ok]) ∧ Below w.heap.size w w'
def isI (z : Int) : Bool := decide (-9223372036854775808 ≤ z ∧ z ≤ 9223372036854775807)
set_option maxHeartbeats 1000000 in
theorem ismall_any (z : Int) (u : Value) (w : World) (hx : RepI w w.heap.size z u) (N : Nat) (hN : N ≤ 100000) (bx : (z.natAbs : Int) < 4294967296 ^ N) :
    Calls Tryd.prog 22 #[u] w (SmallU (if isI z then z else 0) (isI z) w) := by
  obtain ⟨A, n, c, zs, rfl, hr⟩ := hx
  have hn := hr.len_le bx
  have hal := Lib.hid ((Below.refl w.heap.size w).alloc (Nat.le_refl _) (.cells #[.bool (decide (z < 0)), .slice A n c] 34))
  by_cases h2 : (2 : Int) < (n : Int)
  · have hz : isI z = false := by
      have h3 := top_ge (show (1 : Int) < 4294967296 by omega) hr.2.2.2.2.1 hr.2.2.2.2.2.1 (by intro e; have := hr.1.len; rw [e] at this; simp at this; omega)
      rw [hr.2.2.2.2.2.2, hr.1.len] at h3
      have h4 := pow_mono' (show (0 : Int) < 4294967296 by omega) (show 2 ≤ n - 1 by omega)
      have h5 : (4294967296 : Int) ^ 2 = 18446744073709551616 := by decide +kernel
      unfold isI
      rw [decide_eq_false]
      omega
    rw [hz]
    clear hr bx
    go_enter Tryd.func22, Tryd.ntmps22
    go_wp2_with fail
    refine bodyPost_ret (results_tmp2 rfl _ _ _) rfl ?_
    exact ⟨rfl, hal.out⟩
  · have hw := word_any A n c zs (w.alloc (.cells #[.bool (decide (z < 0)), .slice A n c] 34)) ((hr.1.below hal.out).more hal.out.size) hr.2.2.2.2.1 (by omega)
    rw [hr.word (by omega)] at hw
    have HW := Lib.hid hw
    have hX : (z.natAbs : Int) ≤ 18446744073709551615 := by
      have h3 := hr.lt
      have h4 := pow_mono' (show (0 : Int) < 4294967296 by omega) (show n ≤ 2 by omega)
      have h5 : (4294967296 : Int) ^ 2 = 18446744073709551616 := by decide +kernel
      omega
    clear hw hr bx
    by_cases h0 : z < 0
    · rw [decide_eq_true h0] at hal HW ⊢
      rw [show (z.natAbs : Int) = -z by omega] at HW hX
      rcases Int.lt_trichotomy z (-9223372036854775808) with h1 | rfl | h1
      · have hz : isI z = false := by unfold isI; rw [decide_eq_false]; omega
        rw [hz]
        have e1 : IntKind.i64.wrap (-z) = -z - 18446744073709551616 := by rw [IntKind.wrap_i64]; omega
        have e2 : IntKind.i64.wrap (-(-z - 18446744073709551616)) = z + 18446744073709551616 := by rw [IntKind.wrap_i64]; omega
        have e3 : decide (z + 18446744073709551616 < 0) = false := by rw [decide_eq_false]; omega
        go_enter Tryd.func22, Tryd.ntmps22
        go_wp2_with fail
        refine HW.out.mono ?_
        rintro e w1 ⟨rfl, rfl⟩
        go_wp2_with fail
        refine bodyPost_ret (results_tmp2 rfl _ _ _) rfl ?_
        exact ⟨rfl, hal.out⟩
      · have hz : isI (-9223372036854775808) = true := by decide
        rw [hz]
        have e1 : wrap64 9223372036854775808 = -9223372036854775808 := by decide +kernel
        have e2 : wrap64 (- -9223372036854775808) = -9223372036854775808 := by decide +kernel
        go_enter Tryd.func22, Tryd.ntmps22
        go_wp2_with fail
        refine HW.out.mono ?_
        rintro e w1 ⟨rfl, rfl⟩
        go_wp2_with fail
        refine bodyPost_ret (results_tmp2 rfl _ _ _) rfl ?_
        exact ⟨rfl, hal.out⟩
      · have hz : isI z = true := by unfold isI; rw [decide_eq_true]; omega
        rw [hz]
        have e1 : IntKind.i64.wrap (-z) = -z := IntWalk.i64_in _ (by omega)
        have e2 : IntKind.i64.wrap (- -z) = z := by rw [Int.neg_neg]; exact IntWalk.i64_in _ (by omega)
        go_enter Tryd.func22, Tryd.ntmps22
        go_wp2_with fail
        refine HW.out.mono ?_
        rintro e w1 ⟨rfl, rfl⟩
        go_wp2_with fail
        refine bodyPost_ret (results_tmp2 rfl _ _ _) rfl ?_
        exact ⟨rfl, hal.out⟩
    · rw [decide_eq_false h0] at hal HW ⊢
      rw [show (z.natAbs : Int) = z by omega] at HW hX
      by_cases h1 : z ≤ 9223372036854775807
      · have hz : isI z = true := by unfold isI; rw [decide_eq_true]; omega
        rw [hz]
        have e1 : IntKind.i64.wrap z = z := IntWalk.i64_in _ (by omega)
        go_enter Tryd.func22, Tryd.ntmps22
        go_wp2_with fail
        refine HW.out.mono ?_
        rintro e w1 ⟨rfl, rfl⟩
        go_wp2_with fail
        refine bodyPost_ret (results_tmp2 rfl _ _ _) rfl ?_
        exact ⟨rfl, hal.out⟩
      · have hz : isI z = false := by unfold isI; rw [decide_eq_false]; omega
        rw [hz]
        have e1 : IntKind.i64.wrap z = z - 18446744073709551616 := by rw [IntKind.wrap_i64]; omega
        have e3 : z - 18446744073709551616 < 0 := by omega
        go_enter Tryd.func22, Tryd.ntmps22
        go_wp2_with fail
        refine HW.out.mono ?_
        rintro e w1 ⟨rfl, rfl⟩
        go_wp2_with fail
        refine bodyPost_ret (results_tmp2 rfl _ _ _) rfl ?_
        exact ⟨rfl, hal.out⟩
end Go.Proofs.YtpilpceclmppgaaDoor
namespace Go.Proofs.YtpilpceclmppgaaDoor
open Go.RowKit
set_option linter.unusedVariables false

theorem nat_512a : (4294967296 : Nat) ^ 512 ≤ 2 ^ 16384 := by decide +kernel
theorem nat_512b : (2 : Nat) ^ 16384 ≤ 4294967296 ^ 512 := by decide +kernel
theorem lim_512 : ∃ N : Nat, N = 512 ∧ lim = 4294967296 ^ N :=
  ⟨512, rfl, Int.le_antisymm (pow_le_cast 2 16384 4294967296 512 2 4294967296 rfl rfl nat_512b) (pow_le_cast 4294967296 512 2 16384 4294967296 2 rfl rfl nat_512a)⟩
theorem fit_pow {z : Int} (h : (z.natAbs : Int) < lim) : ∃ N : Nat, N = 512 ∧ (z.natAbs : Int) < 4294967296 ^ N := by
  obtain ⟨N, h1, h2⟩ := lim_512
  exact ⟨N, h1, by rw [← h2]; exact h⟩
theorem NatR.fit {w : World} {B n c : Nat} {x : Int} {A : Option Addr} {zs : List Int} (h : NatR w B x A n c zs) : n ≤ 512 ↔ x < lim := by
  obtain ⟨N, h1, h2⟩ := lim_512
  rw [h2]
  constructor
  · intro hn
    exact Int.lt_of_lt_of_le h.lt (pow_mono' (by omega) (by omega))
  · intro hx
    have := h.len_le hx
    omega
/-- the integer of a size with a sign, if it is one, and its error number -/
def fitI (z : Int) : Int := if (z.natAbs : Int) < lim then z else 0
def fitE (z : Int) : Int := if (z.natAbs : Int) < lim then 0 else 4
theorem inRange_any (neg : Bool) (x : Int) (A : Option Addr) (n c : Nat) (zs : List Int) (w : World) (h : NatR w w.heap.size x A n c zs) (z : Int) (hz : sgn neg x = z) :
    Calls Tryd.prog 49 #[.bool neg, .slice A n c] w (NewE (fitI z) (fitE z) w) := by
  have ha : (z.natAbs : Int) = x := by rw [← hz]; exact sgn_abs neg h.nonneg
  by_cases hf : x < lim
  · have e1 : fitI z = sgn neg x := by rw [fitI, ha, if_pos hf, hz]
    have e2 : fitE z = 0 := by rw [fitE, ha, if_pos hf]
    rw [e1, e2]
    exact inRange_ok neg x A n c zs w h (h.fit.2 hf)
  · have e1 : fitI z = 0 := by rw [fitI, ha, if_neg hf]
    have e2 : fitE z = 4 := by rw [fitE, ha, if_neg hf]
    rw [e1, e2]
    exact inRange_no neg A n c w (by have := h.fit; omega)
theorem sgn_mul (x y : Int) : sgn (decide (x < 0) != decide (y < 0)) ((x.natAbs : Int) * (y.natAbs : Int)) = x * y := by
  by_cases h1 : x < 0
  · by_cases h2 : y < 0
    · rw [decide_eq_true h1, decide_eq_true h2, show (x.natAbs : Int) = -x by omega, show (y.natAbs : Int) = -y by omega]
      show -x * -y = x * y
      grind
    · rw [decide_eq_true h1, decide_eq_false h2, show (x.natAbs : Int) = -x by omega, show (y.natAbs : Int) = y by omega]
      show -(-x * y) = x * y
      grind
  · by_cases h2 : y < 0
    · rw [decide_eq_false h1, decide_eq_true h2, show (x.natAbs : Int) = x by omega, show (y.natAbs : Int) = -y by omega]
      show -(x * -y) = x * y
      grind
    · rw [decide_eq_false h1, decide_eq_false h2, show (x.natAbs : Int) = x by omega, show (y.natAbs : Int) = y by omega]
      show x * y = x * y
      rfl
set_option maxRecDepth 100000 in
set_option maxHeartbeats 1000000 in
theorem imul_any (x y : Int) (u v : Value) (w : World) (hx : RepI w w.heap.size x u) (hy : RepI w w.heap.size y v) (bx : (x.natAbs : Int) < lim) (by_ : (y.natAbs : Int) < lim) :
    Calls Tryd.prog 31 #[u, v] w (NewE (fitI (x * y)) (fitE (x * y)) w) := by
  obtain ⟨A, n, c, zs, rfl, hr⟩ := hx
  obtain ⟨E, m, f, ys, rfl, hs⟩ := hy
  have hn := hr.fit.2 bx
  have hm := hs.fit.2 by_
  obtain ⟨b1, hb1⟩ : ∃ b, b = decide (x < 0) := ⟨_, rfl⟩
  obtain ⟨b2, hb2⟩ : ∃ b, b = decide (y < 0) := ⟨_, rfl⟩
  have hsg := sgn_mul x y
  rw [← hb1, ← hb2] at hsg
  rw [← hb1, ← hb2]
  obtain ⟨b3, hb3⟩ : ∃ b, b = (b1 != b2) := ⟨_, rfl⟩
  rw [← hb3] at hsg
  obtain ⟨W2, hW2, hB2, hS2, p1, p2, p3⟩ := boxes3 w 34 (.bool b1) (.slice A n c) (.bool b2) (.slice E m f) (.bool false) (.slice none 0 0)
  have HW := Lib.hid hW2
  have HR2 := Lib.hid ((hr.below hB2).more hB2.size)
  have HS2 := Lib.hid ((hs.below hB2).more hB2.size)
  have HB := Lib.hid hB2
  have HP3 := Lib.hid p3
  have HIR := Lib.hid (fun A3 n3 c3 ys3 W h => inRange_any b3 ((x.natAbs : Int) * (y.natAbs : Int)) A3 n3 c3 ys3 W h (x * y) hsg)
  obtain ⟨Z, hZ⟩ : ∃ Z, Z = fitI (x * y) := ⟨_, rfl⟩
  obtain ⟨er, her⟩ : ∃ er, er = fitE (x * y) := ⟨_, rfl⟩
  rw [← hZ, ← her] at HIR ⊢
  have hb3' : (!(b1 == b2)) = b3 := hb3.symm
  have g0 := p1.c0
  have g1 := p1.c1
  have g2 := p2.c0
  have g3 := p2.c1
  clear hW2 hr hs hb1 hb2 hb3 hB2 hS2 p1 p2 p3 hsg bx by_ hZ her
  go_enter Tryd.func31, Tryd.ntmps31
  go_wp2_with fail
  rw [← HW.out]
  clear HW
  go_region_held3 (fun w' => w'.cell? ⟨w.heap.size, 0, none⟩ = some (.bool b1) ∧ w'.cell? ⟨w.heap.size, 1, none⟩ = some (.slice A n c) ∧ w'.cell? ⟨w.heap.size + 1, 0, none⟩ = some (.bool b2) ∧ w'.cell? ⟨w.heap.size + 1, 1, none⟩ = some (.slice E m f))
    (exact ⟨by first | assumption | (simp only [World.cell?_drew]; assumption) | exact cell_set2 (by assumption) (by omega), by first | assumption | (simp only [World.cell?_drew]; assumption) | exact cell_set2 (by assumption) (by omega), by first | assumption | (simp only [World.cell?_drew]; assumption) | exact cell_set2 (by assumption) (by omega), by first | assumption | (simp only [World.cell?_drew]; assumption) | exact cell_set2 (by assumption) (by omega)⟩)
    (first
      | (go_at_call 63
         refine (nmul_any _ _ A E n c m f _ _ _ (by exact HR2.out) (by exact HS2.out) (by omega) (by omega)).mono ?_
         rintro e w3 h3
         obtain ⟨A3, n3, c3, ys3, rfl, r3, b3'⟩ := h3
         have b3' : Below W2.heap.size W2 w3 := by first | exact b3' | exact below_undrew b3'
         have HR3 := Lib.hid r3
         have HP3' := Lib.hid (HP3.out.below b3')
         have HB3 := Lib.hid (HB.out.trans (b3'.mono HB.out.size))
         have k0 := cell_below g0 b3'
         have k1 := cell_below g1 b3'
         have k2 := cell_below g2 b3'
         have k3 := cell_below g3 b3'
         clear b3' r3)
      | (go_at_call 49
         refine (HIR.out A3 n3 c3 ys3 _ (by exact HR3.out)).mono ?_
         rintro e w4 h4
         obtain ⟨v4, rfl, r4, b4⟩ := h4
         obtain ⟨d4, A4, n4, q4, rfl⟩ := r4.shape
         have b4 : Below w3.heap.size w3 w4 := by first | exact b4 | exact below_undrew b4
         have hk4 := HP3'.out.below b4
         have hb4 := HB3.out.trans (b4.mono HB3.out.size)
         have j0 := cell_below k0 b4
         have j1 := cell_below k1 b4
         have j2 := cell_below k2 b4
         have j3 := cell_below k3 b4
         have c0 := hk4.c0
         have c1 := hk4.c1
         have f0 := hk4.f0
         have f1 := hk4.f1
         have HF := Lib.hid (repI_ret r4 hk4 hb4 (by omega))
         clear hk4 hb4 r4 b4))
  go_wp2_with fail
  exact bodyPost_ret (v := .tuple #[.agg #[.bool d4, .slice A4 n4 q4], .int .i64 er]) (by simp [results, Tryd.results31, go_sem, c0, c1]) rfl ⟨_, rfl, HF.out.1, HF.out.2⟩
end Go.Proofs.YtpilpceclmppgaaDoor
namespace Go.Proofs.YtpilpceclmppgaaDoor
open Go.RowKit
set_option linter.unusedVariables false

theorem sgn_add (x y : Int) (h : decide (x < 0) = decide (y < 0)) : sgn (decide (x < 0)) ((x.natAbs : Int) + (y.natAbs : Int)) = x + y := by
  by_cases h1 : x < 0
  · have h2 : y < 0 := by rw [decide_eq_true h1] at h; exact of_decide_eq_true h.symm
    rw [decide_eq_true h1]; show -((x.natAbs : Int) + (y.natAbs : Int)) = x + y; omega
  · have h2 : ¬ y < 0 := by rw [decide_eq_false h1] at h; exact of_decide_eq_false h.symm
    rw [decide_eq_false h1]; show (x.natAbs : Int) + (y.natAbs : Int) = x + y; omega
theorem sgn_sub (x y : Int) (h : decide (x < 0) ≠ decide (y < 0)) : sgn (decide (x < 0)) ((x.natAbs : Int) - (y.natAbs : Int)) = x + y := by
  by_cases h1 : x < 0
  · have h2 : ¬ y < 0 := fun h2 => h (by rw [decide_eq_true h1, decide_eq_true h2])
    rw [decide_eq_true h1]; show -((x.natAbs : Int) - (y.natAbs : Int)) = x + y; omega
  · have h2 : y < 0 := by
      rcases Int.lt_or_le y 0 with h3 | h3
      · exact h3
      · exact absurd (by rw [decide_eq_false h1, decide_eq_false (show ¬ y < 0 by omega)]) h
    rw [decide_eq_false h1]; show (x.natAbs : Int) - (y.natAbs : Int) = x + y; omega
set_option maxRecDepth 100000 in
set_option maxHeartbeats 1000000 in
theorem iadd_same (x y : Int) (u v : Value) (w : World) (hx : RepI w w.heap.size x u) (hy : RepI w w.heap.size y v) (bx : (x.natAbs : Int) < lim) (by_ : (y.natAbs : Int) < lim) (hsame : decide (x < 0) = decide (y < 0)) :
    Calls Tryd.prog 27 #[u, v] w (NewE (fitI (x + y)) (fitE (x + y)) w) := by
  obtain ⟨A, n, c, zs, rfl, hr⟩ := hx
  obtain ⟨E, m, f, ys, rfl, hs⟩ := hy
  have hn := hr.fit.2 bx
  have hm := hs.fit.2 by_
  obtain ⟨b1, hb1⟩ : ∃ b, b = decide (x < 0) := ⟨_, rfl⟩
  obtain ⟨b2, hb2⟩ : ∃ b, b = decide (y < 0) := ⟨_, rfl⟩
  have hsg := sgn_add x y hsame
  rw [← hb1] at hsg
  rw [← hb1, ← hb2]
  obtain rfl : b1 = b2 := by rw [hb1, hb2]; exact hsame
  obtain ⟨W2, hW2, hB2, hS2, p1, p2, p3⟩ := boxes3 w 34 (.bool b1) (.slice A n c) (.bool b1) (.slice E m f) (.bool false) (.slice none 0 0)
  have HW := Lib.hid hW2
  have HR2 := Lib.hid ((hr.below hB2).more hB2.size)
  have HS2 := Lib.hid ((hs.below hB2).more hB2.size)
  have HB := Lib.hid hB2
  have HP3 := Lib.hid p3
  have HIR := Lib.hid (fun A3 n3 c3 ys3 W h => inRange_any b1 ((x.natAbs : Int) + (y.natAbs : Int)) A3 n3 c3 ys3 W h (x + y) hsg)
  obtain ⟨Z, hZ⟩ : ∃ Z, Z = fitI (x + y) := ⟨_, rfl⟩
  obtain ⟨er, her⟩ : ∃ er, er = fitE (x + y) := ⟨_, rfl⟩
  rw [← hZ, ← her] at HIR ⊢
  have g0 := p1.c0
  have g1 := p1.c1
  have g2 := p2.c0
  have g3 := p2.c1
  clear hW2 hr hs hb1 hb2 hsame hB2 hS2 p1 p2 p3 hsg bx by_ hZ her
  go_enter Tryd.func27, Tryd.ntmps27
  go_wp2_with fail
  rw [← HW.out]
  clear HW
  go_region_held3 (fun w' => w'.cell? ⟨w.heap.size, 0, none⟩ = some (.bool b1) ∧ w'.cell? ⟨w.heap.size, 1, none⟩ = some (.slice A n c) ∧ w'.cell? ⟨w.heap.size + 1, 0, none⟩ = some (.bool b1) ∧ w'.cell? ⟨w.heap.size + 1, 1, none⟩ = some (.slice E m f))
    (exact ⟨by first | assumption | (simp only [World.cell?_drew]; assumption) | exact cell_set2 (by assumption) (by omega), by first | assumption | (simp only [World.cell?_drew]; assumption) | exact cell_set2 (by assumption) (by omega), by first | assumption | (simp only [World.cell?_drew]; assumption) | exact cell_set2 (by assumption) (by omega), by first | assumption | (simp only [World.cell?_drew]; assumption) | exact cell_set2 (by assumption) (by omega)⟩)
    (first
      | (go_at_call 57
         refine (nadd_any _ _ A E n c m f _ _ _ (by exact HR2.out) (by exact HS2.out) (by omega) (by omega)).mono ?_
         rintro e w3 h3
         obtain ⟨A3, n3, c3, ys3, rfl, r3, b3'⟩ := h3
         have b3' : Below W2.heap.size W2 w3 := by first | exact b3' | exact below_undrew b3'
         have HR3 := Lib.hid r3
         have HP3' := Lib.hid (HP3.out.below b3')
         have HB3 := Lib.hid (HB.out.trans (b3'.mono HB.out.size))
         have k0 := cell_below g0 b3'
         have k1 := cell_below g1 b3'
         have k2 := cell_below g2 b3'
         have k3 := cell_below g3 b3'
         clear b3' r3)
      | (go_at_call 49
         refine (HIR.out A3 n3 c3 ys3 _ (by exact HR3.out)).mono ?_
         rintro e w4 h4
         obtain ⟨v4, rfl, r4, b4⟩ := h4
         obtain ⟨d4, A4, n4, q4, rfl⟩ := r4.shape
         have b4 : Below w3.heap.size w3 w4 := by first | exact b4 | exact below_undrew b4
         have hk4 := HP3'.out.below b4
         have hb4 := HB3.out.trans (b4.mono HB3.out.size)
         have j0 := cell_below k0 b4
         have j1 := cell_below k1 b4
         have j2 := cell_below k2 b4
         have j3 := cell_below k3 b4
         have c0 := hk4.c0
         have c1 := hk4.c1
         have f0 := hk4.f0
         have f1 := hk4.f1
         have HF := Lib.hid (repI_ret r4 hk4 hb4 (by omega))
         clear hk4 hb4 r4 b4))
  go_wp2_with fail
  exact bodyPost_ret (v := .tuple #[.agg #[.bool d4, .slice A4 n4 q4], .int .i64 er]) (by simp [results, Tryd.results27, go_sem, c0, c1]) rfl ⟨_, rfl, HF.out.1, HF.out.2⟩
theorem swapped (w W : World) (q : Nat) (a0 a1 b0 b1 r0 r1 : Value) (hB : Below w.heap.size w W) (p1 : Blk2 W w.heap.size 34 a0 a1) (p2 : Blk2 W (w.heap.size + 1) 34 b0 b1) (p3 : Blk2 W (w.heap.size + 1 + 1) 34 r0 r1) :
    ∃ W4, W4 = ((((W.drewN q).setCell ⟨w.heap.size, 0, none⟩ b0).setCell ⟨w.heap.size, 1, none⟩ b1).setCell ⟨w.heap.size + 1, 0, none⟩ a0).setCell ⟨w.heap.size + 1, 1, none⟩ a1 ∧ Below w.heap.size w W4 ∧
    Blk2 W4 w.heap.size 34 b0 b1 ∧ Blk2 W4 (w.heap.size + 1) 34 a0 a1 ∧ Blk2 W4 (w.heap.size + 1 + 1) 34 r0 r1 := by
  have h1 : Blk2 (W.drewN q) w.heap.size 34 a0 a1 := p1
  have h2 : Blk2 (W.drewN q) (w.heap.size + 1) 34 b0 b1 := p2
  have h3 : Blk2 (W.drewN q) (w.heap.size + 1 + 1) 34 r0 r1 := p3
  refine ⟨_, rfl, ((((below_drewN hB q).setCell (p := ⟨w.heap.size, 0, none⟩) (Nat.le_refl _) _).setCell (p := ⟨w.heap.size, 1, none⟩) (Nat.le_refl _) _).setCell (p := ⟨w.heap.size + 1, 0, none⟩) (by show w.heap.size ≤ w.heap.size + 1; omega) _).setCell (p := ⟨w.heap.size + 1, 1, none⟩) (by show w.heap.size ≤ w.heap.size + 1; omega) _, ?_, ?_, ?_⟩
  · exact (set2_heap _ (w.heap.size + 1) a0 a1 w.heap.size (by omega)).trans ((h1.set0 b0).set1 b1)
  · exact (Blk2.set0 (show Blk2 _ (w.heap.size + 1) 34 b0 b1 from (set2_heap _ w.heap.size b0 b1 (w.heap.size + 1) (by omega)).trans h2) a0).set1 a1
  · exact (set2_heap _ (w.heap.size + 1) a0 a1 (w.heap.size + 1 + 1) (by omega)).trans ((set2_heap _ w.heap.size b0 b1 (w.heap.size + 1 + 1) (by omega)).trans h3)
set_option maxRecDepth 100000 in
set_option maxHeartbeats 1000000 in
theorem iadd_diff (x y : Int) (u v : Value) (w : World) (hx : RepI w w.heap.size x u) (hy : RepI w w.heap.size y v) (bx : (x.natAbs : Int) < lim) (by_ : (y.natAbs : Int) < lim) (hne : decide (x < 0) ≠ decide (y < 0)) :
    Calls Tryd.prog 27 #[u, v] w (NewE (x + y) 0 w) := by
  obtain ⟨A, n, c, zs, rfl, hr⟩ := hx
  obtain ⟨E, m, f, ys, rfl, hs⟩ := hy
  have hn := hr.fit.2 bx
  have hm := hs.fit.2 by_
  have hsg1 := sgn_sub x y hne
  have hsg2 := sgn_sub y x (Ne.symm hne)
  rw [Int.add_comm] at hsg2
  obtain ⟨b1, hb1⟩ : ∃ b, b = decide (x < 0) := ⟨_, rfl⟩
  obtain ⟨b2, hb2⟩ : ∃ b, b = decide (y < 0) := ⟨_, rfl⟩
  rw [← hb1] at hsg1
  rw [← hb2] at hsg2
  rw [← hb1, ← hb2] at hne ⊢
  have hbe : (b1 == b2) = false := beq_eq_false_iff_ne.2 hne
  obtain ⟨W2, hW2, hB2, hS2, _, _, _⟩ := boxes3 w 34 (.bool b1) (.slice A n c) (.bool b2) (.slice E m f) (.bool false) (.slice none 0 0)
  have hc := ncompare_any _ _ A E n c m f zs ys W2 ((hr.below hB2).more hB2.size) ((hs.below hB2).more hB2.size) (by omega) (by omega)
  rw [hW2] at hc
  obtain ⟨Z, hZ⟩ : ∃ Z, Z = x + y := ⟨_, rfl⟩
  rw [← hZ] at hsg1 hsg2 ⊢
  have HSG1 := Lib.hid hsg1
  have HSG2 := Lib.hid hsg2
  have HR := Lib.hid hr
  have HS := Lib.hid hs
  rcases Int.lt_or_le (x.natAbs : Int) (y.natAbs : Int) with hlt | hle
  · rw [cmpI'_lt hlt] at hc
    have HC := Lib.hid hc
    have HLE := Lib.hid (show (x.natAbs : Int) ≤ (y.natAbs : Int) by omega)
    clear hc hW2 hr hs hb1 hb2 hB2 hS2 hsg1 hsg2 bx by_ hZ hlt
    go_enter Tryd.func27, Tryd.ntmps27
    go_wp2_with fail
    refine HC.out.mono ?_
    rintro e w1 ⟨rfl, q, rfl⟩
    obtain ⟨W3, hW3, hB3, _, p1, p2, p3⟩ := boxes3 w 34 (.bool b1) (.slice A n c) (.bool b2) (.slice E m f) (.bool false) (.slice none 0 0)
    obtain ⟨W4, hW4, hB4, q1, q2, q3⟩ := swapped w W3 q (.bool b1) (.slice A n c) (.bool b2) (.slice E m f) (.bool false) (.slice none 0 0) hB3 p1 p2 p3
    have g0 : W4.cell? ⟨w.heap.size, 0, none⟩ = some (.bool b2) := q1.c0
    have g1 : W4.cell? ⟨w.heap.size, 1, none⟩ = some (.slice E m f) := q1.c1
    have g3 : W4.cell? ⟨w.heap.size + 1, 1, none⟩ = some (.slice A n c) := q2.c1
    have HP3 := Lib.hid q3
    have HB := Lib.hid hB4
    have HX2 := Lib.hid ((HS.out.below hB4).more hB4.size)
    have HY2 := Lib.hid ((HR.out.below hB4).more hB4.size)
    rw [hW3] at hW4
    have HW := Lib.hid hW4
    clear hW3 hW4 hB3 hB4 p1 p2 p3 q1 q2 q3 HR HS
    go_upto_region 5 with (fail)
    rw [← HW.out]
    clear HW
    go_region_held3 (fun w' => w'.cell? ⟨w.heap.size, 0, none⟩ = some (.bool b2) ∧ w'.cell? ⟨w.heap.size, 1, none⟩ = some (.slice E m f) ∧ w'.cell? ⟨w.heap.size + 1, 1, none⟩ = some (.slice A n c))
      (exact ⟨by first | assumption | (simp only [World.cell?_drew]; assumption) | exact cell_set2 (by assumption) (by omega), by first | assumption | (simp only [World.cell?_drew]; assumption) | exact cell_set2 (by assumption) (by omega), by first | assumption | (simp only [World.cell?_drew]; assumption) | exact cell_set2 (by assumption) (by omega)⟩)
      (first
        | (go_at_call 59
           refine (nsub_any _ _ E A m f n c _ _ _ (by exact HX2.out) (by exact HY2.out) (by omega) (by omega) HLE.out).mono ?_
           rintro e w3 h3
           obtain ⟨A3, n3, c3, ys3, rfl, r3, b3⟩ := h3
           have b3 : Below W4.heap.size W4 w3 := by first | exact b3 | exact below_undrew b3
           have HR3 := Lib.hid r3
           have HP3' := Lib.hid (HP3.out.below b3)
           have HB3 := Lib.hid (HB.out.trans (b3.mono HB.out.size))
           have k0 := cell_below g0 b3
           have k1 := cell_below g1 b3
           have k3 := cell_below g3 b3
           clear b3 r3)
        | (go_at_call 54
           refine (signed_any b2 _ A3 n3 c3 ys3 _ (by exact HR3.out)).mono ?_
           rintro e w4 h4
           obtain ⟨v4, rfl, r4, b4⟩ := h4
           obtain ⟨d4, A4, n4, q4, rfl⟩ := r4.shape
           have b4 : Below w3.heap.size w3 w4 := by first | exact b4 | exact below_undrew b4
           have hk4 := HP3'.out.below b4
           have hb4 := HB3.out.trans (b4.mono HB3.out.size)
           have j0 := cell_below k0 b4
           have j1 := cell_below k1 b4
           have j3 := cell_below k3 b4
           have c0 := hk4.c0
           have c1 := hk4.c1
           have f0 := hk4.f0
           have f1 := hk4.f1
           have HF := Lib.hid (repI_ret r4 hk4 hb4 (by omega))
           clear hk4 hb4 r4 b4))
    go_wp2_with fail
    exact bodyPost_ret (v := .tuple #[.agg #[.bool d4, .slice A4 n4 q4], .int .i64 0]) (by simp [results, Tryd.results27, go_sem, c0, c1]) rfl ⟨_, rfl, by have h := HF.out.1; rw [HSG2.out] at h; exact h, HF.out.2⟩
  · obtain ⟨R, hR⟩ : ∃ R, R = cmpI' (x.natAbs : Int) (y.natAbs : Int) := ⟨_, rfl⟩
    have hR0 : ¬ R < 0 := by rw [hR, cmpI', if_neg (by omega)]; split <;> omega
    rw [← hR] at hc
    have HC := Lib.hid hc
    have HLE := Lib.hid hle
    clear hc hW2 hr hs hb1 hb2 hB2 hS2 hsg1 hsg2 bx by_ hZ hle hR
    go_enter Tryd.func27, Tryd.ntmps27
    go_wp2_with fail
    refine HC.out.mono ?_
    rintro e w1 ⟨rfl, q, rfl⟩
    obtain ⟨W3, hW3, hB3, _, p1, p2, p3⟩ := boxes3 w 34 (.bool b1) (.slice A n c) (.bool b2) (.slice E m f) (.bool false) (.slice none 0 0)
    obtain ⟨W4, hW4⟩ : ∃ W4, W4 = W3.drewN q := ⟨_, rfl⟩
    have hB4 : Below w.heap.size w W4 := by rw [hW4]; exact below_drewN hB3 q
    have g0 : W4.cell? ⟨w.heap.size, 0, none⟩ = some (.bool b1) := by rw [hW4]; exact p1.c0
    have g1 : W4.cell? ⟨w.heap.size, 1, none⟩ = some (.slice A n c) := by rw [hW4]; exact p1.c1
    have g3 : W4.cell? ⟨w.heap.size + 1, 1, none⟩ = some (.slice E m f) := by rw [hW4]; exact p2.c1
    have HP3 := Lib.hid (show Blk2 W4 (w.heap.size + 1 + 1) 34 (.bool false) (.slice none 0 0) from by rw [hW4]; exact p3)
    have HB := Lib.hid hB4
    have HX2 := Lib.hid ((HR.out.below hB4).more hB4.size)
    have HY2 := Lib.hid ((HS.out.below hB4).more hB4.size)
    rw [hW3] at hW4
    have HW := Lib.hid hW4
    clear hW3 hW4 hB3 hB4 p1 p2 p3 HR HS
    go_upto_region 5 with (fail)
    rw [← HW.out]
    clear HW
    go_region_held3 (fun w' => w'.cell? ⟨w.heap.size, 0, none⟩ = some (.bool b1) ∧ w'.cell? ⟨w.heap.size, 1, none⟩ = some (.slice A n c) ∧ w'.cell? ⟨w.heap.size + 1, 1, none⟩ = some (.slice E m f))
      (exact ⟨by first | assumption | (simp only [World.cell?_drew]; assumption) | exact cell_set2 (by assumption) (by omega), by first | assumption | (simp only [World.cell?_drew]; assumption) | exact cell_set2 (by assumption) (by omega), by first | assumption | (simp only [World.cell?_drew]; assumption) | exact cell_set2 (by assumption) (by omega)⟩)
      (first
        | (go_at_call 59
           refine (nsub_any _ _ A E n c m f _ _ _ (by exact HX2.out) (by exact HY2.out) (by omega) (by omega) HLE.out).mono ?_
           rintro e w3 h3
           obtain ⟨A3, n3, c3, ys3, rfl, r3, b3⟩ := h3
           have b3 : Below W4.heap.size W4 w3 := by first | exact b3 | exact below_undrew b3
           have HR3 := Lib.hid r3
           have HP3' := Lib.hid (HP3.out.below b3)
           have HB3 := Lib.hid (HB.out.trans (b3.mono HB.out.size))
           have k0 := cell_below g0 b3
           have k1 := cell_below g1 b3
           have k3 := cell_below g3 b3
           clear b3 r3)
        | (go_at_call 54
           refine (signed_any b1 _ A3 n3 c3 ys3 _ (by exact HR3.out)).mono ?_
           rintro e w4 h4
           obtain ⟨v4, rfl, r4, b4⟩ := h4
           obtain ⟨d4, A4, n4, q4, rfl⟩ := r4.shape
           have b4 : Below w3.heap.size w3 w4 := by first | exact b4 | exact below_undrew b4
           have hk4 := HP3'.out.below b4
           have hb4 := HB3.out.trans (b4.mono HB3.out.size)
           have j0 := cell_below k0 b4
           have j1 := cell_below k1 b4
           have j3 := cell_below k3 b4
           have c0 := hk4.c0
           have c1 := hk4.c1
           have f0 := hk4.f0
           have f1 := hk4.f1
           have HF := Lib.hid (repI_ret r4 hk4 hb4 (by omega))
           clear hk4 hb4 r4 b4))
    go_wp2_with fail
    exact bodyPost_ret (v := .tuple #[.agg #[.bool d4, .slice A4 n4 q4], .int .i64 0]) (by simp [results, Tryd.results27, go_sem, c0, c1]) rfl ⟨_, rfl, by have h := HF.out.1; rw [HSG1.out] at h; exact h, HF.out.2⟩
theorem add_fit {x y : Int} (bx : (x.natAbs : Int) < lim) (by_ : (y.natAbs : Int) < lim) (h : decide (x < 0) ≠ decide (y < 0)) : ((x + y).natAbs : Int) < lim := by
  by_cases h1 : x < 0
  · have h2 : ¬ y < 0 := fun h2 => h (by rw [decide_eq_true h1, decide_eq_true h2])
    omega
  · have h2 : y < 0 := by
      rcases Int.lt_or_le y 0 with h3 | h3
      · exact h3
      · exact absurd (by rw [decide_eq_false h1, decide_eq_false (show ¬ y < 0 by omega)]) h
    omega
theorem iadd_any (x y : Int) (u v : Value) (w : World) (hx : RepI w w.heap.size x u) (hy : RepI w w.heap.size y v) (bx : (x.natAbs : Int) < lim) (by_ : (y.natAbs : Int) < lim) :
    Calls Tryd.prog 27 #[u, v] w (NewE (fitI (x + y)) (fitE (x + y)) w) := by
  by_cases h : decide (x < 0) = decide (y < 0)
  · exact iadd_same x y u v w hx hy bx by_ h
  · have hf := add_fit bx by_ h
    rw [show fitI (x + y) = x + y from if_pos hf, show fitE (x + y) = 0 from if_pos hf]
    exact iadd_diff x y u v w hx hy bx by_ h
end Go.Proofs.YtpilpceclmppgaaDoor
namespace Go.Proofs.YtpilpceclmppgaaDoor
open Go.RowKit
set_option linter.unusedVariables false

set_option maxRecDepth 100000 in
set_option maxHeartbeats 1000000 in
theorem isub_any (x y : Int) (u v : Value) (w : World) (hx : RepI w w.heap.size x u) (hy : RepI w w.heap.size y v) (bx : (x.natAbs : Int) < lim) (by_ : (y.natAbs : Int) < lim) :
    Calls Tryd.prog 28 #[u, v] w (NewE (fitI (x - y)) (fitE (x - y)) w) := by
  obtain ⟨b1, A, n, c, rfl⟩ := hx.shape
  obtain ⟨b2, E, m, f, rfl⟩ := hy.shape
  obtain ⟨W2, hW2, hB2, hS2, p1, p2, p3⟩ := boxes3 w 34 (.bool b1) (.slice A n c) (.bool b2) (.slice E m f) (.bool false) (.slice none 0 0)
  have HW := Lib.hid hW2
  have HX := Lib.hid ((hx.below hB2).more hB2.size)
  have HY := Lib.hid ((hy.below hB2).more hB2.size)
  have HB := Lib.hid hB2
  have HP3 := Lib.hid p3
  have HBX := Lib.hid bx
  have HBY := Lib.hid (show (((-y).natAbs : Nat) : Int) < lim by rw [Int.natAbs_neg]; exact by_)
  obtain ⟨N, hN, hyN⟩ := fit_pow by_
  have HYN := Lib.hid hyN
  obtain ⟨Z, hZ⟩ : ∃ Z, Z = fitI (x - y) := ⟨_, rfl⟩
  obtain ⟨er, her⟩ : ∃ er, er = fitE (x - y) := ⟨_, rfl⟩
  have HAD := Lib.hid (fun u v W h1 h2 => iadd_any x (-y) u v W h1 h2 bx HBY.out)
  rw [← Int.sub_eq_add_neg, ← hZ, ← her] at HAD
  rw [← hZ, ← her]
  have g0 := p1.c0
  have g1 := p1.c1
  have g2 := p2.c0
  have g3 := p2.c1
  clear hW2 hx hy bx by_ hB2 hS2 p1 p2 p3 hyN hZ her
  go_enter Tryd.func28, Tryd.ntmps28
  go_wp2_with fail
  rw [← HW.out]
  clear HW
  go_region_held3 (fun w' => w'.cell? ⟨w.heap.size, 0, none⟩ = some (.bool b1) ∧ w'.cell? ⟨w.heap.size, 1, none⟩ = some (.slice A n c) ∧ w'.cell? ⟨w.heap.size + 1, 0, none⟩ = some (.bool b2) ∧ w'.cell? ⟨w.heap.size + 1, 1, none⟩ = some (.slice E m f))
    (exact ⟨by first | assumption | (simp only [World.cell?_drew]; assumption) | exact cell_set2 (by assumption) (by omega), by first | assumption | (simp only [World.cell?_drew]; assumption) | exact cell_set2 (by assumption) (by omega), by first | assumption | (simp only [World.cell?_drew]; assumption) | exact cell_set2 (by assumption) (by omega), by first | assumption | (simp only [World.cell?_drew]; assumption) | exact cell_set2 (by assumption) (by omega)⟩)
    (first
      | (go_at_call 40
         refine (ineg_any y _ _ (by exact HY.out) N (by omega) HYN.out).mono ?_
         rintro e w3 h3
         obtain ⟨v3, rfl, r3, b3⟩ := h3
         obtain ⟨d3, A3, n3, q3, rfl⟩ := r3.shape
         have b3 : Below W2.heap.size W2 w3 := by first | exact b3 | exact below_undrew b3
         have HX3 := Lib.hid ((HX.out.below b3).more b3.size)
         have HY3 := Lib.hid r3
         have HP33 := Lib.hid (HP3.out.below b3)
         have HB3 := Lib.hid (HB.out.trans (b3.mono HB.out.size))
         have k0 := cell_below g0 b3
         have k1 := cell_below g1 b3
         have k2 := cell_below g2 b3
         have k3 := cell_below g3 b3
         clear b3 r3)
      | (go_at_call 27
         refine (HAD.out _ _ _ (by exact HX3.out) (by exact HY3.out)).mono ?_
         rintro e w4 h4
         obtain ⟨v4, rfl, r4, b4⟩ := h4
         obtain ⟨d4, A4, n4, q4, rfl⟩ := r4.shape
         have b4 : Below w3.heap.size w3 w4 := by first | exact b4 | exact below_undrew b4
         have hk4 := HP33.out.below b4
         have hb4 := HB3.out.trans (b4.mono HB3.out.size)
         have j0 := cell_below k0 b4
         have j1 := cell_below k1 b4
         have j2 := cell_below k2 b4
         have j3 := cell_below k3 b4
         have c0 := hk4.c0
         have c1 := hk4.c1
         have f0 := hk4.f0
         have f1 := hk4.f1
         have HF := Lib.hid (repI_ret r4 hk4 hb4 (by omega))
         clear hk4 hb4 r4 b4))
  go_wp2_with fail
  exact bodyPost_ret (v := .tuple #[.agg #[.bool d4, .slice A4 n4 q4], .int .i64 er]) (by simp [results, Tryd.results28, go_sem, c0, c1]) rfl ⟨_, rfl, HF.out.1, HF.out.2⟩
end Go.Proofs.YtpilpceclmppgaaDoor
namespace Go.Proofs.YtpilpceclmppgaaDoor
open Go.RowKit
set_option linter.unusedVariables false

/-- both results of a division and its error number -/
def DivE (q r er : Int) (w : World) (e : Ending) (w' : World) : Prop :=
  ∃ u v, e = .returned (.tuple #[u, v, .int .i64 er]) ∧ RepI w' w'.heap.size q u ∧ RepI w' w'.heap.size r v ∧ Below w.heap.size w w'
theorem boxes4 (w : World) (t : TypeId) (a0 a1 b0 b1 r0 r1 s0 s1 : Value) : ∃ W, W = (((w.alloc (.cells #[a0, a1] t)).alloc (.cells #[b0, b1] t)).alloc (.cells #[r0, r1] t)).alloc (.cells #[s0, s1] t) ∧ Below w.heap.size w W ∧
    Blk2 W w.heap.size t a0 a1 ∧ Blk2 W (w.heap.size + 1) t b0 b1 ∧ Blk2 W (w.heap.size + 1 + 1) t r0 r1 ∧ Blk2 W (w.heap.size + 1 + 1 + 1) t s0 s1 := by
  obtain ⟨W, hW, hb, hs, p1, p2, p3⟩ := boxes3 w t a0 a1 b0 b1 r0 r1
  have hn := Blk2.new W t s0 s1
  have hal : Below W.heap.size W (W.alloc (.cells #[s0, s1] t)) := (Below.refl _ _).alloc (Nat.le_refl _) _
  rw [hs] at hn
  exact ⟨W.alloc (.cells #[s0, s1] t), by rw [hW], hb.trans (hal.mono hb.size), p1.below hal, p2.below hal, p3.below hal, hn⟩
theorem div_ret (w W : World) {q r : Int} {d d' b0 b0' : Bool} {A A' A0 A0' : Option Addr} {n n' c c' n0 n0' k0 k0' : Nat} (hq : RepI W W.heap.size q (.agg #[.bool d, .slice A n c])) (hr : RepI W W.heap.size r (.agg #[.bool d', .slice A' n' c']))
    (p4 : Blk2 W (w.heap.size + 1 + 1) 34 (.bool b0) (.slice A0 n0 k0)) (p5 : Blk2 W (w.heap.size + 1 + 1 + 1) 34 (.bool b0') (.slice A0' n0' k0')) (hb : Below w.heap.size w W) (er : Int) :
    DivE q r er w (.returned (.tuple #[.agg #[.bool d, .slice A n c], .agg #[.bool d', .slice A' n' c'], .int .i64 er]))
      ((((W.setCell ⟨w.heap.size + 1 + 1, 0, none⟩ (.bool d)).setCell ⟨w.heap.size + 1 + 1, 1, none⟩ (.slice A n c)).setCell ⟨w.heap.size + 1 + 1 + 1, 0, none⟩ (.bool d')).setCell ⟨w.heap.size + 1 + 1 + 1, 1, none⟩ (.slice A' n' c')) := by
  have p5' : Blk2 ((W.setCell ⟨w.heap.size + 1 + 1, 0, none⟩ (.bool d)).setCell ⟨w.heap.size + 1 + 1, 1, none⟩ (.slice A n c)) (w.heap.size + 1 + 1 + 1) 34 (.bool b0') (.slice A0' n0' k0') := (set2_heap W _ _ _ _ (by omega)).trans p5
  have h1 := (hq.stored (u := .bool d) (u' := .slice A n c) p4).stored (u := .bool d') (u' := .slice A' n' c') p5'
  have h2 := (hr.stored (u := .bool d) (u' := .slice A n c) p4).stored (u := .bool d') (u' := .slice A' n' c') p5'
  refine ⟨_, _, rfl, by simpa [World.setCell] using h1, by simpa [World.setCell] using h2, (((hb.setCell (p := ⟨w.heap.size + 1 + 1, 0, none⟩) ?_ _).setCell (p := ⟨w.heap.size + 1 + 1, 1, none⟩) ?_ _).setCell (p := ⟨w.heap.size + 1 + 1 + 1, 0, none⟩) ?_ _).setCell (p := ⟨w.heap.size + 1 + 1 + 1, 1, none⟩) ?_ _⟩
  · show w.heap.size ≤ w.heap.size + 1 + 1; omega
  · show w.heap.size ≤ w.heap.size + 1 + 1; omega
  · show w.heap.size ≤ w.heap.size + 1 + 1 + 1; omega
  · show w.heap.size ≤ w.heap.size + 1 + 1 + 1; omega
theorem div_of {x y q r : Int} (hy : y ≠ 0) (h : x = (y.natAbs : Int) * q + r) (h0 : 0 ≤ r) (h1 : r < (y.natAbs : Int)) : x / y = sgn (decide (y < 0)) q ∧ x % y = r := by
  have e := (Int.ediv_emod_unique (a := x) (b := (y.natAbs : Int)) (r := r) (q := q) (by omega)).2 ⟨by omega, h0, h1⟩
  by_cases hn : y < 0
  · rw [decide_eq_true hn]
    rw [show (y.natAbs : Int) = -y by omega, Int.ediv_neg, Int.emod_neg] at e
    refine ⟨?_, e.2⟩
    show x / y = -q
    omega
  · rw [decide_eq_false hn]
    rw [show (y.natAbs : Int) = y by omega] at e
    exact e
theorem div_pos_case {x y : Int} (hy : y ≠ 0) (h : ¬ x < 0) : sgn (decide (x < 0) != decide (y < 0)) ((x.natAbs : Int) / (y.natAbs : Int)) = x / y ∧ sgn false ((x.natAbs : Int) % (y.natAbs : Int)) = x % y := by
  have hY : (0 : Int) < (y.natAbs : Int) := by omega
  have e := div_of (x := x) (q := (x.natAbs : Int) / (y.natAbs : Int)) (r := (x.natAbs : Int) % (y.natAbs : Int)) hy (by
    have := Int.mul_ediv_add_emod (x.natAbs : Int) (y.natAbs : Int)
    omega) (Int.emod_nonneg _ (by omega)) (Int.emod_lt_of_pos _ hY)
  rw [e.1, e.2, decide_eq_false h]
  refine ⟨by cases decide (y < 0) <;> rfl, rfl⟩
theorem sgn_flip (b : Bool) (q : Int) : sgn (true != b) q = sgn b (-q) := by
  cases b
  · show -q = -q; rfl
  · show q = - -q; omega
theorem div_zero_case {x y : Int} (hy : y ≠ 0) (h : x < 0) (hr : (x.natAbs : Int) % (y.natAbs : Int) = 0) : sgn (decide (x < 0) != decide (y < 0)) ((x.natAbs : Int) / (y.natAbs : Int)) = x / y ∧ sgn false ((x.natAbs : Int) % (y.natAbs : Int)) = x % y := by
  have hY : (0 : Int) < (y.natAbs : Int) := by omega
  have e := div_of (x := x) (q := -((x.natAbs : Int) / (y.natAbs : Int))) (r := 0) hy (by
    have := Int.mul_ediv_add_emod (x.natAbs : Int) (y.natAbs : Int)
    rw [Int.mul_neg]
    omega) (by omega) hY
  rw [e.1, e.2, decide_eq_true h, sgn_flip, hr]
  exact ⟨rfl, rfl⟩
theorem div_up_case {x y : Int} (hy : y ≠ 0) (h : x < 0) (hr : (x.natAbs : Int) % (y.natAbs : Int) ≠ 0) : sgn (decide (x < 0) != decide (y < 0)) ((x.natAbs : Int) / (y.natAbs : Int) + 1) = x / y ∧ sgn false ((y.natAbs : Int) - (x.natAbs : Int) % (y.natAbs : Int)) = x % y := by
  have hY : (0 : Int) < (y.natAbs : Int) := by omega
  have h1 := Int.emod_nonneg (x.natAbs : Int) (show (y.natAbs : Int) ≠ 0 by omega)
  have h2 := Int.emod_lt_of_pos (x.natAbs : Int) hY
  have e := div_of (x := x) (q := -((x.natAbs : Int) / (y.natAbs : Int) + 1)) (r := (y.natAbs : Int) - (x.natAbs : Int) % (y.natAbs : Int)) hy (by
    have := Int.mul_ediv_add_emod (x.natAbs : Int) (y.natAbs : Int)
    rw [Int.mul_neg, Int.mul_add]
    omega) (by omega) (by omega)
  rw [e.1, e.2, decide_eq_true h, sgn_flip]
  exact ⟨rfl, rfl⟩
set_option maxHeartbeats 1000000 in
theorem idiv_zero (x : Int) (u v : Value) (w : World) (hx : RepI w w.heap.size x u) (hy : RepI w w.heap.size 0 v) :
    Calls Tryd.prog 33 #[u, v] w (DivE 0 0 1 w) := by
  obtain ⟨b1, A, n, c, rfl⟩ := hx.shape
  obtain ⟨E, m, f, ys, rfl, hs⟩ := hy
  obtain rfl := hs.zero.2 rfl
  obtain ⟨W2, hW2, hB2, p1, p2, p3, p4⟩ := boxes4 w 34 (.bool b1) (.slice A n c) (.bool false) (.slice E 0 f) (.bool false) (.slice none 0 0) (.bool false) (.slice none 0 0)
  have HF := Lib.hid (show DivE 0 0 1 w (.returned (.tuple #[.agg #[.bool false, .slice none 0 0], .agg #[.bool false, .slice none 0 0], .int .i64 1])) W2 from ⟨_, _, rfl, RepI.zero _ _, RepI.zero _ _, hB2⟩)
  rw [hW2] at HF
  clear hs hx hW2 hB2 p1 p2 p3 p4
  go_enter Tryd.func33, Tryd.ntmps33
  go_wp2_with fail
  exact bodyPost_ret (v := .tuple #[.agg #[.bool false, .slice none 0 0], .agg #[.bool false, .slice none 0 0], .int .i64 1]) (by simp [results, Tryd.results33, go_sem]) rfl HF.out
set_option maxRecDepth 100000 in
set_option maxHeartbeats 1000000 in
theorem idiv_any (x y : Int) (u v : Value) (w : World) (hx : RepI w w.heap.size x u) (hy : RepI w w.heap.size y v) (bx : (x.natAbs : Int) < lim) (by_ : (y.natAbs : Int) < lim) (hy0 : y ≠ 0) :
    Calls Tryd.prog 33 #[u, v] w (DivE (x / y) (x % y) 0 w) := by
  obtain ⟨A, n, c, zs, rfl, hr⟩ := hx
  obtain ⟨E, m, f, ys, rfl, hs⟩ := hy
  have hn := hr.fit.2 bx
  have hm := hs.fit.2 by_
  have hm0 : ((m : Int) == 0) = false := by
    rw [beq_eq_false_iff_ne]
    intro h
    have := hs.zero.1 (by omega)
    omega
  obtain ⟨b1, hb1⟩ : ∃ b, b = decide (x < 0) := ⟨_, rfl⟩
  obtain ⟨b2, hb2⟩ : ∃ b, b = decide (y < 0) := ⟨_, rfl⟩
  obtain ⟨b3, hb3⟩ : ∃ b, b = (b1 != b2) := ⟨_, rfl⟩
  have hpos := fun h => div_pos_case (x := x) (y := y) hy0 h
  have hzero := fun h => div_zero_case (x := x) (y := y) hy0 h
  have hup := fun h => div_up_case (x := x) (y := y) hy0 h
  rw [← hb1, ← hb2, ← hb3] at hpos hzero hup
  rw [← hb1, ← hb2]
  have hb3' : (!(b1 == b2)) = b3 := hb3.symm
  obtain ⟨W2, hW2, hB2, p1, p2, p3, p4⟩ := boxes4 w 34 (.bool b1) (.slice A n c) (.bool b2) (.slice E m f) (.bool false) (.slice none 0 0) (.bool false) (.slice none 0 0)
  have HDV := Lib.hid (ndiv_any (x.natAbs : Int) (y.natAbs : Int) A E n c m f zs ys W2 ((hr.below hB2).more hB2.size) ((hs.below hB2).more hB2.size) (by omega) (by omega) (by omega))
  have HS2 := Lib.hid ((hs.below hB2).more hB2.size)
  have HW := Lib.hid hW2
  have HB2 := Lib.hid hB2
  have HP2 := Lib.hid (And.intro p3 p4)
  have g0 := p1.c0
  have g1 := p1.c1
  have g2 := p2.c0
  have g3 := p2.c1
  have hrl := Int.emod_lt_of_pos (x.natAbs : Int) (show (0 : Int) < (y.natAbs : Int) by omega)
  obtain ⟨q0, hq0⟩ : ∃ q0, q0 = (x.natAbs : Int) / (y.natAbs : Int) := ⟨_, rfl⟩
  obtain ⟨r0, hr0⟩ : ∃ r0, r0 = (x.natAbs : Int) % (y.natAbs : Int) := ⟨_, rfl⟩
  rw [← hq0, ← hr0] at HDV hpos hzero hup
  rw [← hr0] at hrl
  obtain ⟨Q, hQ⟩ : ∃ Q, Q = x / y := ⟨_, rfl⟩
  obtain ⟨R, hR⟩ : ∃ R, R = x % y := ⟨_, rfl⟩
  rw [← hQ, ← hR] at hpos hzero hup ⊢
  have hxb : b1 = true ↔ x < 0 := by rw [hb1]; exact decide_eq_true_iff
  have hq1 : q0 + 1 < 4294967296 ^ (n + 1) := by
    have h1 := hr.lt
    have h2 : q0 ≤ (x.natAbs : Int) := by rw [hq0]; exact Int.ediv_le_self _ (by omega)
    have h3 := pow_pos' (show (0 : Int) < 4294967296 by omega) n
    rw [Int.pow_succ]
    omega
  have HPZ := Lib.hid (And.intro hpos (And.intro hzero hup))
  clear hr hs hW2 hB2 p1 p2 p3 p4 hb1 hb2 hb3 hq0 hr0 hQ hR hpos hzero hup by_
  go_enter Tryd.func33, Tryd.ntmps33
  go_wp2_with fail
  rw [← HW.out]
  refine HDV.out.mono ?_
  rintro e w1 ⟨A1, n1, c1, zs1, E1, m1, f1, ys1, rfl, hq, hr, hb⟩
  have k0 := cell_below g0 hb
  have k1 := cell_below g1 hb
  have k2 := cell_below g2 hb
  have k3 := cell_below g3 hb
  have HP1 := Lib.hid (And.intro (HP2.out.1.below hb) (HP2.out.2.below hb))
  have HS1 := Lib.hid ((HS2.out.below hb).more hb.size)
  have HB1 := Lib.hid (HB2.out.trans (hb.mono HB2.out.size))
  have hrz := hr.zero
  have HQ := Lib.hid hq
  have HR := Lib.hid hr
  clear hq hr hb HW HDV HS2 HB2 HP2 g0 g1 g2 g3
  rcases Bool.eq_false_or_eq_true b1 with rfl | rfl
  · obtain rfl : b3 = !b2 := by rw [← hb3']; cases b2 <;> rfl
    clear hb3'
    by_cases hm1 : (0 : Int) < (m1 : Int)
    · have hup := HPZ.out.2.2 (hxb.1 rfl) (by omega)
      have HSQ := Lib.hid hup.1
      have HSR := Lib.hid hup.2
      have hn1 := HQ.out.len_le (N := n + 1) (by omega)
      have hm1' := HR.out.len_le (N := m) (by have := HS1.out.lt; omega)
      have hle : r0 ≤ (y.natAbs : Int) := by omega
      clear hup HPZ hxb hq1 bx
      go_wp2_with fail
      refine (fromWord_any 1 w1 (by omega) (by omega)).mono ?_
      rintro e w2 ⟨A2, n2, c2, zs2, rfl, h2, hb2⟩
      have hn2 := h2.len_le (N := 1) (by decide)
      have HA := Lib.hid (nadd_any q0 1 A1 A2 n1 c1 n2 c2 zs1 zs2 w2 ((HQ.out.below hb2).more hb2.size) h2 (by omega) (by omega))
      have l0 := cell_below k0 hb2
      have l1 := cell_below k1 hb2
      have l2 := cell_below k2 hb2
      have l3 := cell_below k3 hb2
      have HP2 := Lib.hid (And.intro (HP1.out.1.below hb2) (HP1.out.2.below hb2))
      have HS2 := Lib.hid ((HS1.out.below hb2).more hb2.size)
      have HR2 := Lib.hid ((HR.out.below hb2).more hb2.size)
      have HB2 := Lib.hid (HB1.out.trans (hb2.mono HB1.out.size))
      clear h2 hb2 HQ HR HP1 HS1 HB1 k0 k1 k2 k3
      go_wp2_with fail
      refine HA.out.mono ?_
      rintro e w3 ⟨A3, n3, c3, zs3, rfl, h3, hb3⟩
      have HSU := Lib.hid (nsub_any (y.natAbs : Int) r0 E E1 m f m1 f1 ys ys1 w3 ((HS2.out.below hb3).more hb3.size) ((HR2.out.below hb3).more hb3.size) (by omega) (by omega) hle)
      have o0 := cell_below l0 hb3
      have o1 := cell_below l1 hb3
      have o2 := cell_below l2 hb3
      have o3 := cell_below l3 hb3
      have HP3 := Lib.hid (And.intro (HP2.out.1.below hb3) (HP2.out.2.below hb3))
      have HB3 := Lib.hid (HB2.out.trans (hb3.mono HB2.out.size))
      have HQ3 := Lib.hid h3
      clear h3 hb3 HR2 HP2 HS2 HB2 l0 l1 l2 l3 HA
      go_wp2_with fail
      refine HSU.out.mono ?_
      rintro e w4 ⟨A4, n4, c4, zs4, rfl, h4, hb4⟩
      have s0 := cell_below o0 hb4
      have s1 := cell_below o1 hb4
      have s2 := cell_below o2 hb4
      have s3 := cell_below o3 hb4
      have HP := Lib.hid (And.intro (HP3.out.1.below hb4) (HP3.out.2.below hb4))
      have HB := Lib.hid (HB3.out.trans (hb4.mono HB3.out.size))
      have HQ := Lib.hid ((HQ3.out.below hb4).more hb4.size)
      have HR := Lib.hid h4
      clear h4 hb4 HQ3 HP3 HB3 HSU o0 o1 o2 o3
      go_wp2_with fail
      refine (signed_any (!b2) _ A3 n3 c3 zs3 _ (by exact HQ.out)).mono ?_
      rintro e w5 ⟨v5, rfl, r5, b5⟩
      obtain ⟨d5, A5, n5, q5, rfl⟩ := r5.shape
      have HR5 := Lib.hid ((HR.out.below b5).more b5.size)
      have HV5 := Lib.hid r5
      have HP45 := Lib.hid (And.intro (HP.out.1.below b5) (HP.out.2.below b5))
      have HB5 := Lib.hid (HB.out.trans (b5.mono HB.out.size))
      clear r5 b5 HQ HR HP HB
      go_wp2_with fail
      refine (signed_any false _ A4 n4 c4 zs4 _ (by exact HR5.out)).mono ?_
      rintro e w6 ⟨v6, rfl, r6, b6⟩
      obtain ⟨d6, A6, n6, q6, rfl⟩ := r6.shape
      have hk4 := HP45.out.1.below b6
      have hk5 := HP45.out.2.below b6
      have f40 := hk4.f0
      have f41 := hk4.f1
      have f50 := hk5.f0
      have f51 := hk5.f1
      have c40 := hk4.c0
      have c41 := hk4.c1
      have c50 := hk5.c0
      have c51 := hk5.c1
      have HF := Lib.hid (div_ret w w6 ((HV5.out.below b6).more b6.size) r6 hk4 hk5 (HB5.out.trans (b6.mono HB5.out.size)) 0)
      rw [HSQ.out, HSR.out] at HF
      clear r6 b6 hk4 hk5 HR5 HV5 HP45 HB5
      go_wp2_with fail
      exact bodyPost_ret (v := .tuple #[.agg #[.bool d5, .slice A5 n5 q5], .agg #[.bool d6, .slice A6 n6 q6], .int .i64 0]) (by simp [results, Tryd.results33, go_sem, c40, c41, c50, c51]) rfl HF.out
    · have hr0 : r0 = 0 := hrz.1 (by omega)
      obtain ⟨h1, h2⟩ := HPZ.out.2.1 (hxb.1 rfl) hr0
      have HSQ := Lib.hid h1
      have HSR := Lib.hid h2
      have HP := HP1
      have HB := HB1
      clear h1 h2 HPZ hxb hq1 bx HP1 HB1 HS1
      go_wp2_with fail
      refine (signed_any (!b2) _ A1 n1 c1 zs1 _ (by exact HQ.out)).mono ?_
      rintro e w5 ⟨v5, rfl, r5, b5⟩
      obtain ⟨d5, A5, n5, q5, rfl⟩ := r5.shape
      have HR5 := Lib.hid ((HR.out.below b5).more b5.size)
      have HV5 := Lib.hid r5
      have HP45 := Lib.hid (And.intro (HP.out.1.below b5) (HP.out.2.below b5))
      have HB5 := Lib.hid (HB.out.trans (b5.mono HB.out.size))
      clear r5 b5 HQ HR HP HB
      go_wp2_with fail
      refine (signed_any false _ E1 m1 f1 ys1 _ (by exact HR5.out)).mono ?_
      rintro e w6 ⟨v6, rfl, r6, b6⟩
      obtain ⟨d6, A6, n6, q6, rfl⟩ := r6.shape
      have hk4 := HP45.out.1.below b6
      have hk5 := HP45.out.2.below b6
      have f40 := hk4.f0
      have f41 := hk4.f1
      have f50 := hk5.f0
      have f51 := hk5.f1
      have c40 := hk4.c0
      have c41 := hk4.c1
      have c50 := hk5.c0
      have c51 := hk5.c1
      have HF := Lib.hid (div_ret w w6 ((HV5.out.below b6).more b6.size) r6 hk4 hk5 (HB5.out.trans (b6.mono HB5.out.size)) 0)
      rw [HSQ.out, HSR.out] at HF
      clear r6 b6 hk4 hk5 HR5 HV5 HP45 HB5
      go_wp2_with fail
      exact bodyPost_ret (v := .tuple #[.agg #[.bool d5, .slice A5 n5 q5], .agg #[.bool d6, .slice A6 n6 q6], .int .i64 0]) (by simp [results, Tryd.results33, go_sem, c40, c41, c50, c51]) rfl HF.out
  · obtain rfl : b3 = b2 := by rw [← hb3']; cases b2 <;> rfl
    clear hb3'
    obtain ⟨h1, h2⟩ := HPZ.out.1 (by first | exact hxb | (rcases Int.lt_or_le x 0 with h | h; exact absurd (hxb.2 h) (by decide); exact h))
    have HSQ := Lib.hid h1
    have HSR := Lib.hid h2
    have HP := HP1
    have HB := HB1
    clear h1 h2 HPZ hxb hq1 bx HP1 HB1 HS1
    go_wp2_with fail
    refine (signed_any b3 _ A1 n1 c1 zs1 _ (by exact HQ.out)).mono ?_
    rintro e w5 ⟨v5, rfl, r5, b5⟩
    obtain ⟨d5, A5, n5, q5, rfl⟩ := r5.shape
    have HR5 := Lib.hid ((HR.out.below b5).more b5.size)
    have HV5 := Lib.hid r5
    have HP45 := Lib.hid (And.intro (HP.out.1.below b5) (HP.out.2.below b5))
    have HB5 := Lib.hid (HB.out.trans (b5.mono HB.out.size))
    clear r5 b5 HQ HR HP HB
    go_wp2_with fail
    refine (signed_any false _ E1 m1 f1 ys1 _ (by exact HR5.out)).mono ?_
    rintro e w6 ⟨v6, rfl, r6, b6⟩
    obtain ⟨d6, A6, n6, q6, rfl⟩ := r6.shape
    have hk4 := HP45.out.1.below b6
    have hk5 := HP45.out.2.below b6
    have f40 := hk4.f0
    have f41 := hk4.f1
    have f50 := hk5.f0
    have f51 := hk5.f1
    have c40 := hk4.c0
    have c41 := hk4.c1
    have c50 := hk5.c0
    have c51 := hk5.c1
    have HF := Lib.hid (div_ret w w6 ((HV5.out.below b6).more b6.size) r6 hk4 hk5 (HB5.out.trans (b6.mono HB5.out.size)) 0)
    rw [HSQ.out, HSR.out] at HF
    clear r6 b6 hk4 hk5 HR5 HV5 HP45 HB5
    go_wp2_with fail
    exact bodyPost_ret (v := .tuple #[.agg #[.bool d5, .slice A5 n5 q5], .agg #[.bool d6, .slice A6 n6 q6], .int .i64 0]) (by simp [results, Tryd.results33, go_sem, c40, c41, c50, c51]) rfl HF.out
end Go.Proofs.YtpilpceclmppgaaDoor
