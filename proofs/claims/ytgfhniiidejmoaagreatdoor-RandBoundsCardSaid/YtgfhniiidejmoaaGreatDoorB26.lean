/- Contracts of package wide's numbers: gcd. · Contracts of package wide's integers: signed, inRange, From, Neg, Gcd. · Contracts of package wide's integers: Compare, Sign, Gcd, Small. · Contracts of package wide's integers: Small. · Contracts of package wide's integers: Mul. -/
import Derived.Test.YtgfhniiidejmoaaGreatDoorB25
import Derived.Deep.DeepCutAuto
import Derived.BigQuiet
import Derived.Test.YtgfhniiidejmoaaGreatDoorB15
import Derived.Test.YtgfhniiidejmoaaGreatDoorB18
import Derived.Deep.RegionHeld3
import Derived.Deep.DeepMust
import Derived.Test.YtgfhniiidejmoaaGreatDoorB14
namespace Go.Proofs.YtgfhniiidejmoaaGreatDoor
open Go.RowKit
set_option linter.unusedVariables false

theorem NatR.nonneg {w : World} {B n c : Nat} {x : Int} {A : Option Addr} {zs : List Int} (h : NatR w B x A n c zs) : 0 ≤ x := by
  rw [← h.2.2.2.2.2.2]; exact dv_nonneg (by omega) h.2.2.2.2.1
theorem NatR.len_le {w : World} {B n c N : Nat} {x : Int} {A : Option Addr} {zs : List Int} (h : NatR w B x A n c zs) (hx : x < 4294967296 ^ N) : n ≤ N := by
  have e := can_digs (show (1 : Int) < 4294967296 by omega) h.2.2.2.2.1 h.2.2.2.2.2.1
  have h1 := digs_len (show (1 : Int) < 4294967296 by omega) h.nonneg hx
  rw [h.2.2.2.2.2.2] at e
  rw [← e, h.1.len] at h1
  exact h1
theorem NatR.lt {w : World} {B n c : Nat} {x : Int} {A : Option Addr} {zs : List Int} (h : NatR w B x A n c zs) : x < 4294967296 ^ n := by
  have h1 := dv_lt (show (0 : Int) < 4294967296 by omega) h.2.2.2.2.1
  rwa [h.2.2.2.2.2.2, h.1.len] at h1
theorem NatR.zero {w : World} {B n c : Nat} {x : Int} {A : Option Addr} {zs : List Int} (h : NatR w B x A n c zs) : n = 0 ↔ x = 0 := by
  constructor
  · rintro rfl
    have e1 : zs = [] := List.length_eq_zero_iff.1 h.1.len
    have e2 := h.2.2.2.2.2.2
    rw [e1] at e2
    exact e2.symm
  · intro h0
    have := h.len_le (N := 0) (by rw [h0]; decide)
    omega
theorem NatR.word {w : World} {B n c : Nat} {x : Int} {A : Option Addr} {zs : List Int} (h : NatR w B x A n c zs) (hn : n ≤ 2) : zs[0]?.getD 0 + 4294967296 * zs[1]?.getD 0 = x := by
  have hl := h.1.len
  rw [← h.2.2.2.2.2.2]
  match zs, hl with
  | [], _ => rfl
  | [a], _ => show a + 4294967296 * 0 = a + 4294967296 * 0; rfl
  | [a, b], _ => show a + 4294967296 * b = a + 4294967296 * (b + 4294967296 * 0); omega
  | a :: b :: c :: t, hl => simp at hl; omega
end Go.Proofs.YtgfhniiidejmoaaGreatDoor
namespace Go.Proofs.YtgfhniiidejmoaaGreatDoor
open Go.RowKit
set_option linter.unusedVariables false

/-- an integer of package wide -/
def RepI (w : World) (B : Nat) (z : Int) (v : Value) : Prop :=
  ∃ A n c zs, v = .agg #[.bool (decide (z < 0)), .slice A n c] ∧ NatR w B (z.natAbs : Int) A n c zs
theorem RepI.below {w w' : World} {B : Nat} {z : Int} {v : Value} (h : RepI w B z v) (hb : Below B w w') : RepI w' B z v := by
  obtain ⟨A, n, c, zs, h1, h2⟩ := h
  exact ⟨A, n, c, zs, h1, h2.below hb⟩
theorem RepI.more {w : World} {B B' : Nat} {z : Int} {v : Value} (h : RepI w B z v) (hb : B ≤ B') : RepI w B' z v := by
  obtain ⟨A, n, c, zs, h1, h2⟩ := h
  exact ⟨A, n, c, zs, h1, h2.more hb⟩
theorem RepI.zero (w : World) (B : Nat) : RepI w B 0 (.agg #[.bool false, .slice none 0 0]) :=
  ⟨none, 0, 0, [], rfl, Sl.nil _ _ _ _, Nat.le_refl _, Nat.zero_le _, fun _ => rfl, Dig.nil, (fun h => by cases h), rfl⟩
/-- a new integer of package wide -/
def NewI (z : Int) (w : World) (e : Ending) (w' : World) : Prop := ∃ v, e = .returned v ∧ RepI w' w'.heap.size z v ∧ Below w.heap.size w w'
/-- the same with an error number -/
def NewE (z : Int) (er : Int) (w : World) (e : Ending) (w' : World) : Prop := ∃ v, e = .returned (.tuple #[v, .int .i64 er]) ∧ RepI w' w'.heap.size z v ∧ Below w.heap.size w w'
def sgn (neg : Bool) (x : Int) : Int := if neg then -x else x
theorem sgn_abs (neg : Bool) {x : Int} (h : 0 ≤ x) : ((sgn neg x).natAbs : Int) = x := by
  cases neg
  · show ((x.natAbs : Nat) : Int) = x; omega
  · show (((-x).natAbs : Nat) : Int) = x; omega
theorem sgn_neg (neg : Bool) {x : Int} (h : 0 < x) : decide (sgn neg x < 0) = neg := by
  cases neg
  · show decide (x < 0) = false; simp; omega
  · show decide (-x < 0) = true; simp; omega
set_option maxHeartbeats 1000000 in
theorem signed_any (neg : Bool) (x : Int) (A : Option Addr) (n c : Nat) (zs : List Int) (w : World) (h : NatR w w.heap.size x A n c zs) :
    Calls Tryz.prog 48 #[.bool neg, .slice A n c] w (NewI (sgn neg x) w) := by
  have hal : ∀ o : Obj, Below w.heap.size w (w.alloc o) := fun o => (Below.refl _ _).alloc (Nat.le_refl _) o
  rcases Nat.eq_zero_or_pos n with rfl | hn
  · obtain rfl := h.zero.1 rfl
    have HF := Lib.hid (show NewI (sgn neg 0) w (.returned (.agg #[.bool false, .slice none 0 0])) (w.alloc (.cells #[.bool false, .slice none 0 0] 36)) from ⟨_, rfl, by rw [show sgn neg 0 = 0 by cases neg <;> rfl]; exact RepI.zero _ _, hal _⟩)
    clear h hal
    go_enter Tryz.func48, Tryz.ntmps48
    go_wp2_with fail
    exact bodyPost_ret (v := .agg #[.bool false, .slice none 0 0]) (by simp [results, Tryz.results48, go_sem]) rfl HF.out
  · have hx : 0 < x := by
      have := h.nonneg
      have := h.zero
      omega
    have HF := Lib.hid (show NewI (sgn neg x) w (.returned (.agg #[.bool neg, .slice A n c])) (w.alloc (.cells #[.bool neg, .slice A n c] 36)) from ⟨_, rfl, ⟨A, n, c, zs, by rw [sgn_neg neg hx], by rw [sgn_abs neg (Int.le_of_lt hx)]; exact (h.below (hal _)).more (hal _).size⟩, hal _⟩)
    clear h hal
    go_enter Tryz.func48, Tryz.ntmps48
    go_wp2_with fail
    exact bodyPost_ret (v := .agg #[.bool neg, .slice A n c]) (by simp [results, Tryz.results48, go_sem]) rfl HF.out
theorem RepI.shape {w : World} {B : Nat} {z : Int} {v : Value} (h : RepI w B z v) : ∃ d A n c, v = .agg #[.bool d, .slice A n c] := by
  obtain ⟨A, n, c, zs, rfl, _⟩ := h
  exact ⟨_, A, n, c, rfl⟩
theorem RepI.stored {w : World} {B R : Nat} {z : Int} {v u u' : Value} {b0 : Bool} {A0 : Option Addr} {n0 k0 : Nat} {t : TypeId} (h : RepI w B z v) (hk : Blk2 w R t (.bool b0) (.slice A0 n0 k0)) :
    RepI ((w.setCell ⟨R, 0, none⟩ u).setCell ⟨R, 1, none⟩ u') B z v := by
  obtain ⟨A, n, c, zs, h1, h2, h3⟩ := h
  exact ⟨A, n, c, zs, h1, h2.off_blk hk (set2_heap _ _ _ _), h3⟩
theorem repI_ret {w w1 : World} {z : Int} {R : Nat} {t : TypeId} {b0 : Bool} {A0 : Option Addr} {n0 k0 : Nat} {A : Option Addr} {n c : Nat} {d : Bool}
    (h : RepI w1 w1.heap.size z (.agg #[.bool d, .slice A n c])) (hk : Blk2 w1 R t (.bool b0) (.slice A0 n0 k0)) (hb : Below w.heap.size w w1) (hR : w.heap.size ≤ R) :
    RepI ((w1.setCell ⟨R, 0, none⟩ (.bool d)).setCell ⟨R, 1, none⟩ (.slice A n c)) ((w1.setCell ⟨R, 0, none⟩ (.bool d)).setCell ⟨R, 1, none⟩ (.slice A n c)).heap.size z (.agg #[.bool d, .slice A n c]) ∧ Below w.heap.size w ((w1.setCell ⟨R, 0, none⟩ (.bool d)).setCell ⟨R, 1, none⟩ (.slice A n c)) :=
  ⟨by have := h.stored (u := .bool d) (u' := .slice A n c) hk; simpa [World.setCell] using this, (hb.setCell (p := ⟨R, 0, none⟩) hR _).setCell (p := ⟨R, 1, none⟩) hR _⟩
set_option maxHeartbeats 1000000 in
theorem inRange_no (neg : Bool) (A : Option Addr) (n c : Nat) (w : World) (hn : 512 < n) :
    Calls Tryz.prog 25 #[.bool neg, .slice A n c] w (NewE 0 4 w) := by
  have hn' : (512 : Int) < (n : Int) := by omega
  have HF := Lib.hid (show NewE 0 4 w (.returned (.tuple #[.agg #[.bool false, .slice none 0 0], .int .i64 4])) (w.alloc (.cells #[.bool false, .slice none 0 0] 36)) from ⟨_, rfl, RepI.zero _ _, (Below.refl _ _).alloc (Nat.le_refl _) _⟩)
  go_enter Tryz.func25, Tryz.ntmps25
  go_wp2_with fail
  exact bodyPost_ret (v := .tuple #[.agg #[.bool false, .slice none 0 0], .int .i64 4]) (by simp [results, Tryz.results25, go_sem]) rfl HF.out
set_option maxHeartbeats 1000000 in
theorem inRange_ok (neg : Bool) (x : Int) (A : Option Addr) (n c : Nat) (zs : List Int) (w : World) (h : NatR w w.heap.size x A n c zs) (hn : n ≤ 512) :
    Calls Tryz.prog 25 #[.bool neg, .slice A n c] w (NewE (sgn neg x) 0 w) := by
  have hn' : ¬ (512 : Int) < (n : Int) := by omega
  have hal : Below w.heap.size w (w.alloc (.cells #[.bool false, .slice none 0 0] 36)) := (Below.refl _ _).alloc (Nat.le_refl _) _
  have HS := Lib.hid (signed_any neg x A n c zs _ ((h.below hal).more hal.size))
  have HK := Lib.hid (Blk2.new w 36 (.bool false) (.slice none 0 0))
  have HAL := Lib.hid hal
  clear h hal
  go_enter Tryz.func25, Tryz.ntmps25
  go_wp2_with fail
  refine HS.out.mono ?_
  rintro e w1 ⟨v, rfl, hr, hb⟩
  obtain ⟨d1, A1, n1, k1, rfl⟩ := hr.shape
  have hk := HK.out.below hb
  have f0 := hk.f0
  have f1 := hk.f1
  have c0 := hk.c0
  have c1 := hk.c1
  obtain ⟨h1, h2⟩ := repI_ret hr hk (HAL.out.trans (hb.mono HAL.out.size)) (Nat.le_refl _)
  have HF := Lib.hid (show NewE (sgn neg x) 0 w (.returned (.tuple #[.agg #[.bool d1, .slice A1 n1 k1], .int .i64 0])) _ from ⟨_, rfl, h1, h2⟩)
  clear hr hb hk h1 h2
  go_wp2_with fail
  exact bodyPost_ret (v := .tuple #[.agg #[.bool d1, .slice A1 n1 k1], .int .i64 0]) (by simp [results, Tryz.results25, go_sem, c0, c1]) rfl HF.out
theorem newI_ret {w w1 : World} {z : Int} {R : Nat} {t : TypeId} {b0 : Bool} {A0 : Option Addr} {n0 k0 : Nat} {A : Option Addr} {n c : Nat} {d : Bool}
    (h : RepI w1 w1.heap.size z (.agg #[.bool d, .slice A n c])) (hk : Blk2 w1 R t (.bool b0) (.slice A0 n0 k0)) (hb : Below w.heap.size w w1) (hR : w.heap.size ≤ R) :
    NewI z w (.returned (.agg #[.bool d, .slice A n c])) ((w1.setCell ⟨R, 0, none⟩ (.bool d)).setCell ⟨R, 1, none⟩ (.slice A n c)) := ⟨_, rfl, repI_ret h hk hb hR⟩
set_option maxHeartbeats 1000000 in
theorem from_any (k : Int) (w : World) (h0 : -9223372036854775808 ≤ k) (h1 : k ≤ 9223372036854775807) :
    Calls Tryz.prog 40 #[.int .i64 k] w (NewI k w) := by
  have hal : Below w.heap.size w (w.alloc (.cells #[.bool false, .slice none 0 0] 36)) := (Below.refl _ _).alloc (Nat.le_refl _) _
  have HK := Lib.hid (Blk2.new w 36 (.bool false) (.slice none 0 0))
  have HAL := Lib.hid hal
  clear hal
  by_cases hk : k < 0
  · have HW := Lib.hid (fromWord_any (-k) (w.alloc (.cells #[.bool false, .slice none 0 0] 36)) (by omega) (by omega))
    have e1 : IntKind.u64.wrap k = k + 18446744073709551616 := by rw [IntKind.wrap_u64]; omega
    have e2 : IntKind.u64.wrap (-(k + 18446744073709551616)) = -k := by rw [IntKind.wrap_u64]; omega
    go_enter Tryz.func40, Tryz.ntmps40
    go_wp2_with fail
    refine HW.out.mono ?_
    rintro e w1 ⟨A1, n1, c1, zs1, rfl, hr1, hb1⟩
    have HS := Lib.hid (signed_any true (-k) A1 n1 c1 zs1 w1 hr1)
    have HB1 := Lib.hid hb1
    clear hr1 hb1
    go_wp2_with fail
    refine HS.out.mono ?_
    rintro e w2 ⟨v, rfl, hr, hb⟩
    obtain ⟨d1, A2, n2, k2, rfl⟩ := hr.shape
    have hk2 := (HK.out.below HB1.out).below hb
    have f0 := hk2.f0
    have f1 := hk2.f1
    have c0 := hk2.c0
    have c1 := hk2.c1
    have HF := Lib.hid (newI_ret hr hk2 (HAL.out.trans ((HB1.out.trans (hb.mono HB1.out.size)).mono HAL.out.size)) (Nat.le_refl _))
    rw [show sgn true (-k) = k by unfold sgn; simp] at HF
    clear hr hb hk2
    go_wp2_with fail
    exact bodyPost_ret (v := .agg #[.bool d1, .slice A2 n2 k2]) (by simp [results, Tryz.results40, go_sem, c0, c1]) rfl HF.out
  · have HW := Lib.hid (fromWord_any k (w.alloc (.cells #[.bool false, .slice none 0 0] 36)) (by omega) (by omega))
    have e1 : IntKind.u64.wrap k = k := by rw [IntKind.wrap_u64]; omega
    go_enter Tryz.func40, Tryz.ntmps40
    go_wp2_with fail
    refine HW.out.mono ?_
    rintro e w1 ⟨A1, n1, c1, zs1, rfl, hr1, hb1⟩
    have HS := Lib.hid (signed_any false k A1 n1 c1 zs1 w1 hr1)
    have HB1 := Lib.hid hb1
    clear hr1 hb1
    go_wp2_with fail
    refine HS.out.mono ?_
    rintro e w2 ⟨v, rfl, hr, hb⟩
    obtain ⟨d1, A2, n2, k2, rfl⟩ := hr.shape
    have hk2 := (HK.out.below HB1.out).below hb
    have f0 := hk2.f0
    have f1 := hk2.f1
    have c0 := hk2.c0
    have c1 := hk2.c1
    have HF := Lib.hid (newI_ret hr hk2 (HAL.out.trans ((HB1.out.trans (hb.mono HB1.out.size)).mono HAL.out.size)) (Nat.le_refl _))
    rw [show sgn false k = k by unfold sgn; simp] at HF
    clear hr hb hk2
    go_wp2_with fail
    exact bodyPost_ret (v := .agg #[.bool d1, .slice A2 n2 k2]) (by simp [results, Tryz.results40, go_sem, c0, c1]) rfl HF.out
set_option maxHeartbeats 1000000 in
theorem ineg_any (z : Int) (v : Value) (w : World) (h : RepI w w.heap.size z v) (N : Nat) (hN : N ≤ 1000000) (hz : (z.natAbs : Int) < 4294967296 ^ N) :
    Calls Tryz.prog 58 #[v] w (NewI (-z) w) := by
  obtain ⟨A, n, c, zs, rfl, hr⟩ := h
  obtain ⟨b, hb⟩ : ∃ b, b = decide (z < 0) := ⟨_, rfl⟩
  rw [← hb]
  have hn := hr.len_le hz
  obtain ⟨W2, hW2, hB2, hS2, p1, p2⟩ := boxes2 w 36 (.bool b) (.slice A n c) (.bool false) (.slice none 0 0)
  have HW := Lib.hid hW2
  have HR := Lib.hid hr
  have HR2 := Lib.hid ((hr.below hB2).more hB2.size)
  have HB := Lib.hid hB2
  have HP2 := Lib.hid p2
  have HZ := Lib.hid (show sgn (!b) (z.natAbs : Int) = -z from by
    rw [hb]
    by_cases h : z < 0
    · rw [decide_eq_true h]; show (z.natAbs : Int) = -z; omega
    · rw [decide_eq_false h]; show -(z.natAbs : Int) = -z; omega)
  have g0 := p1.c0
  have g1 := p1.c1
  clear hW2 hr hb hB2 hS2 p1 p2 hz
  go_enter Tryz.func58, Tryz.ntmps58
  go_wp2_with fail
  rw [← HW.out]
  clear HW
  go_region_held3 (fun w' => w'.cell? ⟨w.heap.size, 0, none⟩ = some (.bool b) ∧ w'.cell? ⟨w.heap.size, 1, none⟩ = some (.slice A n c))
    (exact ⟨by first | assumption | (simp only [World.cell?_drew]; assumption) | exact cell_set2 (by assumption) (by omega), by first | assumption | (simp only [World.cell?_drew]; assumption) | exact cell_set2 (by assumption) (by omega)⟩)
    (first
      | (go_at_call 64
         refine (clone_any A n c _ _ (by exact HR2.out.1) HR2.out.2.2.2.1 HR2.out.2.1 (by omega)).mono ?_
         rintro e w3 h3
         obtain ⟨A3, n3, c3, ys3, rfl, r3, b3⟩ := h3.new HR.out.2.2.2.2.1 HR.out.2.2.2.2.2.1 HR.out.2.2.2.2.2.2
         have b3 : Below W2.heap.size W2 w3 := by first | exact b3 | exact below_undrew b3
         have HR3 := Lib.hid r3
         have HP3 := Lib.hid (HP2.out.below b3)
         have HB3 := Lib.hid (HB.out.trans (b3.mono HB.out.size))
         have k0 := cell_below g0 b3
         have k1 := cell_below g1 b3
         clear b3 r3 h3)
      | (go_at_call 48
         refine (signed_any (!b) _ A3 n3 c3 ys3 _ (by exact HR3.out)).mono ?_
         rintro e w4 h4
         obtain ⟨v4, rfl, r4, b4⟩ := h4
         obtain ⟨d4, A4, n4, q4, rfl⟩ := r4.shape
         have b4 : Below w3.heap.size w3 w4 := by first | exact b4 | exact below_undrew b4
         have hk4 := HP3.out.below b4
         have hb4 := HB3.out.trans (b4.mono HB3.out.size)
         have j0 := cell_below k0 b4
         have j1 := cell_below k1 b4
         have c0 := hk4.c0
         have c1 := hk4.c1
         have f0 := hk4.f0
         have f1 := hk4.f1
         have HF := Lib.hid (newI_ret r4 hk4 hb4 (by omega))
         clear hk4 hb4 r4 b4))
  go_wp2_with fail
  exact bodyPost_ret (v := .agg #[.bool d4, .slice A4 n4 q4]) (by simp [results, Tryz.results58, go_sem, c0, c1]) rfl (by have h := HF.out; rw [HZ.out] at h; exact h)
end Go.Proofs.YtgfhniiidejmoaaGreatDoor
namespace Go.Proofs.YtgfhniiidejmoaaGreatDoor
open Go.RowKit
set_option linter.unusedVariables false

theorem box2_below (w : World) (o1 o2 : Obj) : Below w.heap.size w ((w.alloc o1).alloc o2) := ((Below.refl _ _).alloc (Nat.le_refl _) _).alloc (by simp) _
def CmpU (x y : Int) (w : World) (e : Ending) (w' : World) : Prop := e = .returned (.int .i64 (cmpI' x y)) ∧ Below w.heap.size w w'
theorem cmpI'_lt {x y : Int} (h : x < y) : cmpI' x y = -1 := if_pos h
theorem cmpI'_gt {x y : Int} (h : y < x) : cmpI' x y = 1 := by rw [cmpI', if_neg (by omega), if_pos h]
theorem cmpI'_nn {x y : Int} (hx : 0 ≤ x) (hy : 0 ≤ y) : cmpI' (x.natAbs : Int) (y.natAbs : Int) = cmpI' x y := by unfold cmpI'; rw [show (x.natAbs : Int) = x by omega, show (y.natAbs : Int) = y by omega]
theorem cmpI'_pp {x y : Int} (hx : x < 0) (hy : y < 0) : cmpI' (y.natAbs : Int) (x.natAbs : Int) = cmpI' x y := by
  unfold cmpI'
  rw [show (x.natAbs : Int) = -x by omega, show (y.natAbs : Int) = -y by omega]
  split <;> split <;> (try split) <;> omega
set_option maxHeartbeats 1000000 in
theorem icompare_any (x y : Int) (u v : Value) (w : World) (hx : RepI w w.heap.size x u) (hy : RepI w w.heap.size y v) (N : Nat) (hN : N ≤ 100000) (bx : (x.natAbs : Int) < 4294967296 ^ N) (by_ : (y.natAbs : Int) < 4294967296 ^ N) :
    Calls Tryz.prog 18 #[u, v] w (CmpU x y w) := by
  obtain ⟨A, n, c, zs, rfl, hr⟩ := hx
  obtain ⟨E, m, f, ys, rfl, hs⟩ := hy
  have hn := hr.len_le bx
  have hm := hs.len_le by_
  have hal := box2_below w (.cells #[.bool (decide (x < 0)), .slice A n c] 36) (.cells #[.bool (decide (y < 0)), .slice E m f] 36)
  have hr2 := (hr.below hal).more hal.size
  have hs2 := (hs.below hal).more hal.size
  by_cases h1 : x < 0
  · rw [decide_eq_true h1] at hal hr2 hs2 ⊢
    by_cases h2 : y < 0
    · rw [decide_eq_true h2] at hal hr2 hs2 ⊢
      have HC := Lib.hid (ncompare_any _ _ E A m f n c ys zs _ hs2 hr2 (by omega) (by omega))
      rw [cmpI'_pp h1 h2] at HC
      have HAL := Lib.hid hal
      clear hal hr2 hs2 hr hs bx by_
      go_enter Tryz.func18, Tryz.ntmps18
      go_wp2_with fail
      refine HC.out.mono ?_
      rintro e w1 ⟨rfl, q, rfl⟩
      have HF := Lib.hid (below_drewN HAL.out q)
      go_wp2_with fail
      go_ret
      exact ⟨rfl, HF.out⟩
    · rw [decide_eq_false h2] at hal hr2 hs2 ⊢
      rw [show CmpU x y w = fun e w' => e = .returned (.int .i64 (-1)) ∧ Below w.heap.size w w' from by unfold CmpU; rw [cmpI'_lt (by omega)]]
      have HAL := Lib.hid hal
      clear hal hr2 hs2 hr hs bx by_
      go_enter Tryz.func18, Tryz.ntmps18
      go_wp2_with fail
      go_ret
      exact ⟨rfl, HAL.out⟩
  · rw [decide_eq_false h1] at hal hr2 hs2 ⊢
    by_cases h2 : y < 0
    · rw [decide_eq_true h2] at hal hr2 hs2 ⊢
      rw [show CmpU x y w = fun e w' => e = .returned (.int .i64 1) ∧ Below w.heap.size w w' from by unfold CmpU; rw [cmpI'_gt (by omega)]]
      have HAL := Lib.hid hal
      clear hal hr2 hs2 hr hs bx by_
      go_enter Tryz.func18, Tryz.ntmps18
      go_wp2_with fail
      go_ret
      exact ⟨rfl, HAL.out⟩
    · rw [decide_eq_false h2] at hal hr2 hs2 ⊢
      have HC := Lib.hid (ncompare_any _ _ A E n c m f zs ys _ hr2 hs2 (by omega) (by omega))
      rw [cmpI'_nn (by omega) (by omega)] at HC
      have HAL := Lib.hid hal
      clear hal hr2 hs2 hr hs bx by_
      go_enter Tryz.func18, Tryz.ntmps18
      go_wp2_with fail
      refine HC.out.mono ?_
      rintro e w1 ⟨rfl, q, rfl⟩
      have HF := Lib.hid (below_drewN HAL.out q)
      go_wp2_with fail
      go_ret
      exact ⟨rfl, HF.out⟩
theorem box1_below (w : World) (o1 : Obj) : Below w.heap.size w (w.alloc o1) := (Below.refl _ _).alloc (Nat.le_refl _) _
set_option maxHeartbeats 1000000 in
theorem isign_any (x : Int) (u : Value) (w : World) (hx : RepI w w.heap.size x u) (N : Nat) (hN : N ≤ 100000) (bx : (x.natAbs : Int) < 4294967296 ^ N) :
    Calls Tryz.prog 17 #[u] w (CmpU x 0 w) := by
  obtain ⟨d, A, n, c, rfl⟩ := hx.shape
  have hal := box1_below w (.cells #[.bool d, .slice A n c] 36)
  have HC := Lib.hid (icompare_any x 0 _ _ _ ((hx.below hal).more hal.size) (RepI.zero _ _) N hN bx (pow_pos' (by omega) N))
  have HAL := Lib.hid hal
  clear hal hx bx
  go_enter Tryz.func17, Tryz.ntmps17
  go_wp2_with fail
  refine HC.out.mono ?_
  rintro e w1 ⟨rfl, hb⟩
  have HF := Lib.hid (HAL.out.trans (hb.mono HAL.out.size))
  clear hb
  go_wp2_with fail
  go_ret
  exact ⟨rfl, HF.out⟩
end Go.Proofs.YtgfhniiidejmoaaGreatDoor
namespace Go.Proofs.YtgfhniiidejmoaaGreatDoor
open Go.RowKit
set_option linter.unusedVariables false

end Go.Proofs.YtgfhniiidejmoaaGreatDoor
namespace Go.Proofs.YtgfhniiidejmoaaGreatDoor
open Go.RowKit
set_option linter.unusedVariables false

theorem nat_512a : (4294967296 : Nat) ^ 512 ≤ 2 ^ 16384 := by decide +kernel
theorem nat_512b : (2 : Nat) ^ 16384 ≤ 4294967296 ^ 512 := by decide +kernel
theorem lim_512 : ∃ N : Nat, N = 512 ∧ lim = 4294967296 ^ N :=
  ⟨512, rfl, Int.le_antisymm (pow_le_cast 2 16384 4294967296 512 2 4294967296 rfl rfl nat_512b) (pow_le_cast 4294967296 512 2 16384 4294967296 2 rfl rfl nat_512a)⟩
theorem fit_pow {z : Int} (h : (z.natAbs : Int) < lim) : ∃ N : Nat, N = 512 ∧ (z.natAbs : Int) < 4294967296 ^ N := by
  obtain ⟨N, h1, h2⟩ := lim_512
  exact ⟨N, h1, by rw [← h2]; exact h⟩
theorem NatR.fit {w : World} {B n c : Nat} {x : Int} {A : Option Addr} {zs : List Int} (h : NatR w B x A n c zs) : n ≤ 512 ↔ x < lim := by
  obtain ⟨N, h1, h2⟩ := lim_512
  rw [h2]
  constructor
  · intro hn
    exact Int.lt_of_lt_of_le h.lt (pow_mono' (by omega) (by omega))
  · intro hx
    have := h.len_le hx
    omega
/-- the integer of a size with a sign, if it is one, and its error number -/
def fitI (z : Int) : Int := if (z.natAbs : Int) < lim then z else 0
def fitE (z : Int) : Int := if (z.natAbs : Int) < lim then 0 else 4
theorem inRange_any (neg : Bool) (x : Int) (A : Option Addr) (n c : Nat) (zs : List Int) (w : World) (h : NatR w w.heap.size x A n c zs) (z : Int) (hz : sgn neg x = z) :
    Calls Tryz.prog 25 #[.bool neg, .slice A n c] w (NewE (fitI z) (fitE z) w) := by
  have ha : (z.natAbs : Int) = x := by rw [← hz]; exact sgn_abs neg h.nonneg
  by_cases hf : x < lim
  · have e1 : fitI z = sgn neg x := by rw [fitI, ha, if_pos hf, hz]
    have e2 : fitE z = 0 := by rw [fitE, ha, if_pos hf]
    rw [e1, e2]
    exact inRange_ok neg x A n c zs w h (h.fit.2 hf)
  · have e1 : fitI z = 0 := by rw [fitI, ha, if_neg hf]
    have e2 : fitE z = 4 := by rw [fitE, ha, if_neg hf]
    rw [e1, e2]
    exact inRange_no neg A n c w (by have := h.fit; omega)
theorem sgn_mul (x y : Int) : sgn (decide (x < 0) != decide (y < 0)) ((x.natAbs : Int) * (y.natAbs : Int)) = x * y := by
  by_cases h1 : x < 0
  · by_cases h2 : y < 0
    · rw [decide_eq_true h1, decide_eq_true h2, show (x.natAbs : Int) = -x by omega, show (y.natAbs : Int) = -y by omega]
      show -x * -y = x * y
      grind
    · rw [decide_eq_true h1, decide_eq_false h2, show (x.natAbs : Int) = -x by omega, show (y.natAbs : Int) = y by omega]
      show -(-x * y) = x * y
      grind
  · by_cases h2 : y < 0
    · rw [decide_eq_false h1, decide_eq_true h2, show (x.natAbs : Int) = x by omega, show (y.natAbs : Int) = -y by omega]
      show -(x * -y) = x * y
      grind
    · rw [decide_eq_false h1, decide_eq_false h2, show (x.natAbs : Int) = x by omega, show (y.natAbs : Int) = y by omega]
      show x * y = x * y
      rfl
set_option maxRecDepth 100000 in
set_option maxHeartbeats 1000000 in
theorem imul_any (x y : Int) (u v : Value) (w : World) (hx : RepI w w.heap.size x u) (hy : RepI w w.heap.size y v) (bx : (x.natAbs : Int) < lim) (by_ : (y.natAbs : Int) < lim) :
    Calls Tryz.prog 79 #[u, v] w (NewE (fitI (x * y)) (fitE (x * y)) w) := by
  obtain ⟨A, n, c, zs, rfl, hr⟩ := hx
  obtain ⟨E, m, f, ys, rfl, hs⟩ := hy
  have hn := hr.fit.2 bx
  have hm := hs.fit.2 by_
  obtain ⟨b1, hb1⟩ : ∃ b, b = decide (x < 0) := ⟨_, rfl⟩
  obtain ⟨b2, hb2⟩ : ∃ b, b = decide (y < 0) := ⟨_, rfl⟩
  have hsg := sgn_mul x y
  rw [← hb1, ← hb2] at hsg
  rw [← hb1, ← hb2]
  obtain ⟨b3, hb3⟩ : ∃ b, b = (b1 != b2) := ⟨_, rfl⟩
  rw [← hb3] at hsg
  obtain ⟨W2, hW2, hB2, hS2, p1, p2, p3⟩ := boxes3 w 36 (.bool b1) (.slice A n c) (.bool b2) (.slice E m f) (.bool false) (.slice none 0 0)
  have HW := Lib.hid hW2
  have HR2 := Lib.hid ((hr.below hB2).more hB2.size)
  have HS2 := Lib.hid ((hs.below hB2).more hB2.size)
  have HB := Lib.hid hB2
  have HP3 := Lib.hid p3
  have HIR := Lib.hid (fun A3 n3 c3 ys3 W h => inRange_any b3 ((x.natAbs : Int) * (y.natAbs : Int)) A3 n3 c3 ys3 W h (x * y) hsg)
  obtain ⟨Z, hZ⟩ : ∃ Z, Z = fitI (x * y) := ⟨_, rfl⟩
  obtain ⟨er, her⟩ : ∃ er, er = fitE (x * y) := ⟨_, rfl⟩
  rw [← hZ, ← her] at HIR ⊢
  have hb3' : (!(b1 == b2)) = b3 := hb3.symm
  have g0 := p1.c0
  have g1 := p1.c1
  have g2 := p2.c0
  have g3 := p2.c1
  clear hW2 hr hs hb1 hb2 hb3 hB2 hS2 p1 p2 p3 hsg bx by_ hZ her
  go_enter Tryz.func79, Tryz.ntmps79
  go_wp2_with fail
  rw [← HW.out]
  clear HW
  go_region_held3 (fun w' => w'.cell? ⟨w.heap.size, 0, none⟩ = some (.bool b1) ∧ w'.cell? ⟨w.heap.size, 1, none⟩ = some (.slice A n c) ∧ w'.cell? ⟨w.heap.size + 1, 0, none⟩ = some (.bool b2) ∧ w'.cell? ⟨w.heap.size + 1, 1, none⟩ = some (.slice E m f))
    (exact ⟨by first | assumption | (simp only [World.cell?_drew]; assumption) | exact cell_set2 (by assumption) (by omega), by first | assumption | (simp only [World.cell?_drew]; assumption) | exact cell_set2 (by assumption) (by omega), by first | assumption | (simp only [World.cell?_drew]; assumption) | exact cell_set2 (by assumption) (by omega), by first | assumption | (simp only [World.cell?_drew]; assumption) | exact cell_set2 (by assumption) (by omega)⟩)
    (first
      | (go_at_call 81
         refine (nmul_any _ _ A E n c m f _ _ _ (by exact HR2.out) (by exact HS2.out) (by omega) (by omega)).mono ?_
         rintro e w3 h3
         obtain ⟨A3, n3, c3, ys3, rfl, r3, b3'⟩ := h3
         have b3' : Below W2.heap.size W2 w3 := by first | exact b3' | exact below_undrew b3'
         have HR3 := Lib.hid r3
         have HP3' := Lib.hid (HP3.out.below b3')
         have HB3 := Lib.hid (HB.out.trans (b3'.mono HB.out.size))
         have k0 := cell_below g0 b3'
         have k1 := cell_below g1 b3'
         have k2 := cell_below g2 b3'
         have k3 := cell_below g3 b3'
         clear b3' r3)
      | (go_at_call 25
         refine (HIR.out A3 n3 c3 ys3 _ (by exact HR3.out)).mono ?_
         rintro e w4 h4
         obtain ⟨v4, rfl, r4, b4⟩ := h4
         obtain ⟨d4, A4, n4, q4, rfl⟩ := r4.shape
         have b4 : Below w3.heap.size w3 w4 := by first | exact b4 | exact below_undrew b4
         have hk4 := HP3'.out.below b4
         have hb4 := HB3.out.trans (b4.mono HB3.out.size)
         have j0 := cell_below k0 b4
         have j1 := cell_below k1 b4
         have j2 := cell_below k2 b4
         have j3 := cell_below k3 b4
         have c0 := hk4.c0
         have c1 := hk4.c1
         have f0 := hk4.f0
         have f1 := hk4.f1
         have HF := Lib.hid (repI_ret r4 hk4 hb4 (by omega))
         clear hk4 hb4 r4 b4))
  go_wp2_with fail
  exact bodyPost_ret (v := .tuple #[.agg #[.bool d4, .slice A4 n4 q4], .int .i64 er]) (by simp [results, Tryz.results79, go_sem, c0, c1]) rfl ⟨_, rfl, HF.out.1, HF.out.2⟩
end Go.Proofs.YtgfhniiidejmoaaGreatDoor
