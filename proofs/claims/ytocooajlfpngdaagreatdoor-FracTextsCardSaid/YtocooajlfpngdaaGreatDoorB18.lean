/- Contracts of package wide's numbers: gcd. · Contracts of package wide's integers: signed, inRange, From, Neg, Gcd. -/
import Derived.Test.YtocooajlfpngdaaGreatDoorB17
import Derived.Deep.DeepCutAuto
import Derived.BigQuiet
import Derived.Test.YtocooajlfpngdaaGreatDoorB05
import Derived.Test.YtocooajlfpngdaaGreatDoorB11
import Derived.Deep.RegionHeld3
import Derived.Deep.DeepMust
namespace Go.Proofs.YtocooajlfpngdaaGreatDoor
open Go.RowKit
set_option linter.unusedVariables false

theorem NatR.nonneg {w : World} {B n c : Nat} {x : Int} {A : Option Addr} {zs : List Int} (h : NatR w B x A n c zs) : 0 ≤ x := by
  rw [← h.2.2.2.2.2.2]; exact dv_nonneg (by omega) h.2.2.2.2.1
theorem NatR.len_le {w : World} {B n c N : Nat} {x : Int} {A : Option Addr} {zs : List Int} (h : NatR w B x A n c zs) (hx : x < 4294967296 ^ N) : n ≤ N := by
  have e := can_digs (show (1 : Int) < 4294967296 by omega) h.2.2.2.2.1 h.2.2.2.2.2.1
  have h1 := digs_len (show (1 : Int) < 4294967296 by omega) h.nonneg hx
  rw [h.2.2.2.2.2.2] at e
  rw [← e, h.1.len] at h1
  exact h1
theorem NatR.lt {w : World} {B n c : Nat} {x : Int} {A : Option Addr} {zs : List Int} (h : NatR w B x A n c zs) : x < 4294967296 ^ n := by
  have h1 := dv_lt (show (0 : Int) < 4294967296 by omega) h.2.2.2.2.1
  rwa [h.2.2.2.2.2.2, h.1.len] at h1
theorem NatR.zero {w : World} {B n c : Nat} {x : Int} {A : Option Addr} {zs : List Int} (h : NatR w B x A n c zs) : n = 0 ↔ x = 0 := by
  constructor
  · rintro rfl
    have e1 : zs = [] := List.length_eq_zero_iff.1 h.1.len
    have e2 := h.2.2.2.2.2.2
    rw [e1] at e2
    exact e2.symm
  · intro h0
    have := h.len_le (N := 0) (by rw [h0]; decide)
    omega
theorem NatR.word {w : World} {B n c : Nat} {x : Int} {A : Option Addr} {zs : List Int} (h : NatR w B x A n c zs) (hn : n ≤ 2) : zs[0]?.getD 0 + 4294967296 * zs[1]?.getD 0 = x := by
  have hl := h.1.len
  rw [← h.2.2.2.2.2.2]
  match zs, hl with
  | [], _ => rfl
  | [a], _ => show a + 4294967296 * 0 = a + 4294967296 * 0; rfl
  | [a, b], _ => show a + 4294967296 * b = a + 4294967296 * (b + 4294967296 * 0); omega
  | a :: b :: c :: t, hl => simp at hl; omega
/-- both numbers of the greatest common divisor's loop -/
def GcdU (w : World) (N D : Nat) (X g : Nat) (v u : Value) (wr : World) : Prop :=
  ∃ A n c zs E m f ys, v = .slice A n c ∧ u = .slice E m f ∧ NatR wr wr.heap.size (X : Int) A n c zs ∧ NatR wr wr.heap.size (g : Int) E m f ys ∧ (X : Int) < 4294967296 ^ N ∧ (g : Int) < 4294967296 ^ N ∧ Nat.gcd X g = D ∧ Below w.heap.size w wr
theorem gcd_step (X g : Nat) : Nat.gcd g (X % g) = Nat.gcd X g := by rw [Nat.gcd_comm g (X % g), ← Nat.gcd_rec, Nat.gcd_comm]
set_option maxRecDepth 100000 in
set_option maxHeartbeats 1000000 in
theorem ngcd_any (N : Nat) (x y : Nat) (A E : Option Addr) (n c m f : Nat) (zs ys : List Int) (w : World) (h : NatR w w.heap.size (x : Int) A n c zs) (k : NatR w w.heap.size (y : Int) E m f ys) (hn : n ≤ N) (hm : m ≤ N) (hN : N ≤ 40000) :
    Calls Tryz.prog 104 #[.slice A n c, .slice E m f] w (NewU (Nat.gcd x y : Int) w) := by
  obtain ⟨D, hD⟩ : ∃ D, D = Nat.gcd x y := ⟨_, rfl⟩
  rw [← hD]
  have HS := Lib.hid (show GcdU w N D x y (.slice A n c) (.slice E m f) w from ⟨_, _, _, _, _, _, _, _, rfl, rfl, h, k, Int.lt_of_lt_of_le h.lt (pow_mono' (by omega) hn), Int.lt_of_lt_of_le k.lt (pow_mono' (by omega) hm), hD.symm, Below.refl _ _⟩)
  clear h k hD hn hm
  go_enter Tryz.func104, Tryz.ntmps104
  go_wp2_with fail
  go_loopg [0, 1] y (fun g v u wr => ∃ X : Nat, Hid (GcdU w N D X g v u wr))
  case atStart => exact ⟨x, HS.out⟩
  case round =>
    clear HS
    obtain ⟨X, HS⟩ := hrel
    obtain ⟨A', n', c', zs', E', m', f', ys', rfl, rfl, hx, hy, bx, bg, hD, hB⟩ := HS.out
    have hnN := hx.len_le bx
    have hmN := hy.len_le bg
    have HX := Lib.hid hx
    have HY := Lib.hid hy
    have HB := Lib.hid hB
    have HD := Lib.hid hD
    have HBX := Lib.hid (And.intro bx bg)
    clear hx hy hB hD HS bx bg
    rcases Nat.eq_zero_or_pos m' with rfl | hm0
    · obtain rfl : gk = 0 := by have := HY.out.zero.1 rfl; omega
      obtain rfl : X = D := by rw [← HD.out, Nat.gcd_zero_right]
      have HC := Lib.hid (clone_any A' n' c' zs' wr HX.out.1 HX.out.2.2.2.1 HX.out.2.1 (by omega))
      go_wp2_with fail
      refine HC.out.mono ?_
      rintro e w2 h2
      obtain ⟨A2, n2, c2, zs2, rfl, hr2, hb2⟩ := h2.new HX.out.2.2.2.2.1 HX.out.2.2.2.2.2.1 HX.out.2.2.2.2.2.2
      have HF := Lib.hid (show NewU (X : Int) w (.returned (.slice A2 n2 c2)) w2 from ⟨_, _, _, _, rfl, hr2, HB.out.trans (hb2.mono HB.out.size)⟩)
      clear h2 hr2 hb2
      go_wp2_with fail
      go_ret
      exact HF.out
    · have hm0' : ((m' : Int) == 0) = false := by rw [beq_eq_false_iff_ne]; omega
      have hg0 : 0 < gk := by
        rcases Nat.eq_zero_or_pos gk with rfl | h0
        · have := HY.out.zero.2 rfl; omega
        · exact h0
      have HDV := Lib.hid (ndiv_any (X : Int) (gk : Int) A' E' n' c' m' f' zs' ys' wr HX.out HY.out (by omega) (by omega) (by omega))
      have HW1 := Lib.hid (fun h2 : n' ≤ 2 => word_any A' n' c' zs' wr HX.out.1 HX.out.2.2.2.2.1 (by omega))
      have HW2 := Lib.hid (fun h2 : m' ≤ 2 => word_any E' m' f' ys' wr HY.out.1 HY.out.2.2.2.2.1 (by omega))
      by_cases hnm : (n' : Int) < (m' : Int)
      · by_cases hbig : (2 : Int) < (m' : Int)
        · go_wp2_with fail
          refine HDV.out.mono ?_
          rintro e w2 ⟨A2, n2, c2, zs2, E2, m2, f2, ys2, rfl, _, hr2, hb2⟩
          have HS2 := Lib.hid (show GcdU w N D gk (X % gk) (.slice E' m' f') (.slice E2 m2 f2) w2 from ⟨_, _, _, _, _, _, _, _, rfl, rfl, (HY.out.below hb2).more hb2.size, by have h := hr2; rwa [← Int.natCast_emod] at h, HBX.out.2, by
            have h1 := Nat.mod_lt X hg0
            have h2 := HBX.out.2
            have h3 : ((X % gk : Nat) : Int) < (gk : Int) := by omega
            exact Int.lt_trans h3 h2, by rw [gcd_step]; exact HD.out, HB.out.trans (hb2.mono HB.out.size)⟩)
          clear hr2 hb2
          go_wp2_with fail
          go_roundg (X % gk)
          case measure => exact Nat.mod_lt X hg0
          case rel => exact ⟨gk, HS2.out⟩
        · obtain ⟨hn2, hm2⟩ : n' ≤ 2 ∧ m' ≤ 2 := by omega
          have hw1 := HW1.out hn2
          have hw2 := HW2.out hm2
          rw [HX.out.word hn2] at hw1
          rw [HY.out.word hm2] at hw2
          have HX1 := Lib.hid hw1
          have HY1 := Lib.hid hw2
          have hX64 : (X : Int) ≤ 18446744073709551615 := by
            have h1 := HX.out.lt
            have h2 := pow_mono' (show (0 : Int) < 4294967296 by omega) hn2
            have h3 : (4294967296 : Int) ^ 2 = 18446744073709551616 := by decide +kernel
            omega
          have hg64 : (gk : Int) ≤ 18446744073709551615 := by
            have h1 := HY.out.lt
            have h2 := pow_mono' (show (0 : Int) < 4294967296 by omega) hm2
            have h3 : (4294967296 : Int) ^ 2 = 18446744073709551616 := by decide +kernel
            omega
          clear hw1 hw2 HW1 HW2 HDV HX HY HBX
          go_wp2_with fail
          refine HX1.out.mono ?_
          rintro e w1 ⟨rfl, rfl⟩
          go_wp2_with fail
          refine HY1.out.mono ?_
          rintro e w1 ⟨rfl, rfl⟩
          go_wp2_with fail
          go_loopg [7, 8] gk (fun g v u wq => ∃ X' q : Nat, v = .int .u64 (X' : Int) ∧ u = .int .u64 (g : Int) ∧ (X' : Int) ≤ 18446744073709551615 ∧ (g : Int) ≤ 18446744073709551615 ∧ Hid (Nat.gcd X' g = D) ∧ wq = wr.drewN q)
          case atStart => exact ⟨X, 0, rfl, rfl, hX64, hg64, HD.out, rfl⟩
          case round =>
            clear HD HX1 HY1 hX64 hg64
            obtain ⟨X', q, rfl, rfl, hX', hg', HD', rfl⟩ := hrel
            rcases Nat.eq_zero_or_pos gk with rfl | hk0
            · obtain rfl : X' = D := by rw [← HD'.out, Nat.gcd_zero_right]
              have HFW := Lib.hid (fromWord_any (X' : Int) (wr.drewN q) (by omega) hX')
              go_wp2_with fail
              refine HFW.out.mono ?_
              rintro e w2 ⟨A2, n2, c2, zs2, rfl, hr2, hb2⟩
              have HF := Lib.hid (show NewU (X' : Int) w (.returned (.slice A2 n2 c2)) w2 from ⟨_, _, _, _, rfl, hr2, HB.out.trans (Below.mono ⟨hb2.os, hb2.tape, hb2.output, hb2.size, hb2.block⟩ HB.out.size)⟩)
              clear hr2 hb2
              go_wp2_with fail
              go_ret
              exact HF.out
            · have htm : (X' : Int).tmod (gk : Int) = ((X' % gk : Nat) : Int) := by rw [Int.tmod_eq_emod_of_nonneg (by omega)]; exact (Int.natCast_emod _ _).symm
              have hd0 : ((gk : Int) == 0) = false := by rw [beq_eq_false_iff_ne]; omega
              have hk0' : (0 : Int) < (gk : Int) := by omega
              have hlt := Nat.mod_lt X' hk0
              have HD2 := Lib.hid (show Nat.gcd gk (X' % gk) = D from by rw [gcd_step]; exact HD'.out)
              have hmd : ((X' % gk : Nat) : Int) ≤ 18446744073709551615 := by omega
              have hmw : IntKind.u64.wrap ((X' % gk : Nat) : Int) = ((X' % gk : Nat) : Int) := IntWalk.u64_in _ (by omega)
              go_upto_region 8 with (fail)
              go_quiet (fail)
              go_wp2_with fail
              go_roundg (X' % gk)
              case measure => exact hlt
              case rel => exact ⟨gk, q + nq, rfl, by rw [Int.natCast_emod], hg', hmd, HD2.out, by simp [World.drewN, Nat.add_assoc]⟩
      · by_cases hbig : (2 : Int) < (n' : Int)
        · go_wp2_with fail
          refine HDV.out.mono ?_
          rintro e w2 ⟨A2, n2, c2, zs2, E2, m2, f2, ys2, rfl, _, hr2, hb2⟩
          have HS2 := Lib.hid (show GcdU w N D gk (X % gk) (.slice E' m' f') (.slice E2 m2 f2) w2 from ⟨_, _, _, _, _, _, _, _, rfl, rfl, (HY.out.below hb2).more hb2.size, by have h := hr2; rwa [← Int.natCast_emod] at h, HBX.out.2, by
            have h1 := Nat.mod_lt X hg0
            have h2 := HBX.out.2
            have h3 : ((X % gk : Nat) : Int) < (gk : Int) := by omega
            exact Int.lt_trans h3 h2, by rw [gcd_step]; exact HD.out, HB.out.trans (hb2.mono HB.out.size)⟩)
          clear hr2 hb2
          go_wp2_with fail
          go_roundg (X % gk)
          case measure => exact Nat.mod_lt X hg0
          case rel => exact ⟨gk, HS2.out⟩
        · obtain ⟨hn2, hm2⟩ : n' ≤ 2 ∧ m' ≤ 2 := by omega
          have hw1 := HW1.out hn2
          have hw2 := HW2.out hm2
          rw [HX.out.word hn2] at hw1
          rw [HY.out.word hm2] at hw2
          have HX1 := Lib.hid hw1
          have HY1 := Lib.hid hw2
          have hX64 : (X : Int) ≤ 18446744073709551615 := by
            have h1 := HX.out.lt
            have h2 := pow_mono' (show (0 : Int) < 4294967296 by omega) hn2
            have h3 : (4294967296 : Int) ^ 2 = 18446744073709551616 := by decide +kernel
            omega
          have hg64 : (gk : Int) ≤ 18446744073709551615 := by
            have h1 := HY.out.lt
            have h2 := pow_mono' (show (0 : Int) < 4294967296 by omega) hm2
            have h3 : (4294967296 : Int) ^ 2 = 18446744073709551616 := by decide +kernel
            omega
          clear hw1 hw2 HW1 HW2 HDV HX HY HBX
          go_wp2_with fail
          refine HX1.out.mono ?_
          rintro e w1 ⟨rfl, rfl⟩
          go_wp2_with fail
          refine HY1.out.mono ?_
          rintro e w1 ⟨rfl, rfl⟩
          go_wp2_with fail
          go_loopg [7, 8] gk (fun g v u wq => ∃ X' q : Nat, v = .int .u64 (X' : Int) ∧ u = .int .u64 (g : Int) ∧ (X' : Int) ≤ 18446744073709551615 ∧ (g : Int) ≤ 18446744073709551615 ∧ Hid (Nat.gcd X' g = D) ∧ wq = wr.drewN q)
          case atStart => exact ⟨X, 0, rfl, rfl, hX64, hg64, HD.out, rfl⟩
          case round =>
            clear HD HX1 HY1 hX64 hg64
            obtain ⟨X', q, rfl, rfl, hX', hg', HD', rfl⟩ := hrel
            rcases Nat.eq_zero_or_pos gk with rfl | hk0
            · obtain rfl : X' = D := by rw [← HD'.out, Nat.gcd_zero_right]
              have HFW := Lib.hid (fromWord_any (X' : Int) (wr.drewN q) (by omega) hX')
              go_wp2_with fail
              refine HFW.out.mono ?_
              rintro e w2 ⟨A2, n2, c2, zs2, rfl, hr2, hb2⟩
              have HF := Lib.hid (show NewU (X' : Int) w (.returned (.slice A2 n2 c2)) w2 from ⟨_, _, _, _, rfl, hr2, HB.out.trans (Below.mono ⟨hb2.os, hb2.tape, hb2.output, hb2.size, hb2.block⟩ HB.out.size)⟩)
              clear hr2 hb2
              go_wp2_with fail
              go_ret
              exact HF.out
            · have htm : (X' : Int).tmod (gk : Int) = ((X' % gk : Nat) : Int) := by rw [Int.tmod_eq_emod_of_nonneg (by omega)]; exact (Int.natCast_emod _ _).symm
              have hd0 : ((gk : Int) == 0) = false := by rw [beq_eq_false_iff_ne]; omega
              have hk0' : (0 : Int) < (gk : Int) := by omega
              have hlt := Nat.mod_lt X' hk0
              have HD2 := Lib.hid (show Nat.gcd gk (X' % gk) = D from by rw [gcd_step]; exact HD'.out)
              have hmd : ((X' % gk : Nat) : Int) ≤ 18446744073709551615 := by omega
              have hmw : IntKind.u64.wrap ((X' % gk : Nat) : Int) = ((X' % gk : Nat) : Int) := IntWalk.u64_in _ (by omega)
              go_upto_region 8 with (fail)
              go_quiet (fail)
              go_wp2_with fail
              go_roundg (X' % gk)
              case measure => exact hlt
              case rel => exact ⟨gk, q + nq, rfl, by rw [Int.natCast_emod], hg', hmd, HD2.out, by simp [World.drewN, Nat.add_assoc]⟩
end Go.Proofs.YtocooajlfpngdaaGreatDoor
namespace Go.Proofs.YtocooajlfpngdaaGreatDoor
open Go.RowKit
set_option linter.unusedVariables false

/-- an integer of package wide -/
def RepI (w : World) (B : Nat) (z : Int) (v : Value) : Prop :=
  ∃ A n c zs, v = .agg #[.bool (decide (z < 0)), .slice A n c] ∧ NatR w B (z.natAbs : Int) A n c zs
theorem RepI.below {w w' : World} {B : Nat} {z : Int} {v : Value} (h : RepI w B z v) (hb : Below B w w') : RepI w' B z v := by
  obtain ⟨A, n, c, zs, h1, h2⟩ := h
  exact ⟨A, n, c, zs, h1, h2.below hb⟩
theorem RepI.more {w : World} {B B' : Nat} {z : Int} {v : Value} (h : RepI w B z v) (hb : B ≤ B') : RepI w B' z v := by
  obtain ⟨A, n, c, zs, h1, h2⟩ := h
  exact ⟨A, n, c, zs, h1, h2.more hb⟩
theorem RepI.zero (w : World) (B : Nat) : RepI w B 0 (.agg #[.bool false, .slice none 0 0]) :=
  ⟨none, 0, 0, [], rfl, Sl.nil _ _ _ _, Nat.le_refl _, Nat.zero_le _, fun _ => rfl, Dig.nil, (fun h => by cases h), rfl⟩
/-- a new integer of package wide -/
def NewI (z : Int) (w : World) (e : Ending) (w' : World) : Prop := ∃ v, e = .returned v ∧ RepI w' w'.heap.size z v ∧ Below w.heap.size w w'
/-- the same with an error number -/
def NewE (z : Int) (er : Int) (w : World) (e : Ending) (w' : World) : Prop := ∃ v, e = .returned (.tuple #[v, .int .i64 er]) ∧ RepI w' w'.heap.size z v ∧ Below w.heap.size w w'
def sgn (neg : Bool) (x : Int) : Int := if neg then -x else x
theorem sgn_abs (neg : Bool) {x : Int} (h : 0 ≤ x) : ((sgn neg x).natAbs : Int) = x := by
  cases neg
  · show ((x.natAbs : Nat) : Int) = x; omega
  · show (((-x).natAbs : Nat) : Int) = x; omega
theorem sgn_neg (neg : Bool) {x : Int} (h : 0 < x) : decide (sgn neg x < 0) = neg := by
  cases neg
  · show decide (x < 0) = false; simp; omega
  · show decide (-x < 0) = true; simp; omega
set_option maxHeartbeats 1000000 in
theorem signed_any (neg : Bool) (x : Int) (A : Option Addr) (n c : Nat) (zs : List Int) (w : World) (h : NatR w w.heap.size x A n c zs) :
    Calls Tryz.prog 75 #[.bool neg, .slice A n c] w (NewI (sgn neg x) w) := by
  have hal : ∀ o : Obj, Below w.heap.size w (w.alloc o) := fun o => (Below.refl _ _).alloc (Nat.le_refl _) o
  rcases Nat.eq_zero_or_pos n with rfl | hn
  · obtain rfl := h.zero.1 rfl
    have HF := Lib.hid (show NewI (sgn neg 0) w (.returned (.agg #[.bool false, .slice none 0 0])) (w.alloc (.cells #[.bool false, .slice none 0 0] 34)) from ⟨_, rfl, by rw [show sgn neg 0 = 0 by cases neg <;> rfl]; exact RepI.zero _ _, hal _⟩)
    clear h hal
    go_enter Tryz.func75, Tryz.ntmps75
    go_wp2_with fail
    exact bodyPost_ret (v := .agg #[.bool false, .slice none 0 0]) (by simp [results, Tryz.results75, go_sem]) rfl HF.out
  · have hx : 0 < x := by
      have := h.nonneg
      have := h.zero
      omega
    have HF := Lib.hid (show NewI (sgn neg x) w (.returned (.agg #[.bool neg, .slice A n c])) (w.alloc (.cells #[.bool neg, .slice A n c] 34)) from ⟨_, rfl, ⟨A, n, c, zs, by rw [sgn_neg neg hx], by rw [sgn_abs neg (Int.le_of_lt hx)]; exact (h.below (hal _)).more (hal _).size⟩, hal _⟩)
    clear h hal
    go_enter Tryz.func75, Tryz.ntmps75
    go_wp2_with fail
    exact bodyPost_ret (v := .agg #[.bool neg, .slice A n c]) (by simp [results, Tryz.results75, go_sem]) rfl HF.out
theorem RepI.shape {w : World} {B : Nat} {z : Int} {v : Value} (h : RepI w B z v) : ∃ d A n c, v = .agg #[.bool d, .slice A n c] := by
  obtain ⟨A, n, c, zs, rfl, _⟩ := h
  exact ⟨_, A, n, c, rfl⟩
theorem RepI.stored {w : World} {B R : Nat} {z : Int} {v u u' : Value} {b0 : Bool} {A0 : Option Addr} {n0 k0 : Nat} {t : TypeId} (h : RepI w B z v) (hk : Blk2 w R t (.bool b0) (.slice A0 n0 k0)) :
    RepI ((w.setCell ⟨R, 0, none⟩ u).setCell ⟨R, 1, none⟩ u') B z v := by
  obtain ⟨A, n, c, zs, h1, h2, h3⟩ := h
  exact ⟨A, n, c, zs, h1, h2.off_blk hk (set2_heap _ _ _ _), h3⟩
theorem repI_ret {w w1 : World} {z : Int} {R : Nat} {t : TypeId} {b0 : Bool} {A0 : Option Addr} {n0 k0 : Nat} {A : Option Addr} {n c : Nat} {d : Bool}
    (h : RepI w1 w1.heap.size z (.agg #[.bool d, .slice A n c])) (hk : Blk2 w1 R t (.bool b0) (.slice A0 n0 k0)) (hb : Below w.heap.size w w1) (hR : w.heap.size ≤ R) :
    RepI ((w1.setCell ⟨R, 0, none⟩ (.bool d)).setCell ⟨R, 1, none⟩ (.slice A n c)) ((w1.setCell ⟨R, 0, none⟩ (.bool d)).setCell ⟨R, 1, none⟩ (.slice A n c)).heap.size z (.agg #[.bool d, .slice A n c]) ∧ Below w.heap.size w ((w1.setCell ⟨R, 0, none⟩ (.bool d)).setCell ⟨R, 1, none⟩ (.slice A n c)) :=
  ⟨by have := h.stored (u := .bool d) (u' := .slice A n c) hk; simpa [World.setCell] using this, (hb.setCell (p := ⟨R, 0, none⟩) hR _).setCell (p := ⟨R, 1, none⟩) hR _⟩
set_option maxHeartbeats 1000000 in
theorem inRange_no (neg : Bool) (A : Option Addr) (n c : Nat) (w : World) (hn : 512 < n) :
    Calls Tryz.prog 82 #[.bool neg, .slice A n c] w (NewE 0 4 w) := by
  have hn' : (512 : Int) < (n : Int) := by omega
  have HF := Lib.hid (show NewE 0 4 w (.returned (.tuple #[.agg #[.bool false, .slice none 0 0], .int .i64 4])) (w.alloc (.cells #[.bool false, .slice none 0 0] 34)) from ⟨_, rfl, RepI.zero _ _, (Below.refl _ _).alloc (Nat.le_refl _) _⟩)
  go_enter Tryz.func82, Tryz.ntmps82
  go_wp2_with fail
  exact bodyPost_ret (v := .tuple #[.agg #[.bool false, .slice none 0 0], .int .i64 4]) (by simp [results, Tryz.results82, go_sem]) rfl HF.out
set_option maxHeartbeats 1000000 in
theorem inRange_ok (neg : Bool) (x : Int) (A : Option Addr) (n c : Nat) (zs : List Int) (w : World) (h : NatR w w.heap.size x A n c zs) (hn : n ≤ 512) :
    Calls Tryz.prog 82 #[.bool neg, .slice A n c] w (NewE (sgn neg x) 0 w) := by
  have hn' : ¬ (512 : Int) < (n : Int) := by omega
  have hal : Below w.heap.size w (w.alloc (.cells #[.bool false, .slice none 0 0] 34)) := (Below.refl _ _).alloc (Nat.le_refl _) _
  have HS := Lib.hid (signed_any neg x A n c zs _ ((h.below hal).more hal.size))
  have HK := Lib.hid (Blk2.new w 34 (.bool false) (.slice none 0 0))
  have HAL := Lib.hid hal
  clear h hal
  go_enter Tryz.func82, Tryz.ntmps82
  go_wp2_with fail
  refine HS.out.mono ?_
  rintro e w1 ⟨v, rfl, hr, hb⟩
  obtain ⟨d1, A1, n1, k1, rfl⟩ := hr.shape
  have hk := HK.out.below hb
  have f0 := hk.f0
  have f1 := hk.f1
  have c0 := hk.c0
  have c1 := hk.c1
  obtain ⟨h1, h2⟩ := repI_ret hr hk (HAL.out.trans (hb.mono HAL.out.size)) (Nat.le_refl _)
  have HF := Lib.hid (show NewE (sgn neg x) 0 w (.returned (.tuple #[.agg #[.bool d1, .slice A1 n1 k1], .int .i64 0])) _ from ⟨_, rfl, h1, h2⟩)
  clear hr hb hk h1 h2
  go_wp2_with fail
  exact bodyPost_ret (v := .tuple #[.agg #[.bool d1, .slice A1 n1 k1], .int .i64 0]) (by simp [results, Tryz.results82, go_sem, c0, c1]) rfl HF.out
theorem newI_ret {w w1 : World} {z : Int} {R : Nat} {t : TypeId} {b0 : Bool} {A0 : Option Addr} {n0 k0 : Nat} {A : Option Addr} {n c : Nat} {d : Bool}
    (h : RepI w1 w1.heap.size z (.agg #[.bool d, .slice A n c])) (hk : Blk2 w1 R t (.bool b0) (.slice A0 n0 k0)) (hb : Below w.heap.size w w1) (hR : w.heap.size ≤ R) :
    NewI z w (.returned (.agg #[.bool d, .slice A n c])) ((w1.setCell ⟨R, 0, none⟩ (.bool d)).setCell ⟨R, 1, none⟩ (.slice A n c)) := ⟨_, rfl, repI_ret h hk hb hR⟩
set_option maxHeartbeats 1000000 in
theorem from_any (k : Int) (w : World) (h0 : -9223372036854775808 ≤ k) (h1 : k ≤ 9223372036854775807) :
    Calls Tryz.prog 38 #[.int .i64 k] w (NewI k w) := by
  have hal : Below w.heap.size w (w.alloc (.cells #[.bool false, .slice none 0 0] 34)) := (Below.refl _ _).alloc (Nat.le_refl _) _
  have HK := Lib.hid (Blk2.new w 34 (.bool false) (.slice none 0 0))
  have HAL := Lib.hid hal
  clear hal
  by_cases hk : k < 0
  · have HW := Lib.hid (fromWord_any (-k) (w.alloc (.cells #[.bool false, .slice none 0 0] 34)) (by omega) (by omega))
    have e1 : IntKind.u64.wrap k = k + 18446744073709551616 := by rw [IntKind.wrap_u64]; omega
    have e2 : IntKind.u64.wrap (-(k + 18446744073709551616)) = -k := by rw [IntKind.wrap_u64]; omega
    go_enter Tryz.func38, Tryz.ntmps38
    go_wp2_with fail
    refine HW.out.mono ?_
    rintro e w1 ⟨A1, n1, c1, zs1, rfl, hr1, hb1⟩
    have HS := Lib.hid (signed_any true (-k) A1 n1 c1 zs1 w1 hr1)
    have HB1 := Lib.hid hb1
    clear hr1 hb1
    go_wp2_with fail
    refine HS.out.mono ?_
    rintro e w2 ⟨v, rfl, hr, hb⟩
    obtain ⟨d1, A2, n2, k2, rfl⟩ := hr.shape
    have hk2 := (HK.out.below HB1.out).below hb
    have f0 := hk2.f0
    have f1 := hk2.f1
    have c0 := hk2.c0
    have c1 := hk2.c1
    have HF := Lib.hid (newI_ret hr hk2 (HAL.out.trans ((HB1.out.trans (hb.mono HB1.out.size)).mono HAL.out.size)) (Nat.le_refl _))
    rw [show sgn true (-k) = k by unfold sgn; simp] at HF
    clear hr hb hk2
    go_wp2_with fail
    exact bodyPost_ret (v := .agg #[.bool d1, .slice A2 n2 k2]) (by simp [results, Tryz.results38, go_sem, c0, c1]) rfl HF.out
  · have HW := Lib.hid (fromWord_any k (w.alloc (.cells #[.bool false, .slice none 0 0] 34)) (by omega) (by omega))
    have e1 : IntKind.u64.wrap k = k := by rw [IntKind.wrap_u64]; omega
    go_enter Tryz.func38, Tryz.ntmps38
    go_wp2_with fail
    refine HW.out.mono ?_
    rintro e w1 ⟨A1, n1, c1, zs1, rfl, hr1, hb1⟩
    have HS := Lib.hid (signed_any false k A1 n1 c1 zs1 w1 hr1)
    have HB1 := Lib.hid hb1
    clear hr1 hb1
    go_wp2_with fail
    refine HS.out.mono ?_
    rintro e w2 ⟨v, rfl, hr, hb⟩
    obtain ⟨d1, A2, n2, k2, rfl⟩ := hr.shape
    have hk2 := (HK.out.below HB1.out).below hb
    have f0 := hk2.f0
    have f1 := hk2.f1
    have c0 := hk2.c0
    have c1 := hk2.c1
    have HF := Lib.hid (newI_ret hr hk2 (HAL.out.trans ((HB1.out.trans (hb.mono HB1.out.size)).mono HAL.out.size)) (Nat.le_refl _))
    rw [show sgn false k = k by unfold sgn; simp] at HF
    clear hr hb hk2
    go_wp2_with fail
    exact bodyPost_ret (v := .agg #[.bool d1, .slice A2 n2 k2]) (by simp [results, Tryz.results38, go_sem, c0, c1]) rfl HF.out
set_option maxHeartbeats 1000000 in
theorem ineg_any (z : Int) (v : Value) (w : World) (h : RepI w w.heap.size z v) (N : Nat) (hN : N ≤ 1000000) (hz : (z.natAbs : Int) < 4294967296 ^ N) :
    Calls Tryz.prog 73 #[v] w (NewI (-z) w) := by
  obtain ⟨A, n, c, zs, rfl, hr⟩ := h
  obtain ⟨b, hb⟩ : ∃ b, b = decide (z < 0) := ⟨_, rfl⟩
  rw [← hb]
  have hn := hr.len_le hz
  obtain ⟨W2, hW2, hB2, hS2, p1, p2⟩ := boxes2 w 34 (.bool b) (.slice A n c) (.bool false) (.slice none 0 0)
  have HW := Lib.hid hW2
  have HR := Lib.hid hr
  have HR2 := Lib.hid ((hr.below hB2).more hB2.size)
  have HB := Lib.hid hB2
  have HP2 := Lib.hid p2
  have HZ := Lib.hid (show sgn (!b) (z.natAbs : Int) = -z from by
    rw [hb]
    by_cases h : z < 0
    · rw [decide_eq_true h]; show (z.natAbs : Int) = -z; omega
    · rw [decide_eq_false h]; show -(z.natAbs : Int) = -z; omega)
  have g0 := p1.c0
  have g1 := p1.c1
  clear hW2 hr hb hB2 hS2 p1 p2 hz
  go_enter Tryz.func73, Tryz.ntmps73
  go_wp2_with fail
  rw [← HW.out]
  clear HW
  go_region_held3 (fun w' => w'.cell? ⟨w.heap.size, 0, none⟩ = some (.bool b) ∧ w'.cell? ⟨w.heap.size, 1, none⟩ = some (.slice A n c))
    (exact ⟨by first | assumption | (simp only [World.cell?_drew]; assumption) | exact cell_set2 (by assumption) (by omega), by first | assumption | (simp only [World.cell?_drew]; assumption) | exact cell_set2 (by assumption) (by omega)⟩)
    (first
      | (go_at_call 106
         refine (clone_any A n c _ _ (by exact HR2.out.1) HR2.out.2.2.2.1 HR2.out.2.1 (by omega)).mono ?_
         rintro e w3 h3
         obtain ⟨A3, n3, c3, ys3, rfl, r3, b3⟩ := h3.new HR.out.2.2.2.2.1 HR.out.2.2.2.2.2.1 HR.out.2.2.2.2.2.2
         have b3 : Below W2.heap.size W2 w3 := by first | exact b3 | exact below_undrew b3
         have HR3 := Lib.hid r3
         have HP3 := Lib.hid (HP2.out.below b3)
         have HB3 := Lib.hid (HB.out.trans (b3.mono HB.out.size))
         have k0 := cell_below g0 b3
         have k1 := cell_below g1 b3
         clear b3 r3 h3)
      | (go_at_call 75
         refine (signed_any (!b) _ A3 n3 c3 ys3 _ (by exact HR3.out)).mono ?_
         rintro e w4 h4
         obtain ⟨v4, rfl, r4, b4⟩ := h4
         obtain ⟨d4, A4, n4, q4, rfl⟩ := r4.shape
         have b4 : Below w3.heap.size w3 w4 := by first | exact b4 | exact below_undrew b4
         have hk4 := HP3.out.below b4
         have hb4 := HB3.out.trans (b4.mono HB3.out.size)
         have j0 := cell_below k0 b4
         have j1 := cell_below k1 b4
         have c0 := hk4.c0
         have c1 := hk4.c1
         have f0 := hk4.f0
         have f1 := hk4.f1
         have HF := Lib.hid (newI_ret r4 hk4 hb4 (by omega))
         clear hk4 hb4 r4 b4))
  go_wp2_with fail
  exact bodyPost_ret (v := .agg #[.bool d4, .slice A4 n4 q4]) (by simp [results, Tryz.results73, go_sem, c0, c1]) rfl (by have h := HF.out; rw [HZ.out] at h; exact h)
end Go.Proofs.YtocooajlfpngdaaGreatDoor
