/- Contracts of package wide's numbers: gcd. -/
import Derived.Test.YtpilpceclmppgaaDoorNatJ
import Derived.Deep.DeepCutAuto
import Derived.BigQuiet
namespace Go.Proofs.YtpilpceclmppgaaDoor
open Go.RowKit
set_option linter.unusedVariables false

theorem NatR.nonneg {w : World} {B n c : Nat} {x : Int} {A : Option Addr} {zs : List Int} (h : NatR w B x A n c zs) : 0 ≤ x := by
  rw [← h.2.2.2.2.2.2]; exact dv_nonneg (by omega) h.2.2.2.2.1
theorem NatR.len_le {w : World} {B n c N : Nat} {x : Int} {A : Option Addr} {zs : List Int} (h : NatR w B x A n c zs) (hx : x < 4294967296 ^ N) : n ≤ N := by
  have e := can_digs (show (1 : Int) < 4294967296 by omega) h.2.2.2.2.1 h.2.2.2.2.2.1
  have h1 := digs_len (show (1 : Int) < 4294967296 by omega) h.nonneg hx
  rw [h.2.2.2.2.2.2] at e
  rw [← e, h.1.len] at h1
  exact h1
theorem NatR.lt {w : World} {B n c : Nat} {x : Int} {A : Option Addr} {zs : List Int} (h : NatR w B x A n c zs) : x < 4294967296 ^ n := by
  have h1 := dv_lt (show (0 : Int) < 4294967296 by omega) h.2.2.2.2.1
  rwa [h.2.2.2.2.2.2, h.1.len] at h1
theorem NatR.zero {w : World} {B n c : Nat} {x : Int} {A : Option Addr} {zs : List Int} (h : NatR w B x A n c zs) : n = 0 ↔ x = 0 := by
  constructor
  · rintro rfl
    have e1 : zs = [] := List.length_eq_zero_iff.1 h.1.len
    have e2 := h.2.2.2.2.2.2
    rw [e1] at e2
    exact e2.symm
  · intro h0
    have := h.len_le (N := 0) (by rw [h0]; decide)
    omega
theorem NatR.word {w : World} {B n c : Nat} {x : Int} {A : Option Addr} {zs : List Int} (h : NatR w B x A n c zs) (hn : n ≤ 2) : zs[0]?.getD 0 + 4294967296 * zs[1]?.getD 0 = x := by
  have hl := h.1.len
  rw [← h.2.2.2.2.2.2]
  match zs, hl with
  | [], _ => rfl
  | [a], _ => show a + 4294967296 * 0 = a + 4294967296 * 0; rfl
  | [a, b], _ => show a + 4294967296 * b = a + 4294967296 * (b + 4294967296 * 0); omega
  | a :: b :: c :: t, hl => simp at hl; omega
/-- both numbers of the greatest common divisor's loop -/
def GcdU (w : World) (N D : Nat) (X g : Nat) (v u : Value) (wr : World) : Prop :=
  ∃ A n c zs E m f ys, v = .slice A n c ∧ u = .slice E m f ∧ NatR wr wr.heap.size (X : Int) A n c zs ∧ NatR wr wr.heap.size (g : Int) E m f ys ∧ (X : Int) < 4294967296 ^ N ∧ (g : Int) < 4294967296 ^ N ∧ Nat.gcd X g = D ∧ Below w.heap.size w wr
theorem gcd_step (X g : Nat) : Nat.gcd g (X % g) = Nat.gcd X g := by rw [Nat.gcd_comm g (X % g), ← Nat.gcd_rec, Nat.gcd_comm]
set_option maxRecDepth 100000 in
set_option maxHeartbeats 1000000 in
theorem ngcd_any (N : Nat) (x y : Nat) (A E : Option Addr) (n c m f : Nat) (zs ys : List Int) (w : World) (h : NatR w w.heap.size (x : Int) A n c zs) (k : NatR w w.heap.size (y : Int) E m f ys) (hn : n ≤ N) (hm : m ≤ N) (hN : N ≤ 40000) :
    Calls Tryd.prog 67 #[.slice A n c, .slice E m f] w (NewU (Nat.gcd x y : Int) w) := by
  obtain ⟨D, hD⟩ : ∃ D, D = Nat.gcd x y := ⟨_, rfl⟩
  rw [← hD]
  have HS := Lib.hid (show GcdU w N D x y (.slice A n c) (.slice E m f) w from ⟨_, _, _, _, _, _, _, _, rfl, rfl, h, k, Int.lt_of_lt_of_le h.lt (pow_mono' (by omega) hn), Int.lt_of_lt_of_le k.lt (pow_mono' (by omega) hm), hD.symm, Below.refl _ _⟩)
  clear h k hD hn hm
  go_enter Tryd.func67, Tryd.ntmps67
  go_wp2_with fail
  go_loopg [0, 1] y (fun g v u wr => ∃ X : Nat, Hid (GcdU w N D X g v u wr))
  case atStart => exact ⟨x, HS.out⟩
  case round =>
    clear HS
    obtain ⟨X, HS⟩ := hrel
    obtain ⟨A', n', c', zs', E', m', f', ys', rfl, rfl, hx, hy, bx, bg, hD, hB⟩ := HS.out
    have hnN := hx.len_le bx
    have hmN := hy.len_le bg
    have HX := Lib.hid hx
    have HY := Lib.hid hy
    have HB := Lib.hid hB
    have HD := Lib.hid hD
    have HBX := Lib.hid (And.intro bx bg)
    clear hx hy hB hD HS bx bg
    rcases Nat.eq_zero_or_pos m' with rfl | hm0
    · obtain rfl : gk = 0 := by have := HY.out.zero.1 rfl; omega
      obtain rfl : X = D := by rw [← HD.out, Nat.gcd_zero_right]
      have HC := Lib.hid (clone_any A' n' c' zs' wr HX.out.1 HX.out.2.2.2.1 HX.out.2.1 (by omega))
      go_wp2_with fail
      refine HC.out.mono ?_
      rintro e w2 h2
      obtain ⟨A2, n2, c2, zs2, rfl, hr2, hb2⟩ := h2.new HX.out.2.2.2.2.1 HX.out.2.2.2.2.2.1 HX.out.2.2.2.2.2.2
      have HF := Lib.hid (show NewU (X : Int) w (.returned (.slice A2 n2 c2)) w2 from ⟨_, _, _, _, rfl, hr2, HB.out.trans (hb2.mono HB.out.size)⟩)
      clear h2 hr2 hb2
      go_wp2_with fail
      go_ret
      exact HF.out
    · have hm0' : ((m' : Int) == 0) = false := by rw [beq_eq_false_iff_ne]; omega
      have hg0 : 0 < gk := by
        rcases Nat.eq_zero_or_pos gk with rfl | h0
        · have := HY.out.zero.2 rfl; omega
        · exact h0
      have HDV := Lib.hid (ndiv_any (X : Int) (gk : Int) A' E' n' c' m' f' zs' ys' wr HX.out HY.out (by omega) (by omega) (by omega))
      have HW1 := Lib.hid (fun h2 : n' ≤ 2 => word_any A' n' c' zs' wr HX.out.1 HX.out.2.2.2.2.1 (by omega))
      have HW2 := Lib.hid (fun h2 : m' ≤ 2 => word_any E' m' f' ys' wr HY.out.1 HY.out.2.2.2.2.1 (by omega))
      by_cases hnm : (n' : Int) < (m' : Int)
      · by_cases hbig : (2 : Int) < (m' : Int)
        · go_wp2_with fail
          refine HDV.out.mono ?_
          rintro e w2 ⟨A2, n2, c2, zs2, E2, m2, f2, ys2, rfl, _, hr2, hb2⟩
          have HS2 := Lib.hid (show GcdU w N D gk (X % gk) (.slice E' m' f') (.slice E2 m2 f2) w2 from ⟨_, _, _, _, _, _, _, _, rfl, rfl, (HY.out.below hb2).more hb2.size, by have h := hr2; rwa [← Int.natCast_emod] at h, HBX.out.2, by
            have h1 := Nat.mod_lt X hg0
            have h2 := HBX.out.2
            have h3 : ((X % gk : Nat) : Int) < (gk : Int) := by omega
            exact Int.lt_trans h3 h2, by rw [gcd_step]; exact HD.out, HB.out.trans (hb2.mono HB.out.size)⟩)
          clear hr2 hb2
          go_wp2_with fail
          go_roundg (X % gk)
          case measure => exact Nat.mod_lt X hg0
          case rel => exact ⟨gk, HS2.out⟩
        · obtain ⟨hn2, hm2⟩ : n' ≤ 2 ∧ m' ≤ 2 := by omega
          have hw1 := HW1.out hn2
          have hw2 := HW2.out hm2
          rw [HX.out.word hn2] at hw1
          rw [HY.out.word hm2] at hw2
          have HX1 := Lib.hid hw1
          have HY1 := Lib.hid hw2
          have hX64 : (X : Int) ≤ 18446744073709551615 := by
            have h1 := HX.out.lt
            have h2 := pow_mono' (show (0 : Int) < 4294967296 by omega) hn2
            have h3 : (4294967296 : Int) ^ 2 = 18446744073709551616 := by decide +kernel
            omega
          have hg64 : (gk : Int) ≤ 18446744073709551615 := by
            have h1 := HY.out.lt
            have h2 := pow_mono' (show (0 : Int) < 4294967296 by omega) hm2
            have h3 : (4294967296 : Int) ^ 2 = 18446744073709551616 := by decide +kernel
            omega
          clear hw1 hw2 HW1 HW2 HDV HX HY HBX
          go_wp2_with fail
          refine HX1.out.mono ?_
          rintro e w1 ⟨rfl, rfl⟩
          go_wp2_with fail
          refine HY1.out.mono ?_
          rintro e w1 ⟨rfl, rfl⟩
          go_wp2_with fail
          go_loopg [7, 8] gk (fun g v u wq => ∃ X' q : Nat, v = .int .u64 (X' : Int) ∧ u = .int .u64 (g : Int) ∧ (X' : Int) ≤ 18446744073709551615 ∧ (g : Int) ≤ 18446744073709551615 ∧ Hid (Nat.gcd X' g = D) ∧ wq = wr.drewN q)
          case atStart => exact ⟨X, 0, rfl, rfl, hX64, hg64, HD.out, rfl⟩
          case round =>
            clear HD HX1 HY1 hX64 hg64
            obtain ⟨X', q, rfl, rfl, hX', hg', HD', rfl⟩ := hrel
            rcases Nat.eq_zero_or_pos gk with rfl | hk0
            · obtain rfl : X' = D := by rw [← HD'.out, Nat.gcd_zero_right]
              have HFW := Lib.hid (fromWord_any (X' : Int) (wr.drewN q) (by omega) hX')
              go_wp2_with fail
              refine HFW.out.mono ?_
              rintro e w2 ⟨A2, n2, c2, zs2, rfl, hr2, hb2⟩
              have HF := Lib.hid (show NewU (X' : Int) w (.returned (.slice A2 n2 c2)) w2 from ⟨_, _, _, _, rfl, hr2, HB.out.trans (Below.mono ⟨hb2.os, hb2.tape, hb2.output, hb2.size, hb2.block⟩ HB.out.size)⟩)
              clear hr2 hb2
              go_wp2_with fail
              go_ret
              exact HF.out
            · have htm : (X' : Int).tmod (gk : Int) = ((X' % gk : Nat) : Int) := by rw [Int.tmod_eq_emod_of_nonneg (by omega)]; exact (Int.natCast_emod _ _).symm
              have hd0 : ((gk : Int) == 0) = false := by rw [beq_eq_false_iff_ne]; omega
              have hk0' : (0 : Int) < (gk : Int) := by omega
              have hlt := Nat.mod_lt X' hk0
              have HD2 := Lib.hid (show Nat.gcd gk (X' % gk) = D from by rw [gcd_step]; exact HD'.out)
              have hmd : ((X' % gk : Nat) : Int) ≤ 18446744073709551615 := by omega
              have hmw : IntKind.u64.wrap ((X' % gk : Nat) : Int) = ((X' % gk : Nat) : Int) := IntWalk.u64_in _ (by omega)
              go_upto_region 8 with (fail)
              go_quiet (fail)
              go_wp2_with fail
              go_roundg (X' % gk)
              case measure => exact hlt
              case rel => exact ⟨gk, q + nq, rfl, by rw [Int.natCast_emod], hg', hmd, HD2.out, by simp [World.drewN, Nat.add_assoc]⟩
      · by_cases hbig : (2 : Int) < (n' : Int)
        · go_wp2_with fail
          refine HDV.out.mono ?_
          rintro e w2 ⟨A2, n2, c2, zs2, E2, m2, f2, ys2, rfl, _, hr2, hb2⟩
          have HS2 := Lib.hid (show GcdU w N D gk (X % gk) (.slice E' m' f') (.slice E2 m2 f2) w2 from ⟨_, _, _, _, _, _, _, _, rfl, rfl, (HY.out.below hb2).more hb2.size, by have h := hr2; rwa [← Int.natCast_emod] at h, HBX.out.2, by
            have h1 := Nat.mod_lt X hg0
            have h2 := HBX.out.2
            have h3 : ((X % gk : Nat) : Int) < (gk : Int) := by omega
            exact Int.lt_trans h3 h2, by rw [gcd_step]; exact HD.out, HB.out.trans (hb2.mono HB.out.size)⟩)
          clear hr2 hb2
          go_wp2_with fail
          go_roundg (X % gk)
          case measure => exact Nat.mod_lt X hg0
          case rel => exact ⟨gk, HS2.out⟩
        · obtain ⟨hn2, hm2⟩ : n' ≤ 2 ∧ m' ≤ 2 := by omega
          have hw1 := HW1.out hn2
          have hw2 := HW2.out hm2
          rw [HX.out.word hn2] at hw1
          rw [HY.out.word hm2] at hw2
          have HX1 := Lib.hid hw1
          have HY1 := Lib.hid hw2
          have hX64 : (X : Int) ≤ 18446744073709551615 := by
            have h1 := HX.out.lt
            have h2 := pow_mono' (show (0 : Int) < 4294967296 by omega) hn2
            have h3 : (4294967296 : Int) ^ 2 = 18446744073709551616 := by decide +kernel
            omega
          have hg64 : (gk : Int) ≤ 18446744073709551615 := by
            have h1 := HY.out.lt
            have h2 := pow_mono' (show (0 : Int) < 4294967296 by omega) hm2
            have h3 : (4294967296 : Int) ^ 2 = 18446744073709551616 := by decide +kernel
            omega
          clear hw1 hw2 HW1 HW2 HDV HX HY HBX
          go_wp2_with fail
          refine HX1.out.mono ?_
          rintro e w1 ⟨rfl, rfl⟩
          go_wp2_with fail
          refine HY1.out.mono ?_
          rintro e w1 ⟨rfl, rfl⟩
          go_wp2_with fail
          go_loopg [7, 8] gk (fun g v u wq => ∃ X' q : Nat, v = .int .u64 (X' : Int) ∧ u = .int .u64 (g : Int) ∧ (X' : Int) ≤ 18446744073709551615 ∧ (g : Int) ≤ 18446744073709551615 ∧ Hid (Nat.gcd X' g = D) ∧ wq = wr.drewN q)
          case atStart => exact ⟨X, 0, rfl, rfl, hX64, hg64, HD.out, rfl⟩
          case round =>
            clear HD HX1 HY1 hX64 hg64
            obtain ⟨X', q, rfl, rfl, hX', hg', HD', rfl⟩ := hrel
            rcases Nat.eq_zero_or_pos gk with rfl | hk0
            · obtain rfl : X' = D := by rw [← HD'.out, Nat.gcd_zero_right]
              have HFW := Lib.hid (fromWord_any (X' : Int) (wr.drewN q) (by omega) hX')
              go_wp2_with fail
              refine HFW.out.mono ?_
              rintro e w2 ⟨A2, n2, c2, zs2, rfl, hr2, hb2⟩
              have HF := Lib.hid (show NewU (X' : Int) w (.returned (.slice A2 n2 c2)) w2 from ⟨_, _, _, _, rfl, hr2, HB.out.trans (Below.mono ⟨hb2.os, hb2.tape, hb2.output, hb2.size, hb2.block⟩ HB.out.size)⟩)
              clear hr2 hb2
              go_wp2_with fail
              go_ret
              exact HF.out
            · have htm : (X' : Int).tmod (gk : Int) = ((X' % gk : Nat) : Int) := by rw [Int.tmod_eq_emod_of_nonneg (by omega)]; exact (Int.natCast_emod _ _).symm
              have hd0 : ((gk : Int) == 0) = false := by rw [beq_eq_false_iff_ne]; omega
              have hk0' : (0 : Int) < (gk : Int) := by omega
              have hlt := Nat.mod_lt X' hk0
              have HD2 := Lib.hid (show Nat.gcd gk (X' % gk) = D from by rw [gcd_step]; exact HD'.out)
              have hmd : ((X' % gk : Nat) : Int) ≤ 18446744073709551615 := by omega
              have hmw : IntKind.u64.wrap ((X' % gk : Nat) : Int) = ((X' % gk : Nat) : Int) := IntWalk.u64_in _ (by omega)
              go_upto_region 8 with (fail)
              go_quiet (fail)
              go_wp2_with fail
              go_roundg (X' % gk)
              case measure => exact hlt
              case rel => exact ⟨gk, q + nq, rfl, by rw [Int.natCast_emod], hg', hmd, HD2.out, by simp [World.drewN, Nat.add_assoc]⟩
end Go.Proofs.YtpilpceclmppgaaDoor
