/- Contracts of package wide's numbers: divide. -/
import Derived.Test.YtpilpceclmppgaaDoorNatG
import Derived.Test.YtpilpceclmppgaaDoorNatH
import Derived.Test.YtpilpceclmppgaaDoorShelf
import Derived.Lib.ItoaNum
import Derived.Deep.LoopGhost
namespace Go.Proofs.YtpilpceclmppgaaDoor
open Go.RowKit
set_option linter.unusedVariables false

theorem factor_bd (t : Int) (h0 : 0 < t) (h1 : t < 4294967296) : ∃ k : Nat, 32 - (Lib.bitLen t.toNat : Int) = (k : Int) ∧ k < 32 ∧ (0 : Int) < 2 ^ k ∧ (2 : Int) ^ k < 4294967296 ∧ (t + 1) * 2 ^ k ≤ 4294967296 := by
  have hb := Lib.bitLenAux_bounds 64 t.toNat (by omega) (by omega)
  have he : Lib.bitLen t.toNat = Lib.bitLenAux 64 t.toNat := rfl
  rw [← he] at hb
  obtain ⟨b1, b2, b3⟩ := hb
  have hle : Lib.bitLen t.toNat ≤ 32 := Lib.bitLen_le t.toNat 32 (by omega) (by omega)
  refine ⟨32 - Lib.bitLen t.toNat, by omega, by omega, pow_pos' (by omega) _, ?_, ?_⟩
  · have : (2 : Int) ^ (32 - Lib.bitLen t.toNat) ≤ 2 ^ 31 := pow_mono' (by omega) (by omega)
    have e : (2 : Int) ^ 31 = 2147483648 := by decide +kernel
    omega
  · have h2 : t + 1 ≤ 2 ^ Lib.bitLen t.toNat := by
      have : ((t.toNat + 1 : Nat) : Int) ≤ ((2 ^ Lib.bitLen t.toNat : Nat) : Int) := by exact_mod_cast b3
      rw [Int.natCast_pow] at this
      have e : ((2 : Nat) : Int) = 2 := rfl
      rw [e] at this
      omega
    have h3 := Int.mul_le_mul_of_nonneg_right h2 (Int.le_of_lt (pow_pos' (show (0 : Int) < 2 by omega) (32 - Lib.bitLen t.toNat)))
    rw [← Int.pow_add, show Lib.bitLen t.toNat + (32 - Lib.bitLen t.toNat) = 32 by omega] at h3
    have e : (2 : Int) ^ 32 = 4294967296 := by decide +kernel
    omega
theorem lz_any (t : Int) (k : Nat) (w : World) (h0 : 0 ≤ t) (h1 : t ≤ 4294967295) (hk : 32 - (Lib.bitLen t.toNat : Int) = (k : Int)) : Calls Tryd.prog 78 #[.int .u32 t] w fun e w' => e = .returned (.int .i64 (k : Int)) ∧ w = w' := by
  refine (Tryd.bits_LeadingZeros32 t w h0 h1).mono ?_
  rintro e w' ⟨rfl, rfl⟩
  exact ⟨by rw [hk], rfl⟩
theorem nat_one (w : World) (F : Int) (h0 : 0 < F) (h1 : F < 4294967296) : NatR (w.alloc (.cells #[.int .u32 F] 94)) (w.alloc (.cells #[.int .u32 F] 94)).heap.size F (some ⟨w.heap.size, 0, none⟩) 1 1 [F] := by
  refine ⟨⟨rfl, .inr ⟨w.heap.size, 0, rfl, (Box1.new w _ _).lt, fun j hj => ?_⟩⟩, Nat.le_refl _, by unfold maxLen; omega, (by intro h; cases h), fun d hd => ?_, ?_, ?_⟩
  · obtain rfl : j = 0 := by omega
    exact (Box1.new w _ _).c0
  · rw [List.mem_singleton.1 hd]; omega
  · intro h; simp at h; omega
  · show F + 4294967296 * 0 = F; omega
/-- both results of a division -/
def DivU (q r : Int) (w : World) (e : Ending) (w' : World) : Prop :=
  ∃ A n c zs E m f ys, e = .returned (.tuple #[.slice A n c, .slice E m f]) ∧ NatR w' w'.heap.size q A n c zs ∧ NatR w' w'.heap.size r E m f ys ∧ Below w.heap.size w w'
set_option maxRecDepth 100000 in
set_option maxHeartbeats 1000000 in
theorem ndiv_small (x y : Int) (A E : Option Addr) (n c m f : Nat) (zs ys : List Int) (w : World) (h : NatR w w.heap.size x A n c zs) (k : NatR w w.heap.size y E m f ys) (hn : n ≤ 40000) (hm : m ≤ 40000) (hx : x < y) :
    Calls Tryd.prog 64 #[.slice A n c, .slice E m f] w (DivU (x / y) (x % y) w) := by
  have HC := Lib.hid (ncompare_any x y A E n c m f zs ys w h k (by omega) (by omega))
  have H := Lib.hid h
  have hx0 : 0 ≤ x := by rw [← h.2.2.2.2.2.2]; exact dv_nonneg (by omega) h.2.2.2.2.1
  have hr : cmpI' x y = -1 := if_pos hx
  rw [hr] at HC
  rw [Int.ediv_eq_zero_of_lt hx0 hx, Int.emod_eq_of_lt hx0 hx]
  clear h k hr
  go_enter Tryd.func64, Tryd.ntmps64
  go_wp2_with fail
  go_step3
  go_wp2_with fail
  refine HC.out.mono ?_
  rintro e w1 ⟨rfl, q, rfl⟩
  go_wp2_with fail
  refine (clone_any A n c zs (w.drewN q) H.out.1 H.out.2.2.2.1 H.out.2.1 (by omega)).mono ?_
  rintro e w2 h2
  obtain ⟨A2, n2, c2, zs2, rfl, hr2, hb2⟩ := h2.new H.out.2.2.2.2.1 H.out.2.2.2.2.2.1 H.out.2.2.2.2.2.2
  have HF := Lib.hid (show DivU 0 x w (.returned (.tuple #[.slice none 0 0, .slice A2 n2 c2])) w2 from ⟨_, _, _, _, _, _, _, _, rfl, ⟨Sl.nil _ _ _ _, Nat.le_refl _, Nat.zero_le _, fun _ => rfl, Dig.nil, (fun h => by cases h), rfl⟩, hr2, ⟨hb2.os, hb2.tape, hb2.output, hb2.size, hb2.block⟩⟩)
  clear h2 hr2 hb2
  go_wp2_with fail
  refine bodyPost_ret (results_tmp2 rfl _ _ _) rfl ?_
  exact HF.out
theorem SubI.all {off : Nat} {f cy bo : Int} {ys L0 L : List Int} {p : Nat} (h : SubI off f ys L0 p cy bo L) (hp : p = ys.length + 1) (hf : 0 ≤ f ∧ f < 4294967296) (hy : Dig 4294967296 ys) :
    cy = 0 ∧ dv 4294967296 L = dv 4294967296 L0 - 4294967296 ^ off * (f * dv 4294967296 ys) + 4294967296 ^ (off + (ys.length + 1)) * bo := by
  subst hp
  obtain ⟨_, _, hc, _, _, e, _⟩ := h
  rw [List.take_of_length_le (by omega)] at hc e
  have hyl := dv_lt (show (0 : Int) < 4294967296 by omega) hy
  have hy0 := dv_nonneg (show (0 : Int) < 4294967296 by omega) hy
  have h0 : 0 ≤ f * dv 4294967296 ys := Int.mul_nonneg hf.1 hy0
  have h1 : f * dv 4294967296 ys < 4294967296 ^ (ys.length + 1) := by
    have h2 := Int.mul_le_mul_of_nonneg_right (Int.le_of_lt hf.2) hy0
    have h3 := Int.mul_lt_mul_of_pos_left hyl (show (0 : Int) < 4294967296 by omega)
    rw [Int.pow_succ, Int.mul_comm ((4294967296 : Int) ^ ys.length)]
    omega
  rw [Int.ediv_eq_zero_of_lt h0 h1] at hc
  refine ⟨hc, ?_⟩
  rw [e, hc, Int.zero_add]
/-- the memory of a division: the rest's row, the quotient's row, the divisor -/
def DivW (w : World) (gr gq : Nat) (D : Option Addr) (l : Nat) (ds L K : List Int) (wr : World) : Prop :=
  RowW .u32 wr gr 94 L ∧ RowW .u32 wr gq 94 K ∧ Sl .u32 wr gr D l ds ∧ Below w.heap.size w wr
theorem DivW.set_ {w : World} {gr gq : Nat} {D : Option Addr} {l : Nat} {ds L K : List Int} {wr : World} (h : DivW w gr gq D l ds L K wr) (hg : w.heap.size ≤ gr) (hgq : gr < gq) (i : Nat) (hi : i < K.length) (v : Int) : DivW w gr gq D l ds L (K.set i v) (wr.setCell ⟨gq, i, none⟩ (.int .u32 v)) :=
  ⟨h.1.far (p := ⟨gq, i, none⟩) (by show gr ≠ gq; omega) _, h.2.1.set_ i hi v, h.2.2.1.below ((Below.refl _ _).setCell (p := ⟨gq, i, none⟩) (by show gr ≤ gq; omega) _), h.2.2.2.setCell (p := ⟨gq, i, none⟩) (by show w.heap.size ≤ gq; omega) _⟩
theorem DivW.grown {w : World} {gr gq : Nat} {D : Option Addr} {l : Nat} {ds L L' K : List Int} {wr w2 : World} (h : DivW w gr gq D l ds L K wr) (hg : w.heap.size ≤ gr) (hgq : gr < gq) (hR : RowW .u32 w2 gr 94 L') (hb : wr.grownBy w2 (some gr)) : DivW w gr gq D l ds L' K w2 :=
  ⟨hR, h.2.1.grown hb (by intro e; injection e; omega), h.2.2.1.below ((Below.refl _ _).grown hb (by have := h.1.lt; omega) (fun k hk => by cases hk; exact Nat.le_refl _)), h.2.2.2.grown hb (Nat.le_trans (Nat.le_refl _) h.2.2.2.size) (fun k hk => by cases hk; exact hg)⟩
end Go.Proofs.YtpilpceclmppgaaDoor
