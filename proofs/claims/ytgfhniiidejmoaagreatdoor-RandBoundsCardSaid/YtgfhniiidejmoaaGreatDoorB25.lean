/- Contracts of package wide's numbers: divide. · Contracts of package wide's numbers: divide, the long way. -/
import Derived.Test.YtgfhniiidejmoaaGreatDoorB23
import Derived.Test.YtgfhniiidejmoaaGreatDoorB14
import Derived.Test.YtgfhniiidejmoaaGreatDoorB24
import Derived.Lib.ItoaNum
import Derived.Deep.LoopGhost
namespace Go.Proofs.YtgfhniiidejmoaaGreatDoor
open Go.RowKit
set_option linter.unusedVariables false

theorem factor_bd (t : Int) (h0 : 0 < t) (h1 : t < 4294967296) : ∃ k : Nat, 32 - (Lib.bitLen t.toNat : Int) = (k : Int) ∧ k < 32 ∧ (0 : Int) < 2 ^ k ∧ (2 : Int) ^ k < 4294967296 ∧ (t + 1) * 2 ^ k ≤ 4294967296 := by
  have hb := Lib.bitLenAux_bounds 64 t.toNat (by omega) (by omega)
  have he : Lib.bitLen t.toNat = Lib.bitLenAux 64 t.toNat := rfl
  rw [← he] at hb
  obtain ⟨b1, b2, b3⟩ := hb
  have hle : Lib.bitLen t.toNat ≤ 32 := Lib.bitLen_le t.toNat 32 (by omega) (by omega)
  refine ⟨32 - Lib.bitLen t.toNat, by omega, by omega, pow_pos' (by omega) _, ?_, ?_⟩
  · have : (2 : Int) ^ (32 - Lib.bitLen t.toNat) ≤ 2 ^ 31 := pow_mono' (by omega) (by omega)
    have e : (2 : Int) ^ 31 = 2147483648 := by decide +kernel
    omega
  · have h2 : t + 1 ≤ 2 ^ Lib.bitLen t.toNat := by
      have : ((t.toNat + 1 : Nat) : Int) ≤ ((2 ^ Lib.bitLen t.toNat : Nat) : Int) := by exact_mod_cast b3
      rw [Int.natCast_pow] at this
      have e : ((2 : Nat) : Int) = 2 := rfl
      rw [e] at this
      omega
    have h3 := Int.mul_le_mul_of_nonneg_right h2 (Int.le_of_lt (pow_pos' (show (0 : Int) < 2 by omega) (32 - Lib.bitLen t.toNat)))
    rw [← Int.pow_add, show Lib.bitLen t.toNat + (32 - Lib.bitLen t.toNat) = 32 by omega] at h3
    have e : (2 : Int) ^ 32 = 4294967296 := by decide +kernel
    omega
theorem lz_any (t : Int) (k : Nat) (w : World) (h0 : 0 ≤ t) (h1 : t ≤ 4294967295) (hk : 32 - (Lib.bitLen t.toNat : Int) = (k : Int)) : Calls Tryz.prog 80 #[.int .u32 t] w fun e w' => e = .returned (.int .i64 (k : Int)) ∧ w = w' := by
  refine (Tryz.bits_LeadingZeros32 t w h0 h1).mono ?_
  rintro e w' ⟨rfl, rfl⟩
  exact ⟨by rw [hk], rfl⟩
theorem nat_one (w : World) (F : Int) (h0 : 0 < F) (h1 : F < 4294967296) : NatR (w.alloc (.cells #[.int .u32 F] 91)) (w.alloc (.cells #[.int .u32 F] 91)).heap.size F (some ⟨w.heap.size, 0, none⟩) 1 1 [F] := by
  refine ⟨⟨rfl, .inr ⟨w.heap.size, 0, rfl, (Box1.new w _ _).lt, fun j hj => ?_⟩⟩, Nat.le_refl _, by unfold maxLen; omega, (by intro h; cases h), fun d hd => ?_, ?_, ?_⟩
  · obtain rfl : j = 0 := by omega
    exact (Box1.new w _ _).c0
  · rw [List.mem_singleton.1 hd]; omega
  · intro h; simp at h; omega
  · show F + 4294967296 * 0 = F; omega
/-- both results of a division -/
def DivU (q r : Int) (w : World) (e : Ending) (w' : World) : Prop :=
  ∃ A n c zs E m f ys, e = .returned (.tuple #[.slice A n c, .slice E m f]) ∧ NatR w' w'.heap.size q A n c zs ∧ NatR w' w'.heap.size r E m f ys ∧ Below w.heap.size w w'
set_option maxRecDepth 100000 in
set_option maxHeartbeats 1000000 in
theorem ndiv_small (x y : Int) (A E : Option Addr) (n c m f : Nat) (zs ys : List Int) (w : World) (h : NatR w w.heap.size x A n c zs) (k : NatR w w.heap.size y E m f ys) (hn : n ≤ 40000) (hm : m ≤ 40000) (hx : x < y) :
    Calls Tryz.prog 53 #[.slice A n c, .slice E m f] w (DivU (x / y) (x % y) w) := by
  have HC := Lib.hid (ncompare_any x y A E n c m f zs ys w h k (by omega) (by omega))
  have H := Lib.hid h
  have hx0 : 0 ≤ x := by rw [← h.2.2.2.2.2.2]; exact dv_nonneg (by omega) h.2.2.2.2.1
  have hr : cmpI' x y = -1 := if_pos hx
  rw [hr] at HC
  rw [Int.ediv_eq_zero_of_lt hx0 hx, Int.emod_eq_of_lt hx0 hx]
  clear h k hr
  go_enter Tryz.func53, Tryz.ntmps53
  go_wp2_with fail
  go_step3
  go_wp2_with fail
  refine HC.out.mono ?_
  rintro e w1 ⟨rfl, q, rfl⟩
  go_wp2_with fail
  refine (clone_any A n c zs (w.drewN q) H.out.1 H.out.2.2.2.1 H.out.2.1 (by omega)).mono ?_
  rintro e w2 h2
  obtain ⟨A2, n2, c2, zs2, rfl, hr2, hb2⟩ := h2.new H.out.2.2.2.2.1 H.out.2.2.2.2.2.1 H.out.2.2.2.2.2.2
  have HF := Lib.hid (show DivU 0 x w (.returned (.tuple #[.slice none 0 0, .slice A2 n2 c2])) w2 from ⟨_, _, _, _, _, _, _, _, rfl, ⟨Sl.nil _ _ _ _, Nat.le_refl _, Nat.zero_le _, fun _ => rfl, Dig.nil, (fun h => by cases h), rfl⟩, hr2, ⟨hb2.os, hb2.tape, hb2.output, hb2.size, hb2.block⟩⟩)
  clear h2 hr2 hb2
  go_wp2_with fail
  refine bodyPost_ret (results_tmp2 rfl _ _ _) rfl ?_
  exact HF.out
theorem SubI.all {off : Nat} {f cy bo : Int} {ys L0 L : List Int} {p : Nat} (h : SubI off f ys L0 p cy bo L) (hp : p = ys.length + 1) (hf : 0 ≤ f ∧ f < 4294967296) (hy : Dig 4294967296 ys) :
    cy = 0 ∧ dv 4294967296 L = dv 4294967296 L0 - 4294967296 ^ off * (f * dv 4294967296 ys) + 4294967296 ^ (off + (ys.length + 1)) * bo := by
  subst hp
  obtain ⟨_, _, hc, _, _, e, _⟩ := h
  rw [List.take_of_length_le (by omega)] at hc e
  have hyl := dv_lt (show (0 : Int) < 4294967296 by omega) hy
  have hy0 := dv_nonneg (show (0 : Int) < 4294967296 by omega) hy
  have h0 : 0 ≤ f * dv 4294967296 ys := Int.mul_nonneg hf.1 hy0
  have h1 : f * dv 4294967296 ys < 4294967296 ^ (ys.length + 1) := by
    have h2 := Int.mul_le_mul_of_nonneg_right (Int.le_of_lt hf.2) hy0
    have h3 := Int.mul_lt_mul_of_pos_left hyl (show (0 : Int) < 4294967296 by omega)
    rw [Int.pow_succ, Int.mul_comm ((4294967296 : Int) ^ ys.length)]
    omega
  rw [Int.ediv_eq_zero_of_lt h0 h1] at hc
  refine ⟨hc, ?_⟩
  rw [e, hc, Int.zero_add]
/-- the memory of a division: the rest's row, the quotient's row, the divisor -/
def DivW (w : World) (gr gq : Nat) (D : Option Addr) (l : Nat) (ds L K : List Int) (wr : World) : Prop :=
  RowW .u32 wr gr 91 L ∧ RowW .u32 wr gq 91 K ∧ Sl .u32 wr gr D l ds ∧ Below w.heap.size w wr
theorem DivW.set_ {w : World} {gr gq : Nat} {D : Option Addr} {l : Nat} {ds L K : List Int} {wr : World} (h : DivW w gr gq D l ds L K wr) (hg : w.heap.size ≤ gr) (hgq : gr < gq) (i : Nat) (hi : i < K.length) (v : Int) : DivW w gr gq D l ds L (K.set i v) (wr.setCell ⟨gq, i, none⟩ (.int .u32 v)) :=
  ⟨h.1.far (p := ⟨gq, i, none⟩) (by show gr ≠ gq; omega) _, h.2.1.set_ i hi v, h.2.2.1.below ((Below.refl _ _).setCell (p := ⟨gq, i, none⟩) (by show gr ≤ gq; omega) _), h.2.2.2.setCell (p := ⟨gq, i, none⟩) (by show w.heap.size ≤ gq; omega) _⟩
theorem DivW.grown {w : World} {gr gq : Nat} {D : Option Addr} {l : Nat} {ds L L' K : List Int} {wr w2 : World} (h : DivW w gr gq D l ds L K wr) (hg : w.heap.size ≤ gr) (hgq : gr < gq) (hR : RowW .u32 w2 gr 91 L') (hb : wr.grownBy w2 (some gr)) : DivW w gr gq D l ds L' K w2 :=
  ⟨hR, h.2.1.grown hb (by intro e; injection e; omega), h.2.2.1.below ((Below.refl _ _).grown hb (by have := h.1.lt; omega) (fun k hk => by cases hk; exact Nat.le_refl _)), h.2.2.2.grown hb (Nat.le_trans (Nat.le_refl _) h.2.2.2.size) (fun k hk => by cases hk; exact hg)⟩
end Go.Proofs.YtgfhniiidejmoaaGreatDoor
namespace Go.Proofs.YtgfhniiidejmoaaGreatDoor
open Go.RowKit
set_option linter.unusedVariables false

theorem below_alloc_q (w : World) (q : Nat) (o : Obj) : Below w.heap.size w ((w.drewN q).alloc o) := (below_drewN (Below.refl _ w) q).alloc (Nat.le_refl _) o
set_option maxRecDepth 100000 in
set_option maxHeartbeats 1000000 in
theorem ndiv_big (x y : Int) (A E : Option Addr) (n c m f : Nat) (zs ys : List Int) (w : World) (h : NatR w w.heap.size x A n c zs) (k : NatR w w.heap.size y E m f ys) (hn : n ≤ 40000) (hm : m ≤ 40000) (hy0 : 0 < y) (hx : y ≤ x) :
    Calls Tryz.prog 53 #[.slice A n c, .slice E m f] w (DivU (x / y) (x % y) w) := by
  obtain ⟨i0, hi, hz0, hz1, hz2⟩ := info_parts u32_info
  have HC := Lib.hid (ncompare_any x y A E n c m f zs ys w h k (by omega) (by omega))
  have H := Lib.hid h
  have K := Lib.hid k
  obtain ⟨R, hR⟩ : ∃ R, R = cmpI' x y := ⟨_, rfl⟩
  rw [← hR] at HC
  have hR0 : ¬ R < 0 := by rw [hR, cmpI', if_neg (by omega)]; split <;> omega
  clear hR
  have hm0 : 0 < m := by
    rcases Nat.eq_zero_or_pos m with rfl | h0
    · have e1 : ys = [] := List.length_eq_zero_iff.1 k.1.len
      have e2 := k.2.2.2.2.2.2
      rw [e1] at e2
      have : (0 : Int) = y := e2
      omega
    · exact h0
  have hyl := k.1.len
  have ht0 : 0 < ys[m - 1]?.getD 0 ∧ ys[m - 1]?.getD 0 < 4294967296 := by
    have h1 := k.2.2.2.2.1.get (show (0 : Int) < 4294967296 by omega) (m - 1)
    have h2 := k.2.2.2.2.2.1
    refine ⟨?_, h1.2⟩
    rcases Int.lt_or_eq_of_le h1.1 with h3 | h3
    · exact h3
    · exfalso
      apply h2
      rw [List.getLast?_eq_getElem?, hyl, List.getElem?_eq_getElem (by omega)]
      rw [List.getElem?_eq_getElem (by omega)] at h3
      exact congrArg some h3.symm
  obtain ⟨b, off, rfl, hb, hcl⟩ := k.1.at_ hm0
  have hcell := hcl (m - 1) (by omega)
  obtain ⟨t, ht⟩ : ∃ t, t = ys[m - 1]?.getD 0 := ⟨_, rfl⟩
  rw [← ht] at ht0 hcell
  obtain ⟨ht0, ht1⟩ := ht0
  have HT := Lib.hid ht
  obtain ⟨kk, hk1, hk2, hk3, hk4, hk5⟩ := factor_bd t ht0 ht1
  obtain ⟨F, hF⟩ : ∃ F : Int, F = 2 ^ kk := ⟨_, rfl⟩
  have HLZ := Lib.hid (fun W => lz_any t kk W (by omega) (by omega) hk1)
  rw [← hF] at hk3 hk4 hk5
  have hsh : (2 : Int) ^ kk % 4294967296 = F := by rw [← hF]; exact Int.emod_eq_of_lt (by omega) hk4
  have e0 : IntKind.i64.wrap ((m : Int) - 1) = (m : Int) - 1 := IntWalk.i64_in _ (by omega)
  have e1 : ((m : Int) - 1).toNat = m - 1 := by omega
  have hZ := h.2.2.2.2
  have hY := k.2.2.2.2
  have hq : y * F < 4294967296 ^ m := by
    have h1 := top_part (show (1 : Int) < 4294967296 by omega) hY.1 (m - 1) (by omega)
    rw [hY.2.2] at h1
    have e2 : dv 4294967296 (ys.drop (m - 1)) = t := by
      rw [List.drop_eq_getElem_cons (by omega), show m - 1 + 1 = m by omega, List.drop_of_length_le (by omega)]
      show ys[m - 1] + 4294967296 * 0 = t
      rw [HT.out, List.getElem?_eq_getElem (by omega)]
      simp
    rw [e2] at h1
    have hp := pow_pos' (show (0 : Int) < 4294967296 by omega) (m - 1)
    have h3 := Int.mul_lt_mul_of_pos_right h1.2 hk3
    have h4 := Int.mul_le_mul_of_nonneg_right hk5 (Int.le_of_lt hp)
    have h5 : (t + 1) * 4294967296 ^ (m - 1) * F = (t + 1) * F * 4294967296 ^ (m - 1) := by grind
    have h6 : (4294967296 : Int) ^ m = 4294967296 * 4294967296 ^ (m - 1) := by
      have := Int.pow_succ (4294967296 : Int) (m - 1)
      rw [show (m - 1).succ = m by omega] at this
      rw [this, Int.mul_comm]
    omega
  have hmn : m ≤ n := by
    rcases Nat.lt_or_ge n m with h1 | h1
    · have := len_lt (show (1 : Int) < 4294967296 by omega) hZ.1 hY.1 hY.2.1 (by rw [h.1.len, hyl]; exact h1)
      rw [hZ.2.2, hY.2.2] at this
      omega
    · exact h1
  have hx0 : x * F < y * F * 4294967296 ^ (n - m + 1) := by
    have h1 := dv_lt (show (0 : Int) < 4294967296 by omega) hZ.1
    rw [hZ.2.2, h.1.len] at h1
    have h2 := top_ge (show (1 : Int) < 4294967296 by omega) hY.1 hY.2.1 (by intro e; rw [e] at hyl; simp at hyl; omega)
    rw [hY.2.2, hyl] at h2
    have h3 := Int.mul_le_mul_of_nonneg_right h2 (Int.le_of_lt (pow_pos' (show (0 : Int) < 4294967296 by omega) (n - m + 1)))
    rw [← Int.pow_add, show m - 1 + (n - m + 1) = n by omega] at h3
    have h4 := Int.mul_lt_mul_of_pos_right (show x < y * 4294967296 ^ (n - m + 1) by omega) hk3
    have h5 : y * 4294967296 ^ (n - m + 1) * F = y * F * 4294967296 ^ (n - m + 1) := by grind
    omega
  have hxn : x * F < 4294967296 ^ (n + 1) := by
    have h1 := dv_lt (show (0 : Int) < 4294967296 by omega) hZ.1
    rw [hZ.2.2, h.1.len] at h1
    have h2 := dv_nonneg (show (0 : Int) < 4294967296 by omega) hZ.1
    rw [hZ.2.2] at h2
    have h3 := Int.mul_lt_mul_of_pos_right h1 hk3
    have h4 := Int.mul_le_mul_of_nonneg_left (Int.le_of_lt hk4) (Int.le_of_lt (pow_pos' (show (0 : Int) < 4294967296 by omega) n))
    rw [Int.pow_succ]
    omega
  have hyF : 0 < y * F := Int.mul_pos hy0 hk3
  have HQ := Lib.hid (And.intro hq (And.intro hx0 hxn))
  clear h k hcl ht hyl hk1 hZ hY hq hx0 hxn hk5
  clear hF
  go_enter Tryz.func53, Tryz.ntmps53
  go_wp2_with fail
  go_step3
  go_wp2_with fail
  refine HC.out.mono ?_
  rintro e w1 ⟨rfl, q, rfl⟩
  have hal := below_alloc_q w q (.cells #[.int .u32 (F)] 91)
  have HMU := Lib.hid (nmul_any y (F) (some ⟨b, off, none⟩) (some ⟨w.heap.size, 0, none⟩) m f 1 1 ys [F] ((w.drewN q).alloc (.cells #[.int .u32 (F)] 91)) ((K.out.below hal).more hal.size) (nat_one (w.drewN q) (F) hk3 hk4) (by omega) (by omega))
  have HAL := Lib.hid hal
  clear hal
  go_wp2_with fail
  refine (HLZ.out _).mono ?_
  rintro e w1 ⟨rfl, rfl⟩
  go_wp2_with fail
  refine HMU.out.mono ?_
  rintro e w3 ⟨A3, l, c3, ds, rfl, hr3, hb3⟩
  have HR3 := Lib.hid hr3
  have HB3 := Lib.hid (HAL.out.trans (hb3.mono HAL.out.size))
  clear hr3 hb3 HMU HAL HLZ
  go_upto_region 6 with (at_make; refine wpList_make_full _ rfl _ _ _ rfl w3.heap.size 91 i0 _ 1 Tryz.underlying34 hi hz0 hz1 _ _ _ _ (n + 1) rfl rfl (by omega) (by omega) (by rw [hz2]; omega) (by unfold maxLen; omega) (Nat.le_refl _) ?_; intro w4 hown4 hg4)
  have hb4 : Below w3.heap.size w3 w4 := (Below.refl _ _).grown hg4 (Nat.le_refl _) (fun k hk => by cases hk)
  have hR4 : RowW .u32 w4 w3.heap.size 91 (List.replicate (n + 1) 0) := row_zeros hown4
  have HD := Lib.hid (show Sl .u32 w3 w3.heap.size A3 l ds ∧ l ≤ c3 ∧ c3 ≤ maxLen ∧ Dig 4294967296 ds ∧ Top ds ∧ dv 4294967296 ds = y * F from ⟨HR3.out.1, HR3.out.2.1, HR3.out.2.2.1, HR3.out.2.2.2.2.1, HR3.out.2.2.2.2.2.1, HR3.out.2.2.2.2.2.2⟩)
  have hDl := HD.out.1.len
  have hlm : l ≤ m := by
    rcases Nat.lt_or_ge m l with h1 | h1
    · have h2 := top_ge (show (1 : Int) < 4294967296 by omega) HD.out.2.2.2.1 HD.out.2.2.2.2.1 (by intro e; rw [e] at hDl; simp at hDl; omega)
      rw [HD.out.2.2.2.2.2, hDl] at h2
      have h3 := pow_mono' (show (0 : Int) < 4294967296 by omega) (show m ≤ l - 1 by omega)
      have := HQ.out.1
      omega
    · exact h1
  have hl0 : 0 < l := by
    rcases Nat.eq_zero_or_pos l with rfl | h0
    · have e1 : ds = [] := List.length_eq_zero_iff.1 hDl
      have e2 := HD.out.2.2.2.2.2
      rw [e1] at e2
      have : (0 : Int) = y * F := e2
      omega
    · exact h0
  have hd0 : 0 < ds[l - 1]?.getD 0 := by
    have h1 := HD.out.2.2.2.1.get (show (0 : Int) < 4294967296 by omega) (l - 1)
    have h2 := HD.out.2.2.2.2.1
    rcases Int.lt_or_eq_of_le h1.1 with h3 | h3
    · exact h3
    · exfalso
      apply h2
      rw [List.getLast?_eq_getElem?, hDl, List.getElem?_eq_getElem (by omega)]
      rw [List.getElem?_eq_getElem (by omega)] at h3
      exact congrArg some h3.symm
  have HD0 := Lib.hid hd0
  have HAT := Lib.hid (addTimes_any w3.heap.size 0 (n + 1) (n + 1) A n c (F) zs (List.replicate (n + 1) 0) w4 hR4 (by simp) ((((H.out.1).below HB3.out).below (hb4.mono HB3.out.size)).more HB3.out.size) (by omega) (by omega) H.out.2.2.2.2.1 (dig_zeros (by omega) _) ⟨by omega, hk4⟩)
  have HS4 := Lib.hid (show Sl .u32 w4 w3.heap.size A3 l ds from HD.out.1.below hb4)
  have HB4 := Lib.hid (HB3.out.trans (hb4.mono HB3.out.size))
  have hgw : w.heap.size ≤ w3.heap.size := HB3.out.size
  have HSZ := Lib.hid hb4.size
  clear hown4 hg4 hb4 hR4 HR3 hd0 K HB3
  go_wp2_with fail
  refine HAT.out.mono ?_
  rintro e w6 ⟨cy, L, rfl, hR6, hg6, hI6⟩
  have hL6 : L.length = n + 1 := by rw [hI6.1]; simp
  have hv6 : dv 4294967296 L = x * F := by
    have e := hI6.fits (by rw [H.out.1.len]; omega) (by simp) (by
      rw [dv_zeros, Int.zero_add, H.out.2.2.2.2.2.2, Int.mul_comm]
      exact HQ.out.2.2)
    rw [e, dv_zeros, Int.zero_add, H.out.2.2.2.2.2.2, Int.mul_comm]
  have HS6 := Lib.hid (show RowW .u32 w6 w3.heap.size 91 L ∧ Sl .u32 w6 w3.heap.size A3 l ds ∧ Below w.heap.size w w6 from ⟨hR6, HS4.out.below ((Below.refl _ _).grown hg6 HSZ.out (fun k hk => by cases hk; exact Nat.le_refl _)), HB4.out.grown hg6 HB4.out.size (fun k hk => by cases hk; exact hgw)⟩)
  have HL6 := Lib.hid hL6
  have HV6 := Lib.hid hv6
  have HDG := Lib.hid hI6.2.1
  clear hR6 hg6 hI6 hv6 hL6 HAT HS4 HB4
  have en : IntKind.i64.wrap ((n : Int) - (m : Int)) = (n : Int) - (m : Int) := IntWalk.i64_in _ (by omega)
  go_wp2_with (at_make; refine wpList_make_full _ rfl _ _ _ rfl w6.heap.size 91 i0 _ 1 Tryz.underlying34 hi hz0 hz1 _ _ _ _ (n - m + 1) rfl rfl (by omega) (by omega) (by rw [hz2]; omega) (by unfold maxLen; omega) (Nat.le_refl _) ?_; intro w7 hown7 hg7)
  have hb7 : Below w6.heap.size w6 w7 := (Below.refl _ _).grown hg7 (Nat.le_refl _) (fun k hk => by cases hk)
  have hlt67 : w3.heap.size < w6.heap.size := HS6.out.1.lt
  have HW7 := Lib.hid (show DivW w w3.heap.size w6.heap.size A3 l ds L (List.replicate (n - m + 1) 0) w7 from ⟨HS6.out.1.below hb7 hlt67, row_zeros hown7, HS6.out.2.1.below (hb7.mono (Nat.le_of_lt hlt67)), HS6.out.2.2.trans (hb7.mono HS6.out.2.2.size)⟩)
  have HI7 := Lib.hid (show DivS 4294967296 (x * F) (y * F) (n - m + 1) L (List.replicate (n - m + 1) 0) from ⟨HDG.out, dig_zeros (by omega) _, by rw [List.drop_of_length_le (by simp), show dv 4294967296 ([] : List Int) = 0 from rfl, Int.mul_zero, Int.mul_zero, Int.zero_add, HV6.out], by rw [HV6.out]; exact HQ.out.2.1⟩)
  clear hown7 hg7 hb7 HS6 HV6 HDG
  go_step3
  go_wp2_with fail
  go_loopg [8] (n - m + 1) (fun g s8 wr => ∃ L K : List Int, s8 = .int .i64 ((g : Int) - 1) ∧ g ≤ n - m + 1 ∧ L.length = n + 1 ∧ K.length = n - m + 1 ∧ Hid (DivS 4294967296 (x * F) (y * F) g L K) ∧ Hid (DivW w w3.heap.size w6.heap.size A3 l ds L K wr))
  case atStart => exact ⟨L, _, by go_num, Nat.le_refl _, HL6.out, by simp, HI7.out, HW7.out⟩
  case round =>
    clear HI7 HW7 HL6
    obtain ⟨L, K, rfl, hgk, hLl, hKl, HI, HW⟩ := hrel
    rcases gk with _ | i
    · have hd := HI.out
      have hend := div_end (x := x) (y := y) (F := F) (Q := dv 4294967296 K) (R := dv 4294967296 L) hy0 hk3 (by
        have e := hd.2.2.1
        rwa [List.drop_zero, Int.pow_zero, Int.one_mul] at e) (dv_nonneg (by omega) hd.1) (by
        have e := hd.2.2.2
        rwa [Int.pow_zero, Int.mul_one] at e)
      have HQT := Lib.hid (divideBy_any w3.heap.size (n + 1) (n + 1) F L wr HW.out.1 hLl (by omega) hd.1 hk3 hk4)
      have HEND := Lib.hid hend
      clear hend hd
      go_wp2_with fail
      refine HQT.out.mono ?_
      rintro e w8 ⟨r, L2, rfl, hR8, hg8, hI8⟩
      have hL2 : L2.length = n + 1 := hI8.1.trans hLl
      have hv8 : dv 4294967296 L2 = x % y := by
        rw [← HEND.out.2.2]
        have e := hI8.2.2.2.2.1
        rw [List.drop_zero, List.drop_zero] at e
        rw [← e]
        have e2 := Int.add_mul_ediv_right r (dv 4294967296 L2) (show F ≠ 0 by omega)
        rw [Int.add_comm, e2, Int.ediv_eq_zero_of_lt hI8.2.2.1 hI8.2.2.2.1, Int.zero_add]
      have hK8 := HW.out.2.1.grown hg8 (by intro e; injection e; omega)
      have hB8 := HW.out.2.2.2.grown hg8 HW.out.2.2.2.size (fun k hk => by cases hk; exact hgw)
      have hs4 := hK8.sl 0 (n - m + 1) w8.heap.size (by omega) hK8.lt
      have hs5 := hR8.sl 0 (n + 1) w8.heap.size (by omega) hR8.lt
      rw [List.drop_zero, List.take_of_length_le (by omega)] at hs4 hs5
      have HT4 := Lib.hid (trimmed_any (some ⟨w6.heap.size, 0, none⟩) (n - m + 1) (n - m + 1) _ K w8 hs4 (Nat.le_refl _) (by unfold maxLen; omega) (by intro h; cases h) HI.out.2.1)
      have HT5 := Lib.hid (trimmed_any (some ⟨w3.heap.size, 0, none⟩) (n + 1) (n + 1) _ L2 w8 hs5 (Nat.le_refl _) (by unfold maxLen; omega) (by intro h; cases h) hI8.2.1)
      have HB8 := Lib.hid hB8
      have HV8 := Lib.hid hv8
      clear hR8 hg8 hI8 hv8 hK8 hB8 hs4 hs5 HQT
      go_wp2_with fail
      refine HT4.out.mono ?_
      rintro e w9 ⟨k4, rfl, hk4', hn4, rfl⟩
      have HN4 := Lib.hid hn4
      clear hn4
      go_wp2_with fail
      refine HT5.out.mono ?_
      rintro e w9 ⟨k5, rfl, hk5', hn5, rfl⟩
      have HF := Lib.hid (show DivU (x / y) (x % y) w (.returned (.tuple #[.slice (some ⟨w6.heap.size, 0, none⟩) k4 (n - m + 1), .slice (some ⟨w3.heap.size, 0, none⟩) k5 (n + 1)])) w8 from ⟨_, _, _, _, _, _, _, _, rfl, by rw [← HEND.out.1]; exact HN4.out, by rw [← HV8.out]; exact hn5, HB8.out⟩)
      clear hn5
      go_wp2_with fail
      try rw [Exit.noGoto_ret]
      refine bodyPost_ret (results_tmp2 rfl _ _ _) rfl ?_
      exact HF.out
    · have hgt : i < n - m + 1 := hgk
      rw [show ((i + 1 : Nat) : Int) - 1 = (i : Int) by omega]
      have hDl' := hDl
      have hbd := HI.out.bound (by omega) (l := l) (by rw [← HD.out.2.2.2.2.2, ← hDl]; exact dv_lt (by omega) HD.out.2.2.2.1)
      have hsp := part_split (show (1 : Int) < 4294967296 by omega) HI.out.1 (i := i) (p := l + 1) (by omega) hbd
      have hpt := HI.out.part (by omega) (dv_nonneg (by omega) (HI.out.1.take i)) hsp
      have hTl : ((L.drop i).take (l + 1)).length = l + 1 := by rw [List.length_take, List.length_drop]; omega
      have hge := guess_ge (B := 4294967296) (T := (L.drop i).take (l + 1)) (ds := ds) (l := l) (by omega) ((HI.out.1.drop i).take _) HD.out.2.2.2.1 hTl hDl hl0 rfl rfl HD0.out rfl HD.out.2.2.2.2.2
      have hqs := quo_small (show 0 < y * F by exact hyF) hpt
      have hsl := HW.out.1.sl i (l + 1) wr.heap.size (by omega) HW.out.1.lt
      have HGU := Lib.hid (guess_any w3.heap.size i l (n + 1 - i) A3 c3 ((L.drop i).take (l + 1)) ds wr hsl (by omega) (HW.out.2.2.1.more (Nat.le_of_lt HW.out.1.lt)) ((HI.out.1.drop i).take _) HD.out.2.2.2.1 hl0 (by omega) HD0.out)
      obtain ⟨T, hT⟩ : ∃ T, T = (L.drop i).take (l + 1) := ⟨_, rfl⟩
      rw [← hT] at hsp hpt hge hqs HGU
      obtain ⟨G, hG⟩ : ∃ G, G = minI ((T[l - 1]?.getD 0 + 4294967296 * T[l]?.getD 0) / ds[l - 1]?.getD 0) 4294967295 := ⟨_, rfl⟩
      rw [← hG] at HGU
      have hG1 : dv 4294967296 T / (y * F) ≤ G := by rw [hG, minI]; split <;> omega
      have hq0 : 0 ≤ dv 4294967296 T / (y * F) := by
        refine Int.ediv_nonneg ?_ (Int.le_of_lt hyF)
        rw [hT]
        exact dv_nonneg (by omega) ((HI.out.1.drop i).take _)
      have hG2 : G < 4294967296 := by rw [hG, minI]; split <;> omega
      have hG0 : 0 ≤ G := by omega
      rw [show l + 1 = i + l + 1 - i by omega] at HGU
      have HW1 := Lib.hid (HW.out.set_ hgw hlt67 i (by omega) G)
      have hcq := HW1.out.2.1.cell i (by rw [List.length_set]; omega)
      rw [List.getElem?_set_self (by omega)] at hcq
      have hfq := HW.out.2.1.free i
      have hco := HW.out.2.1.cell i (by omega)
      have HST := Lib.hid (subTimes_any w3.heap.size i (i + l + 1 - i) (n + 1 - i) A3 l c3 G ds L _ HW1.out.1 (by omega) HW1.out.2.2.1 (by omega) (by omega) HD.out.2.2.2.1 HI.out.1 ⟨hG0, hG2⟩)
      have HSP := Lib.hid (And.intro hbd (And.intro hsp (And.intro hG1 hq0)))
      have ei1 : IntKind.i64.wrap ((i : Int) + (l : Int)) = (i : Int) + (l : Int) := IntWalk.i64_in _ (by omega)
      have ei2 : IntKind.i64.wrap ((i : Int) + (l : Int) + 1) = (i : Int) + (l : Int) + 1 := IntWalk.i64_in _ (by omega)
      have ei3 : ((i : Int) + (l : Int) + 1).toNat = i + l + 1 := by omega
      clear hG hT hge hqs hsl hpt hTl hsp hbd hG1 hq0
      go_wp2_with fail
      refine HGU.out.mono ?_
      rintro e w8 ⟨rfl, rfl⟩
      go_wp2_with fail
      refine HST.out.mono ?_
      rintro e w9 ⟨cy, bo, L', rfl, hR9, hg9, hI9⟩
      obtain ⟨rfl, hv9⟩ := hI9.all (by rw [hDl]; omega) ⟨hG0, hG2⟩ HD.out.2.2.2.1
      rw [HD.out.2.2.2.2.2, hDl] at hv9
      have hbo0 := hI9.2.2.2.1
      have hbo1 := hI9.2.2.2.2.1
      have HW9 := Lib.hid (HW1.out.grown hgw hlt67 hR9 hg9)
      have hL9 : L'.length = n + 1 := hI9.1.trans hLl
      have HD9 := Lib.hid hI9.2.1
      have HZ9 := Lib.hid (show ∀ j, i + (l + 1) ≤ j → L'[j]?.getD 0 = 0 from fun j hj => by rw [hI9.2.2.2.2.2.2 j (.inr (by omega))]; exact tail_zero (by omega) HI.out.1 HSP.out.1 j hj)
      have HV9 := Lib.hid hv9
      clear hR9 hg9 hI9 hv9 HGU HST HW1 hcq hco hfq
      rcases (show bo = 0 ∨ bo = 1 by omega) with rfl | rfl
      · have hdn := HI.out.done (by omega) hyF (show i < K.length by omega) (dv_nonneg (by omega) (HI.out.1.take i)) (by
            have h1 := dv_lt (show (0 : Int) < 4294967296 by omega) (HI.out.1.take i)
            rwa [List.length_take, Nat.min_eq_left (by omega)] at h1) HSP.out.2.1 HSP.out.2.2.1 hG0 hG2 HD9.out (by rw [HV9.out, Int.mul_zero, Int.add_zero])
        have HDN := Lib.hid hdn
        clear hdn
        go_wp2_with fail
        go_roundg i
        case measure => omega
        case rel => exact ⟨L', K.set i G, by go_num, by omega, hL9, by rw [List.length_set]; exact hKl, HDN.out, HW9.out⟩
      · obtain ⟨Gn, rfl⟩ : ∃ Gn : Nat, G = (Gn : Int) := ⟨G.toNat, by omega⟩
        have HV9' := Lib.hid (show dv 4294967296 L' = dv 4294967296 L - 4294967296 ^ i * ((Gn : Int) * (y * F)) + 4294967296 ^ (i + (l + 1)) from by rw [HV9.out, Int.mul_one])
        clear HV9
        go_wp2_with fail
        go_loopg [] Gn (fun g wr => ∃ L' : List Int, (g : Int) < 4294967296 ∧ L'.length = n + 1 ∧ Hid (Dig 4294967296 L') ∧ Hid (∀ j, i + (l + 1) ≤ j → L'[j]?.getD 0 = 0) ∧ Hid (dv 4294967296 L' = dv 4294967296 L - 4294967296 ^ i * ((g : Int) * (y * F)) + 4294967296 ^ (i + (l + 1))) ∧ Hid (DivW w w3.heap.size w6.heap.size A3 l ds L' (K.set i (g : Int)) wr))
        case atStart => exact ⟨L', hG2, hL9, HD9.out, HZ9.out, HV9'.out, HW9.out⟩
        case round =>
          clear HW9 HD9 HZ9 HV9' hL9
          obtain ⟨M, hg1, hMl, HDM, HZM, HVM, HWM⟩ := hrel
          have hov := over_gt (B := 4294967296) (D := y * F) (i := i) (l := l) (by omega) hyF (dv_nonneg (by omega) (HI.out.1.take i)) HSP.out.2.1 HDM.out HZM.out HVM.out
          have hgp := HSP.out.2.2.2
          have hg0 : 1 ≤ gk := by omega
          obtain ⟨g', rfl⟩ : ∃ g', gk = g' + 1 := ⟨gk - 1, by omega⟩
          have hgq' : dv 4294967296 T / (y * F) ≤ (g' : Int) := by omega
          have hcq := HWM.out.2.1.cell i (by rw [List.length_set]; omega)
          rw [List.getElem?_set_self (by omega), show (some ((g' + 1 : Nat) : Int)).getD 0 = (g' : Int) + 1 by simp] at hcq
          have hfq := HWM.out.2.1.free i
          have HW2 := Lib.hid (HWM.out.set_ hgw hlt67 i (by rw [List.length_set]; omega) (g' : Int))
          rw [List.set_set] at HW2
          have HAT := Lib.hid (addTimes_any w3.heap.size i (i + l + 1 - i) (n + 1 - i) A3 l c3 1 ds M _ HW2.out.1 (by omega) HW2.out.2.2.1 (by omega) (by omega) HD.out.2.2.2.1 HDM.out ⟨by omega, by omega⟩)
          have hww : IntKind.u32.wrap ((g' : Int) + 1 - 1) = (g' : Int) := by rw [Int.add_sub_cancel]; exact IntWalk.u32_in _ (by omega)
          have hww2 : ((g' : Int) + 1 - 1) % 4294967296 = (g' : Int) := by omega
          have HOV := Lib.hid hgq'
          clear hov hgp hgq'
          go_wp2_with fail
          refine HAT.out.mono ?_
          rintro e w10 ⟨cy, M', rfl, hR10, hg10, hI10⟩
          have e10 := hI10.done (by rw [hDl]; omega)
          rw [Int.one_mul, HD.out.2.2.2.2.2, show i + (i + l + 1 - i) = i + (l + 1) by omega] at e10
          have hpb := paid_back (B := 4294967296) (D := y * F) (G := ((g' + 1 : Nat) : Int)) (L := L) (L' := M) (by omega) (by omega) hyF HSP.out.1 HVM.out hI10.2.1 e10 hI10.2.2.1
          rw [show ((g' + 1 : Nat) : Int) - 1 = (g' : Int) by omega] at hpb
          have HW10 := Lib.hid (HW2.out.grown hgw hlt67 hR10 hg10)
          have hM' : M'.length = n + 1 := hI10.1.trans hMl
          have HDM' := Lib.hid hI10.2.1
          have HZM' := Lib.hid (show ∀ j, i + (l + 1) ≤ j → M'[j]?.getD 0 = 0 from fun j hj => by rw [hI10.2.2.2.2.2 j (.inr (by omega))]; exact HZM.out j hj)
          have HPB := Lib.hid hpb
          clear hR10 hg10 hI10 e10 hpb HAT HW2 hcq hfq
          by_cases hcy : cy = 0
          · subst hcy
            go_wp2_with fail
            go_roundg g'
            case measure => omega
            case rel => exact ⟨M', by omega, hM', HDM'.out, HZM'.out, by first | exact HPB.out.2 rfl | exact HPB.out.2 trivial, HW10.out⟩
          · have hdn := HI.out.done (by omega) hyF (show i < K.length by omega) (dv_nonneg (by omega) (HI.out.1.take i)) (by
              have h1 := dv_lt (show (0 : Int) < 4294967296 by omega) (HI.out.1.take i)
              rwa [List.length_take, Nat.min_eq_left (by omega)] at h1) HSP.out.2.1 HOV.out (by omega) (by omega) HDM'.out (HPB.out.1 hcy)
            have HDN := Lib.hid hdn
            have hcb : (cy != 0) = true := by rw [bne_iff_ne]; exact hcy
            clear hdn
            go_wp2_with fail
            go_roundg i
            case measure => omega
            case rel => exact ⟨M', K.set i (g' : Int), by go_num, by omega, hM', by rw [List.length_set]; exact hKl, HDN.out, HW10.out⟩
theorem ndiv_any (x y : Int) (A E : Option Addr) (n c m f : Nat) (zs ys : List Int) (w : World) (h : NatR w w.heap.size x A n c zs) (k : NatR w w.heap.size y E m f ys) (hn : n ≤ 40000) (hm : m ≤ 40000) (hy0 : 0 < y) :
    Calls Tryz.prog 53 #[.slice A n c, .slice E m f] w (DivU (x / y) (x % y) w) := by
  rcases Int.lt_or_le x y with hx | hx
  · exact ndiv_small x y A E n c m f zs ys w h k hn hm hx
  · exact ndiv_big x y A E n c m f zs ys w h k hn hm hy0 hx
end Go.Proofs.YtgfhniiidejmoaaGreatDoor
