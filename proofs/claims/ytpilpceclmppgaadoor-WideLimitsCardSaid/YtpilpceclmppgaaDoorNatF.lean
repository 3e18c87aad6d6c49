/- Contracts of package wide's numbers: multiply. -/
import Derived.Test.YtpilpceclmppgaaDoorNatE
namespace Go.Proofs.YtpilpceclmppgaaDoor
open Go.RowKit
set_option linter.unusedVariables false

theorem AddI.mul {i : Nat} {zs ys L0 L : List Int} {cy : Int} (h : AddI i (zs[i]?.getD 0) ys L0 (ys.length + 1) cy L) (h0 : dv 4294967296 L0 = dv 4294967296 (zs.take i) * dv 4294967296 ys) (hz : Dig 4294967296 zs) (hy : Dig 4294967296 ys) (hi : i < zs.length) :
    dv 4294967296 L = dv 4294967296 (zs.take (i + 1)) * dv 4294967296 ys := by
  have e := h.done (by omega)
  have hL0 := dv_nonneg (show (0 : Int) < 4294967296 by omega) h.2.1
  have h3 := h.2.2.1
  have e2 : dv 4294967296 (zs.take (i + 1)) * dv 4294967296 ys = dv 4294967296 L0 + 4294967296 ^ i * (zs[i]?.getD 0 * dv 4294967296 ys) := by
    rw [dv_take, h0, Int.add_mul, Int.mul_assoc]
  rw [← e2] at e
  have hx := dv_lt (show (0 : Int) < 4294967296 by omega) (hz.take (i + 1))
  have hx0 := dv_nonneg (show (0 : Int) < 4294967296 by omega) (hz.take (i + 1))
  have hyl := dv_lt (show (0 : Int) < 4294967296 by omega) hy
  have hy0 := dv_nonneg (show (0 : Int) < 4294967296 by omega) hy
  rw [List.length_take, Nat.min_eq_left (by omega)] at hx
  have hP := pow_pos' (show (0 : Int) < 4294967296 by omega) (i + 1)
  have hb : dv 4294967296 (zs.take (i + 1)) * dv 4294967296 ys < 4294967296 ^ (i + (ys.length + 1)) := by
    rw [show i + (ys.length + 1) = (i + 1) + ys.length by omega, Int.pow_add]
    exact Int.lt_of_le_of_lt (Int.mul_le_mul_of_nonneg_right (Int.le_of_lt hx) hy0) (Int.mul_lt_mul_of_pos_left hyl hP)
  rcases Int.lt_or_eq_of_le h3 with h4 | h4
  · have := Int.mul_le_mul_of_nonneg_left (show 1 ≤ cy by omega) (Int.le_of_lt (pow_pos' (show (0 : Int) < 4294967296 by omega) (i + (ys.length + 1))))
    omega
  · rw [← h4, Int.mul_zero] at e; omega
theorem grown_below {w w1 w2 : World} {B g : Nat} (h : Below B w w1) (hg : w1.grownBy w2 (some g)) (hB : B ≤ g) (h0 : B ≤ w.heap.size) : Below B w w2 :=
  h.grown hg (Nat.le_trans h0 h.size) (fun k hk => by cases hk; exact hB)
theorem dig_zeros {B : Int} (hB : 0 < B) (n : Nat) : Dig B (List.replicate n 0) := fun d hd => by rw [List.eq_of_mem_replicate hd]; omega
theorem row_zeros {k : IntKind} {base n g : Nat} {t : TypeId} {w : World} (h : w.ownsRow base t 1 (.slice (some ⟨g, 0, none⟩) n n) n (madeCells (Value.int k 0).cells (n * 1)).toList) : RowW k w g t (List.replicate n 0) :=
  ⟨_, made_whole h, by simp, by rw [List.toList_toArray, List.take_of_length_le (by simp)]⟩
set_option maxRecDepth 100000 in
set_option maxHeartbeats 1000000 in
theorem nmul_any (x y : Int) (A E : Option Addr) (n c m f : Nat) (zs ys : List Int) (w : World) (h : NatR w w.heap.size x A n c zs) (k : NatR w w.heap.size y E m f ys) (hn : n ≤ 40000) (hm : m ≤ 40000) :
    Calls Tryd.prog 63 #[.slice A n c, .slice E m f] w (NewU (x * y) w) := by
  obtain ⟨i0, hi, hz0, hz1, hz2⟩ := info_parts u32_info
  obtain ⟨hs, hnc, hc, hA, hz, tz, rfl⟩ := h
  obtain ⟨ks, kmf, kf, kE, hy, ty, rfl⟩ := k
  have HS := Lib.hid hs
  have HK := Lib.hid ks
  have HZ := Lib.hid hz
  have HY := Lib.hid hy
  obtain ⟨X, hX⟩ : ∃ X, X = dv 4294967296 zs * dv 4294967296 ys := ⟨_, rfl⟩
  rw [← hX]
  have HX := Lib.hid hX
  clear hs ks hz hy tz ty hA kE hX
  go_enter Tryd.func63, Tryd.ntmps63
  go_upto_region 2 with (at_make; refine wpList_make_full _ rfl _ _ _ rfl w.heap.size 94 i0 _ 1 Tryd.underlying32 hi hz0 hz1 _ _ _ _ (n + m) rfl rfl (by omega) (by omega) (by rw [hz2]; omega) (by unfold maxLen; omega) (Nat.le_refl _) ?_; intro w4 hown4 hg4)
  have HB4 := Lib.hid ((Below.refl w.heap.size w).grown hg4 (Nat.le_refl _) (fun k hk => by cases hk))
  have HR4 := Lib.hid (row_zeros hown4)
  clear hown4 hg4
  go_wp2_with fail
  go_loopw [16] (fun iv wr => ∃ (i : Nat) (L : List Int), i ≤ n ∧ iv = .int .i64 i ∧ L.length = n + m ∧ Hid (Dig 4294967296 L) ∧ Hid (dv 4294967296 L = dv 4294967296 (zs.take i) * dv 4294967296 ys) ∧ Hid (RowW .u32 wr w.heap.size 94 L) ∧ Hid (Below w.heap.size w wr)) (fun iv _ => n - (intOf iv).toNat)
  case atStart =>
    refine ⟨0, _, Nat.zero_le _, rfl, by simp, dig_zeros (by omega) (n + m), ?_, HR4.out, HB4.out⟩
    show _ = _
    rw [dv_zeros, List.take_zero, show dv 4294967296 [] = 0 from rfl, Int.zero_mul]
  case round =>
    clear HR4 HB4
    obtain ⟨i, L, hin, rfl, hL, HD, HV, HR, HB⟩ := hrel
    by_cases hlt : i < n
    · have HSw := HS.out.below HB.out
      obtain ⟨bl, off, rfl, hbl, hcl⟩ := HSw.at_ (by omega)
      have hcell := hcl i hlt
      have HAT := Lib.hid (fun W (hW : wr = W) => addTimes_any w.heap.size i (i + m + 1 - i) (n + m - i) E m f (zs[i]?.getD 0) ys L W (hW ▸ HR.out) (by omega) (hW ▸ HK.out.below HB.out) (by omega) (by omega) HY.out HD.out (HZ.out.get (by omega) i))
      have hg := HZ.out.get (show (0 : Int) < 4294967296 by omega) i
      have HM := Lib.hid (fun cy L' (h : AddI i (zs[i]?.getD 0) ys L (i + m + 1 - i) cy L') => AddI.mul (show AddI i (zs[i]?.getD 0) ys L (ys.length + 1) cy L' from by rw [HK.out.len, show m + 1 = i + m + 1 - i by omega]; exact h) HV.out HZ.out HY.out (by rw [HS.out.len]; exact hlt))
      obtain ⟨d, hd⟩ : ∃ d, d = zs[i]?.getD 0 := ⟨_, rfl⟩
      rw [← hd] at hcell HAT hg HM
      obtain ⟨d0, d1⟩ := hg
      have e1 : IntKind.i64.wrap ((i : Int) + (m : Int)) = (i : Int) + (m : Int) := IntWalk.i64_in _ (by omega)
      have e2 : IntKind.i64.wrap ((i : Int) + (m : Int) + 1) = (i : Int) + (m : Int) + 1 := IntWalk.i64_in _ (by omega)
      have e3 : ((i : Int) + (m : Int) + 1).toNat = i + m + 1 := by omega
      clear hcl hd HSw
      go_wp2_with fail
      refine (HAT.out _ rfl).mono ?_
      rintro e w6 h6
      obtain ⟨cy, L', rfl, hR6, hg6, hI6⟩ := h6
      have HF := Lib.hid (And.intro hI6.2.1 (And.intro (HM.out _ _ hI6) (And.intro hR6 (grown_below HB.out hg6 (Nat.le_refl _) (Nat.le_refl _)))))
      have hL' : L'.length = n + m := hI6.1.trans hL
      clear hR6 hg6 hI6 HAT HM
      go_wp2_with fail
      exact ⟨⟨i + 1, L', by omega, by go_num, hL', HF.out.1, HF.out.2.1, HF.out.2.2.1, HF.out.2.2.2⟩, by simp [intOf]; omega⟩
    · obtain rfl : i = n := by omega
      have hsl := HR.out.sl 0 (i + m) wr.heap.size (by omega) HR.out.lt
      rw [List.drop_zero, List.take_of_length_le (by omega)] at hsl
      have HT := Lib.hid (trimmed_any (some ⟨w.heap.size, 0, none⟩) (i + m) (i + m) _ L wr hsl (Nat.le_refl _) (by unfold maxLen; omega) (by intro h; cases h) HD.out)
      have HV2 := Lib.hid (show dv 4294967296 L = X from by rw [HV.out, List.take_of_length_le (by rw [HS.out.len]; exact Nat.le_refl _), HX.out])
      clear hsl HV
      go_wp2_with fail
      refine HT.out.mono ?_
      rintro e w7 h
      have HF := Lib.hid (h.new (Nat.le_refl _) HB.out HV2.out)
      clear h
      obtain ⟨A7, n7, c7, zs7, rfl, hr, hb⟩ := HF.out
      clear hr hb
      go_wp2_with fail
      go_ret
      exact HF.out
end Go.Proofs.YtpilpceclmppgaaDoor
