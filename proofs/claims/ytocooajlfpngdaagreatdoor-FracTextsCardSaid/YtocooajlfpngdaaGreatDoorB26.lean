/- Contracts of the reference of wide: Fits, Small. · Contracts of the reference: Decimal, Text. · Contracts of the reference: Text. -/
import Derived.Test.YtocooajlfpngdaaGreatDoorB25
import Derived.Test.YtocooajlfpngdaaGreatDoorB04
namespace Go.Proofs.YtocooajlfpngdaaGreatDoor
open Go.RowKit
set_option linter.unusedVariables false

theorem power_lim (w : World) : Calls Tryz.prog 14 #[.int .i64 16384] w (NewN lim w) := power_any 16384 w (by omega)
def FitsPost (b : Bool) (w : World) (e : Ending) (w' : World) : Prop := e = .returned (.bool b) ∧ Below w.heap.size w w'
set_option maxHeartbeats 1000000 in
theorem fits_any (z : Int) (v : Value) (w : World) (h : RepN w w.heap.size z v) (bz : Bits 200000 z) :
    Calls Tryz.prog 72 #[v] w (FitsPost (decide ((z.natAbs : Int) < lim)) w) := by
  obtain ⟨A, n, c, zs, rfl, hs, hn, hc, hA, hd, ht, hv, hl⟩ := h.parts (m := 20000) bz (by omega)
  obtain ⟨b, hb⟩ : ∃ b, b = decide (z < 0) := ⟨_, rfl⟩
  rw [← hb]
  obtain ⟨r, hr⟩ : ∃ r, r = decide ((z.natAbs : Int) < lim) := ⟨_, rfl⟩
  rw [← hr]
  have hal : Below w.heap.size w (w.alloc (.cells #[.bool b, .slice A n c] 24)) := (Below.refl _ _).alloc (Nat.le_refl _) _
  have HAL := Lib.hid hal
  by_cases h1 : n < 1230
  · have h1' : (n : Int) < 1230 := by omega
    obtain rfl : r = true := by rw [hr, ← hv]; exact decide_eq_true (short_lim hd (by rw [hs.len]; exact h1))
    clear h hb hr hal hs hA hd ht hv
    go_enter Tryz.func72, Tryz.ntmps72
    go_wp2_with fail
    go_ret
    exact ⟨rfl, HAL.out⟩
  · have h1' : ¬ (n : Int) < 1230 := by omega
    have HP := Lib.hid power_lim
    have HS := Lib.hid (hs.below hal)
    have HD := Lib.hid hd
    have HT := Lib.hid ht
    have HV := Lib.hid hv
    have HR := Lib.hid hr
    have hk := Blk2.new w 24 (.bool b) (.slice A n c)
    have HK := Lib.hid hk
    clear h hb hr hal hs hA hd ht hv hk
    go_enter Tryz.func72, Tryz.ntmps72
    go_wp2_with fail
    refine (HP.out _).mono ?_
    rintro e w2 h2
    obtain ⟨v2, rfl, r2, b2⟩ := h2
    obtain ⟨E, m, f, ys, rfl, ks, km, kf, kE, kd, kt, kv, kl⟩ := r2.parts (m := 20000) (k := 16385) (bits_lim (by have := lim_pos; omega)) (by omega)
    have hlp := lim_pos
    rw [decide_eq_false (by omega)]
    have hal := (Below.refl w2.heap.size w2).alloc (Nat.le_refl _) (.cells #[.bool false, .slice E m f] 24)
    have g1 := ((HK.out.below b2).below hal).c1
    have hB := (HAL.out.trans (b2.mono HAL.out.size)).trans (hal.mono (Nat.le_trans HAL.out.size b2.size))
    have HB := Lib.hid hB
    have HC := Lib.hid (compared_any A E n c m f zs ys (w2.alloc (.cells #[.bool false, .slice E m f] 24)) (((HS.out.below (b2.mono HAL.out.size)).below (hal.mono (Nat.le_trans HAL.out.size b2.size))).more hB.size) ((ks.below hal).more hal.size) (by omega) (by omega) HD.out kd HT.out kt)
    rw [HV.out, kv, show ((lim.natAbs : Nat) : Int) = lim by omega] at HC
    obtain ⟨C, hC⟩ : ∃ C, C = cmpI (z.natAbs : Int) lim := ⟨_, rfl⟩
    rw [← hC] at HC
    have HCC : Hid (decide (C < 0) = r) := by
      show decide (C < 0) = r
      rw [hC, HR.out]
      unfold cmpI
      by_cases h2 : (z.natAbs : Int) < lim
      · simp [h2]
      · rw [if_neg h2, decide_eq_false h2]
        split <;> simp
    clear r2 b2 ks km kf kE kd kt kv hal hB hlp hC
    go_wp2_with fail
    refine HC.out.mono ?_
    rintro e w3 ⟨rfl, q, rfl⟩
    go_wp2_with fail
    go_ret
    exact ⟨ret_bool HCC.out, below_drewN HB.out q⟩

/-! ### Small -/
def SmallPost (n : Int) (b : Bool) (w : World) (e : Ending) (w' : World) : Prop := e = .returned (.tuple #[.int .i64 n, .bool b]) ∧ Below w.heap.size w w'
def inI (z : Int) : Bool := decide (-9223372036854775808 ≤ z ∧ z ≤ 9223372036854775807)
theorem smallR {z : Int} {zs : List Int} (hd : Dig 10000 zs) (hv : dv 10000 zs = (z.natAbs : Int)) (k : Nat) (hk : k < zs.length) : dv 10000 (zs.drop k) = zs[k]?.getD 0 + 10000 * dv 10000 (zs.drop (k + 1)) ∧ 0 ≤ dv 10000 (zs.drop (k + 1)) ∧ 0 ≤ zs[k]?.getD 0 ∧ dv 10000 (zs.drop k) ≤ z.natAbs := by
  have h1 : zs.drop k = zs[k]?.getD 0 :: zs.drop (k + 1) := by rw [List.drop_eq_getElem_cons hk, List.getElem?_eq_getElem hk]; rfl
  have h2 := dv_nonneg (show (0 : Int) < 10000 by omega) (hd.drop (k + 1))
  have h3 := hd.get (show (0 : Int) < 10000 by omega) k
  have h4 := top_part (show (1 : Int) < 10000 by omega) hd k (by omega)
  have h5 := pow_pos' (show (0 : Int) < 10000 by omega) k
  have h6 := dv_nonneg (show (0 : Int) < 10000 by omega) (hd.drop k)
  have h7 := Int.mul_le_mul_of_nonneg_left (show 1 ≤ (10000 : Int) ^ k by omega) h6
  rw [Int.mul_one] at h7
  exact ⟨by rw [h1, dv], h2, h3.1, by omega⟩
set_option maxRecDepth 100000 in
set_option maxHeartbeats 8000000 in
theorem small_num (z : Int) (v : Value) (w : World) (h : RepN w w.heap.size z v) (bz : Bits 200000 z) :
    Calls Tryz.prog 109 #[v] w (SmallPost (if inI z then z else 0) (inI z) w) := by
  obtain ⟨A, n, c, zs, rfl, hs, hn, hc, hA, hd, ht, hv, hl⟩ := h.parts (m := 20000) bz (by omega)
  obtain ⟨b, hb⟩ : ∃ b, b = decide (z < 0) := ⟨_, rfl⟩
  rw [← hb] at h ⊢
  have HBB := Lib.hid hb
  have hal : Below w.heap.size w (w.alloc (.cells #[.bool b, .slice A n c] 24)) := (Below.refl _ _).alloc (Nat.le_refl _) _
  obtain ⟨W, hW⟩ : ∃ W, W = w.alloc (.cells #[.bool b, .slice A n c] 24) := ⟨_, rfl⟩
  have hk : Blk2 W w.heap.size 24 (.bool b) (.slice A n c) := by rw [hW]; exact Blk2.new _ _ _ _
  rw [← hW] at hal
  have HR := Lib.hid ((h.below hal).more hal.size)
  have HB := Lib.hid hal
  have HBZ := Lib.hid bz
  have HW := Lib.hid hW
  have HK := Lib.hid hk
  have HS := Lib.hid hs
  have HD := Lib.hid hd
  have HV := Lib.hid hv
  have HTT := Lib.hid ht
  have g0 := hk.c0
  have g1 := hk.c1
  have HO1 := Lib.hid (of_any 9223372036854775807)
  have HO2 := Lib.hid (of_any (-9223372036854775808))
  obtain ⟨t, htt⟩ : ∃ t, t = inI z := ⟨_, rfl⟩
  obtain ⟨q, hqq⟩ : ∃ q, q = if inI z then z else 0 := ⟨_, rfl⟩
  rw [← hqq, ← htt]
  have HT := Lib.hid htt
  have HQ := Lib.hid hqq
  clear h hal hW bz hk hs hA hd ht hv hb htt hqq
  go_enter Tryz.func109, Tryz.ntmps109
  go_upto_region 1 with (fail)
  rw [← HW.out]
  go_cut [15] (fun vv wx => vv = .bool (!t) ∧ Hid (Blk2 wx w.heap.size 24 (.bool b) (.slice A n c)) ∧ Hid (RepN wx wx.heap.size z (.agg #[.bool b, .slice A n c])) ∧ Hid (Below w.heap.size w wx))
  case first =>
    by_cases hbig : 9223372036854775807 < z
    · have HC1 : Hid (cmpI z 9223372036854775807 = 1) := by show cmpI z 9223372036854775807 = 1; unfold cmpI; rw [if_neg (by omega), if_pos hbig]
      obtain rfl : t = false := by rw [HT.out]; unfold inI; exact decide_eq_false (by omega)
      clear hbig
      go_region_with (first
        | (go_at_call 16
           (with_reducible refine (HO1.out _ (by omega) (by omega)).mono ?_)
           rintro e w2 h2
           obtain ⟨v2, rfl, r2, b2⟩ := h2
           obtain ⟨d2, A2, n2, c2, rfl⟩ := r2.shape
           have b2 : Below W.heap.size W w2 := by first | exact b2 | exact below_undrew b2
           have HR2 := Lib.hid ((HR.out.below b2).more b2.size)
           have HQ2 := Lib.hid r2
           have HK2 := Lib.hid (HK.out.below b2)
           have HB2 := Lib.hid (HB.out.trans (b2.mono HB.out.size))
           have k2 := HK2.out.c0
           have l2 := HK2.out.c1
           clear r2 b2)
        | (go_at_call 81
           refine (compare_any z 9223372036854775807 _ _ _ (by exact HR2.out) (by exact HQ2.out) HBZ.out ((Bits.i64 (by omega) (by omega)).mono (by omega))).mono ?_
           rintro e w3 ⟨rfl, b3⟩
           rw [HC1.out]
           have b3 : Below w2.heap.size w2 w3 := by first | exact b3 | exact below_undrew b3
           have HR3 := Lib.hid ((HR2.out.below b3).more b3.size)
           have HK3 := Lib.hid (HK2.out.below b3)
           have HB3 := Lib.hid (HB2.out.trans (b3.mono HB2.out.size))
           have k3 := HK3.out.c0
           have l3 := HK3.out.c1
           clear b3)
)
      all_goals
        go_wp2
        go_meet
        case rel => exact ⟨rfl, HK3.out, HR3.out, HB3.out⟩
    · have HC1 : Hid (cmpI z 9223372036854775807 = if z = 9223372036854775807 then 0 else -1) := by
        show cmpI z 9223372036854775807 = if z = 9223372036854775807 then 0 else -1
        unfold cmpI
        by_cases he : z = 9223372036854775807
        · rw [if_neg (by omega), if_neg (by omega), if_pos he]
        · rw [if_pos (by omega), if_neg he]
      obtain ⟨C1, hC1⟩ : ∃ C1, C1 = (if z = 9223372036854775807 then 0 else -1 : Int) := ⟨_, rfl⟩
      have hc1 : ¬ 0 < C1 := by rw [hC1]; split <;> omega
      have hc1b : decide (0 < C1) = false := decide_eq_false hc1
      rw [← hC1] at HC1
      clear hC1
      obtain ⟨C2, hC2⟩ : ∃ C2, C2 = cmpI z (-9223372036854775808) := ⟨_, rfl⟩
      have HC2 := Lib.hid hC2.symm
      have hc2 : decide (C2 < 0) = !t := by
        rw [hC2, HT.out]
        unfold cmpI inI
        by_cases he : z < -9223372036854775808
        · rw [if_pos he, decide_eq_false (p := -9223372036854775808 ≤ z ∧ z ≤ 9223372036854775807) (by omega)]; rfl
        · rw [if_neg he, decide_eq_true (p := -9223372036854775808 ≤ z ∧ z ≤ 9223372036854775807) (by omega)]
          split <;> rfl
      have HC2B := Lib.hid hc2
      clear hC2 hc2 hbig
      go_region_held3 (fun w' => w'.cell? ⟨w.heap.size, 0, none⟩ = some (.bool b) ∧ w'.cell? ⟨w.heap.size, 1, none⟩ = some (.slice A n c))
        (exact ⟨by first | assumption | (simp only [World.cell?_drew]; assumption), by first | assumption | (simp only [World.cell?_drew]; assumption)⟩)
        (first
        | (go_at_call 16
           (with_reducible refine (HO1.out _ (by omega) (by omega)).mono ?_)
           rintro e w2 h2
           obtain ⟨v2, rfl, r2, b2⟩ := h2
           obtain ⟨d2, A2, n2, c2, rfl⟩ := r2.shape
           have b2 : Below W.heap.size W w2 := by first | exact b2 | exact below_undrew b2
           have HR2 := Lib.hid ((HR.out.below b2).more b2.size)
           have HQ2 := Lib.hid r2
           have HK2 := Lib.hid (HK.out.below b2)
           have HB2 := Lib.hid (HB.out.trans (b2.mono HB.out.size))
           have k2 := HK2.out.c0
           have l2 := HK2.out.c1
           clear r2 b2)
        | (go_at_call 81
           refine (compare_any z 9223372036854775807 _ _ _ (by exact HR2.out) (by exact HQ2.out) HBZ.out ((Bits.i64 (by omega) (by omega)).mono (by omega))).mono ?_
           rintro e w3 ⟨rfl, b3⟩
           rw [HC1.out]
           have b3 : Below w2.heap.size w2 w3 := by first | exact b3 | exact below_undrew b3
           have HR3 := Lib.hid ((HR2.out.below b3).more b3.size)
           have HK3 := Lib.hid (HK2.out.below b3)
           have HB3 := Lib.hid (HB2.out.trans (b3.mono HB2.out.size))
           have k3 := HK3.out.c0
           have l3 := HK3.out.c1
           clear b3)
        | (go_at_call 16
           (with_reducible refine (HO2.out _ (by omega) (by omega)).mono ?_)
           rintro e w4 h4
           obtain ⟨v4, rfl, r4, b4⟩ := h4
           obtain ⟨d4, A4, n4, c4, rfl⟩ := r4.shape
           have b4 : Below w3.heap.size w3 w4 := by first | exact b4 | exact below_undrew b4
           have HR4 := Lib.hid ((HR3.out.below b4).more b4.size)
           have HQ4 := Lib.hid r4
           have HK4 := Lib.hid (HK3.out.below b4)
           have HB4 := Lib.hid (HB3.out.trans (b4.mono HB3.out.size))
           have k4 := HK4.out.c0
           have l4 := HK4.out.c1
           clear r4 b4)
        | (go_at_call 81
           refine (compare_any z (-9223372036854775808) _ _ _ (by exact HR4.out) (by exact HQ4.out) HBZ.out ((Bits.i64 (by omega) (by omega)).mono (by omega))).mono ?_
           rintro e w5 ⟨rfl, b5⟩
           rw [HC2.out]
           have b5 : Below w4.heap.size w4 w5 := by first | exact b5 | exact below_undrew b5
           have HR5 := Lib.hid ((HR4.out.below b5).more b5.size)
           have HK5 := Lib.hid (HK4.out.below b5)
           have HB5 := Lib.hid (HB4.out.trans (b5.mono HB4.out.size))
           have k5 := HK5.out.c0
           have l5 := HK5.out.c1
           clear b5)
)
      all_goals
        go_wp2
        go_meet
        case rel => exact ⟨congrArg Value.bool HC2B.out, HK5.out, HR5.out, HB5.out⟩
  case rest =>
    clear HBZ HO1 HO2 HR HB HW HK g0 g1
    obtain ⟨rfl, HK2, HR2, HB2⟩ := hcut
    have g0 := HK2.out.c0
    have g1 := HK2.out.c1
    cases t
    · have hq : q = 0 := by rw [HQ.out, ← HT.out]; rfl
      have HF := Lib.hid (show SmallPost q false w (.returned (.tuple #[.int .i64 0, .bool false])) wc from ⟨by rw [hq], HB2.out⟩)
      clear hq
      go_wp2_with fail
      go_ret2
      exact HF.out
    · have HLN := Lib.hid HS.out.len
      have HS2 := Lib.hid (show Sl .i64 wc wc.heap.size A n zs by
        obtain ⟨A', n', c', l, e, h1, h2, h3, h4, h5, h6, h7⟩ := HR2.out
        cases e
        have : l = zs := (can_digs (by omega) h5 h6).trans ((by rw [h7, ← HV.out] : digs 10000 (dv 10000 l) = digs 10000 (dv 10000 zs)).trans (can_digs (by omega) HD.out HTT.out).symm)
        rw [← this]; exact h1)
      have HZB : Hid ((z.natAbs : Int) ≤ 9223372036854775808 ∧ (0 ≤ z → z ≤ 9223372036854775807)) := by
        have h := HT.out
        unfold inI at h
        have h2 := of_decide_eq_true h.symm
        exact ⟨by omega, fun _ => h2.2⟩
      cases b
      · have HZN : Hid (0 ≤ z) := by have h := HBB.out; have h2 := of_decide_eq_false (p := z < 0) h.symm; show 0 ≤ z; omega
        go_wp2_with fail
        go_loopw [4, 5] (fun nv iv wr => ∃ k : Nat, k ≤ n ∧ iv = .int .i64 ((k : Int) - 1) ∧ nv = .int .i64 (dv 10000 (zs.drop k)) ∧ wr = wc) (fun _ iv _ => (intOf iv + 1).toNat)
        case atStart => exact ⟨n, Nat.le_refl _, rfl, by rw [List.drop_of_length_le (by rw [HLN.out]; omega)]; rfl, rfl⟩
        case round =>
          obtain ⟨k, hk, rfl, rfl, rfl⟩ := hrel
          rcases Nat.eq_zero_or_pos k with rfl | hk0
          · obtain ⟨X, hX⟩ : ∃ X, X = dv 10000 (zs.drop 0) := ⟨_, rfl⟩
            have hq : q = z := by have h1 := HQ.out; rw [if_pos HT.out.symm] at h1; exact h1
            have hXq : X = q := by have h1 := HZN.out; rw [hX, List.drop_zero, HV.out, hq]; omega
            have HF := Lib.hid (show SmallPost q true w (.returned (.tuple #[.int .i64 (X), .bool true])) _ from ⟨by rw [hXq], HB2.out⟩)
            rw [← hX]
            clear hX hq hXq
            go_wp2_with fail
            go_ret2
            exact HF.out
          · obtain ⟨j, rfl⟩ : ∃ j, k = j + 1 := ⟨k - 1, by omega⟩
            rw [show (((j + 1 : Nat) : Int) - 1) = (j : Int) by omega]
            obtain ⟨ba, oa, rfl, _, hca⟩ := HS2.out.at_ (by omega)
            have ca := hca j (by omega)
            obtain ⟨e1, e2, e3, e4⟩ := smallR HD.out HV.out j (by rw [HLN.out]; omega)
            obtain ⟨d, hd⟩ : ∃ d, d = zs[j]?.getD 0 := ⟨_, rfl⟩
            obtain ⟨X, hX⟩ : ∃ X, X = dv 10000 (zs.drop (j + 1)) := ⟨_, rfl⟩
            obtain ⟨Y, hY⟩ : ∃ Y, Y = dv 10000 (zs.drop j) := ⟨_, rfl⟩
            rw [← hd] at ca e1 e3
            rw [← hX] at e1 e2 ⊢
            rw [← hY] at e1 e4
            have HY := Lib.hid hY
            have E1 := Lib.hid e1
            have hzb := HZB.out
            have a1 : X * 10000 + d ≤ 9223372036854775808 := by omega
            have a2 : X * 10000 + d ≤ 9223372036854775807 := by have := HZN.out; omega
            clear hd hX hY hca e1 e4 hzb
            go_wp2_with fail
            go_roundw
            case rel => exact ⟨j, by omega, by go_num, by rw [← HY.out, E1.out]; congr 1; omega, by first | rfl | trivial⟩
            case measure => simp [intOf]
      · have HZN : Hid (z < 0) := by have h := HBB.out; exact of_decide_eq_true (p := z < 0) h.symm
        go_wp2_with fail
        go_loopw [4, 5] (fun nv iv wr => ∃ k : Nat, k ≤ n ∧ iv = .int .i64 ((k : Int) - 1) ∧ nv = .int .i64 (-dv 10000 (zs.drop k)) ∧ wr = wc) (fun _ iv _ => (intOf iv + 1).toNat)
        case atStart => exact ⟨n, Nat.le_refl _, rfl, by rw [List.drop_of_length_le (by rw [HLN.out]; omega)]; rfl, rfl⟩
        case round =>
          obtain ⟨k, hk, rfl, rfl, rfl⟩ := hrel
          rcases Nat.eq_zero_or_pos k with rfl | hk0
          · obtain ⟨X, hX⟩ : ∃ X, X = dv 10000 (zs.drop 0) := ⟨_, rfl⟩
            have hq : q = z := by have h1 := HQ.out; rw [if_pos HT.out.symm] at h1; exact h1
            have hXq : (-X) = q := by have h1 := HZN.out; rw [hX, List.drop_zero, HV.out, hq]; omega
            have HF := Lib.hid (show SmallPost q true w (.returned (.tuple #[.int .i64 (-X), .bool true])) _ from ⟨by rw [hXq], HB2.out⟩)
            rw [← hX]
            clear hX hq hXq
            go_wp2_with fail
            go_ret2
            exact HF.out
          · obtain ⟨j, rfl⟩ : ∃ j, k = j + 1 := ⟨k - 1, by omega⟩
            rw [show (((j + 1 : Nat) : Int) - 1) = (j : Int) by omega]
            obtain ⟨ba, oa, rfl, _, hca⟩ := HS2.out.at_ (by omega)
            have ca := hca j (by omega)
            obtain ⟨e1, e2, e3, e4⟩ := smallR HD.out HV.out j (by rw [HLN.out]; omega)
            obtain ⟨d, hd⟩ : ∃ d, d = zs[j]?.getD 0 := ⟨_, rfl⟩
            obtain ⟨X, hX⟩ : ∃ X, X = dv 10000 (zs.drop (j + 1)) := ⟨_, rfl⟩
            obtain ⟨Y, hY⟩ : ∃ Y, Y = dv 10000 (zs.drop j) := ⟨_, rfl⟩
            rw [← hd] at ca e1 e3
            rw [← hX] at e1 e2 ⊢
            rw [← hY] at e1 e4
            have HY := Lib.hid hY
            have E1 := Lib.hid e1
            have hzb := HZB.out
            have a1 : X * 10000 + d ≤ 9223372036854775808 := by omega
            have a2 : 0 ≤ X * 10000 := by omega
            clear hd hX hY hca e1 e4 hzb
            go_wp2_with fail
            go_roundw
            case rel => exact ⟨j, by omega, by go_num, by rw [← HY.out, E1.out]; congr 1; omega, by first | rfl | trivial⟩
            case measure => simp [intOf]
end Go.Proofs.YtocooajlfpngdaaGreatDoor
namespace Go.Proofs.YtocooajlfpngdaaGreatDoor
open Go.RowKit
set_option linter.unusedVariables false

def strB (l : List UInt8) : ByteArray := ⟨l.toArray⟩
theorem ret_str {a b : ByteArray} (h : a = b) : Ending.returned (.string a) = .returned (.string b) := by rw [h]
theorem dec_more {x d : Int} (hx : 0 ≤ x) (hd : 0 ≤ d ∧ d < 10) (h : 0 < 10 * x + d) : dec10 (10 * x + d) = dec10 x ++ [chr d] := by
  rcases Int.lt_or_eq_of_le hx with h1 | h1
  · exact dec_step h1 hd
  · subst h1
    have e : dec10 0 = [] := by unfold dec10; rw [digs_neg (by omega)]; rfl
    rw [e, Int.mul_zero, Int.zero_add, dec_one (by omega)]; rfl
theorem digit_slice (d : Nat) (hd : d < 10) (w : World) : (Instr.slice 9 (.string ⟨#[48, 49, 50, 51, 52, 53, 54, 55, 56, 57]⟩) (some (.int .i64 (d : Int))) (some (.int .i64 ((d : Int) + 1))) none).run Tryz.prog w = .ok (.string (strB [chr (d : Int)])) w := by
  have e : (⟨#[48, 49, 50, 51, 52, 53, 54, 55, 56, 57]⟩ : ByteArray).extract d (d + 1) = strB [chr (d : Int)] := by
    have : d = 0 ∨ d = 1 ∨ d = 2 ∨ d = 3 ∨ d = 4 ∨ d = 5 ∨ d = 6 ∨ d = 7 ∨ d = 8 ∨ d = 9 := by omega
    rcases this with h | h | h | h | h | h | h | h | h | h <;> subst h <;> rfl
  have h := run_slice_string (P := Tryz.prog) w 9 ⟨#[48, 49, 50, 51, 52, 53, 54, 55, 56, 57]⟩ .i64 .i64 (d : Int) ((d : Int) + 1) Tryz.underlying9 (by omega) (by omega) (by show (d : Int) + 1 ≤ ((10 : Nat) : Int); omega)
  rw [Int.toNat_natCast, show ((d : Int) + 1).toNat = d + 1 by omega, e] at h
  exact h
set_option maxRecDepth 100000 in
set_option maxHeartbeats 2000000 in
theorem decimal_any (n : Int) (w : World) (h0 : 0 ≤ n) (h1 : n ≤ 9223372036854775807) :
    Calls Tryz.prog 100 #[.int .i64 n] w fun e w' => e = .returned (.string (strB (decT n))) ∧ w = w' := by
  by_cases hz : n = 0
  · subst hz
    go_enter Tryz.func100, Tryz.ntmps100
    go_wp2
    go_ret
    exact ⟨ret_str rfl, rfl⟩
  · have hzb : (n == 0) = false := by simpa using hz
    have hneg : ¬ n < 0 := by omega
    have HD : Hid (decT n = dec10 n) := by show decT n = dec10 n; unfold decT; rw [if_neg hz, if_neg hneg]
    go_enter Tryz.func100, Tryz.ntmps100
    go_wp2_with fail
    go_loop [4, 5] (fun s kv => ∃ (k : Int) (l : List UInt8), 0 ≤ k ∧ k ≤ n ∧ kv = .int .i64 k ∧ s = .string (strB l) ∧ l.length ≤ 100 ∧ Hid (dec10 n = dec10 k ++ l)) (fun _ kv => (intOf kv).toNat)
    case atStart => exact ⟨n, [], h0, Int.le_refl _, rfl, rfl, by simp, by show dec10 n = dec10 n ++ []; simp⟩
    case round =>
      obtain ⟨k, l, hk0, hkn, rfl, rfl, hll, HL⟩ := hrel
      by_cases hk : k = 0
      · subst hk
        go_wp2_with fail
        go_ret
        exact ⟨ret_str (by rw [HD.out, HL.out, show dec10 0 = [] from by unfold dec10; rw [digs_neg (by omega)]; rfl]; rfl), rfl⟩
      · have hkb : (k == 0) = false := by simpa using hk
        have t1 : k.tmod 10 = k % 10 := Int.tmod_eq_emod_of_nonneg hk0
        have t2 : k.tdiv 10 = k / 10 := Int.tdiv_eq_ediv_of_nonneg hk0
        obtain ⟨d, hd⟩ : ∃ d : Nat, k % 10 = (d : Int) := ⟨(k % 10).toNat, by omega⟩
        have t4 : d < 10 := by omega
        rw [hd] at t1
        have HDD := Lib.hid hd
        have HK := Lib.hid (show 10 * (k / 10) + (d : Int) = k by omega)
        have t6 : (d : Int) + 1 ≤ 10 := by omega
        have hsl := digit_slice d t4 w
        have hs1 : (strB [chr (d : Int)]).size ≤ 1 := Nat.le_refl _
        have hs2 : (strB l).size ≤ 100 := hll
        have hl20 : l.length < 20 := by
          rcases Nat.lt_or_ge l.length 20 with h | h
          · exact h
          · have e := congrArg List.length HL.out
            rw [List.length_append] at e
            have h2 : (dec10 n).length ≤ 19 := by rw [dec_len]; exact digs_len (by omega) h0 (by have : (10 : Int) ^ 19 = 10000000000000000000 := by decide
                                                                                                 omega)
            omega
        have HL2 := Lib.hid (show dec10 n = dec10 (k / 10) ++ (chr (d : Int) :: l) by
          have e := dec_more (x := k / 10) (d := (d : Int)) (by omega) (by omega) (by have := HK.out; omega)
          rw [HK.out] at e
          rw [HL.out, e]; simp)
        clear hll
        go_wp2_with fail
        exact ⟨⟨k / 10, chr (d : Int) :: l, by omega, by omega, rfl, rfl, by simp; omega, HL2.out⟩, by simp [intOf]; omega⟩
end Go.Proofs.YtocooajlfpngdaaGreatDoor
namespace Go.Proofs.YtocooajlfpngdaaGreatDoor
open Go.RowKit
set_option linter.unusedVariables false

def strLen : Value → Nat
  | .string b => b.size
  | _ => 0
theorem strB_app (a b : List UInt8) : strB a ++ strB b = strB (a ++ b) := by
  unfold strB
  apply ByteArray.ext
  simp
theorem strB_size (l : List UInt8) : (strB l).size = l.length := rfl
theorem drop_pos {zs : List Int} (hd : Dig 10000 zs) (ht : Top zs) (k : Nat) (hk : k < zs.length) : 0 < dv 10000 (zs.drop k) := by
  have ht2 : Top (zs.drop k) := by
    unfold Top at *
    rw [List.getLast?_drop, if_neg (by omega)]
    exact ht
  have h := top_ge (show (1 : Int) < 10000 by omega) (hd.drop k) ht2 (fun e => by have := congrArg List.length e; rw [List.length_drop] at this; simp at this; omega)
  have := pow_pos' (show (0 : Int) < 10000 by omega) ((zs.drop k).length - 1)
  omega
theorem dec10_len4 {zs : List Int} (hd : Dig 10000 zs) (k : Nat) : (dec10 (dv 10000 (zs.drop k))).length ≤ 4 * zs.length := by
  rw [dec_len]
  refine digs_len (by omega) (dv_nonneg (by omega) (hd.drop k)) ?_
  have h1 := dv_lt (show (0 : Int) < 10000 by omega) (hd.drop k)
  have h2 := pow_mono' (show (0 : Int) < 10000 by omega) (show (zs.drop k).length ≤ zs.length by rw [List.length_drop]; omega)
  have h3 : (10 : Int) ^ (4 * zs.length) = 10000 ^ zs.length := by rw [Int.pow_mul]; rfl
  omega
def TextPost (z : Int) (w : World) (e : Ending) (w' : World) : Prop := e = .returned (.string (strB (decT z))) ∧ Below w.heap.size w w'
set_option maxRecDepth 100000 in
set_option maxHeartbeats 4000000 in
theorem text_any (z : Int) (v : Value) (w : World) (h : RepN w w.heap.size z v) (bz : Bits 60000 z) :
    Calls Tryz.prog 65 #[v] w (TextPost z w) := by
  obtain ⟨A, n, c, zs, rfl, hs, hn, hc, hA, hd, ht, hv, hl⟩ := h.parts (m := 5000) bz (by omega)
  have hzz := h.zero
  obtain ⟨b, hb⟩ : ∃ b, b = decide (z < 0) := ⟨_, rfl⟩
  rw [← hb]
  obtain ⟨W, hW⟩ : ∃ W, W = w.alloc (.cells #[.bool b, .slice A n c] 24) := ⟨_, rfl⟩
  have hal : Below w.heap.size w W := by rw [hW]; exact (Below.refl _ _).alloc (Nat.le_refl _) _
  have hk : Blk2 W w.heap.size 24 (.bool b) (.slice A n c) := by rw [hW]; exact Blk2.new _ _ _ _
  have HAL := Lib.hid hal
  have HS := Lib.hid (hs.below hal)
  have HD := Lib.hid hd
  have HT := Lib.hid ht
  have HV := Lib.hid hv
  have HB := Lib.hid hb
  have HW := Lib.hid hW
  have HLN := Lib.hid hs.len
  have HZ := Lib.hid hzz
  have g0 := hk.c0
  have g1 := hk.c1
  clear h bz hal hs hd ht hv hb hW hk hA hzz
  by_cases hn0 : n = 0
  · have hz : z = 0 := HZ.out.1 hn0
    subst hn0
    have HF := Lib.hid (show TextPost z w (.returned (.string ⟨#[48]⟩)) W from ⟨by rw [hz]; rfl, HAL.out⟩)
    clear hz
    go_enter Tryz.func65, Tryz.ntmps65
    go_upto_region 1 with (fail)
    rw [← HW.out]
    go_wp2_with fail
    go_ret
    exact HF.out
  · obtain ⟨p, rfl⟩ : ∃ p, n = p + 1 := ⟨n - 1, by omega⟩
    obtain ⟨ba, oa, rfl, _, hca⟩ := HS.out.at_ (by omega)
    have hpl : p < zs.length := by rw [HLN.out]; omega
    have hg := fun k => HD.out.get (show (0 : Int) < 10000 by omega) k
    have HG := Lib.hid hg
    have HCA := Lib.hid hca
    have c0 := hca p (by omega)
    obtain ⟨d, hd⟩ : ∃ d, d = zs[p]?.getD 0 := ⟨_, rfl⟩
    rw [← hd] at c0
    have hdb := hg p
    rw [← hd] at hdb
    have HDC := Lib.hid (decimal_any d W (by omega) (by omega))
    have hdrop : dv 10000 (zs.drop p) = d := by
      rw [List.drop_eq_getElem_cons hpl, List.drop_of_length_le (by rw [HLN.out]; omega), hd, List.getElem?_eq_getElem hpl]
      simp [dv]
    have hd0 := drop_pos HD.out HT.out p hpl
    have hdt : decT d = dec10 (dv 10000 (zs.drop p)) := by
      rw [hdrop] at hd0 ⊢
      unfold decT
      rw [if_neg (by omega), if_neg (by omega)]
    rw [hdt] at HDC
    have hl2 := dec10_len4 HD.out p
    rw [HLN.out] at hl2
    have hs0 : (strB (dec10 (dv 10000 (zs.drop p)))).size ≤ 20000 := by rw [strB_size]; omega
    have hne : ((p : Int) + 1 == 0) = false := by simp; omega
    have hp1 : (p : Int) + 1 - 1 = (p : Int) := by omega
    clear hd hdb hdrop hd0 hdt hl2 hg hca hn0 hpl
    go_enter Tryz.func65, Tryz.ntmps65
    go_upto_region 1 with (fail)
    rw [← HW.out]
    go_wp2_with fail
    refine HDC.out.mono ?_
    rintro e w1 ⟨rfl, rfl⟩
    clear c0 hs0
    go_wp2_with fail
    go_loop [3, 4] (fun ov iv => ∃ k : Nat, k ≤ p ∧ iv = .int .i64 ((k : Int) - 1) ∧ ov = .string (strB (dec10 (dv 10000 (zs.drop k))))) (fun _ iv => (intOf iv + 1).toNat)
    case atStart => exact ⟨p, Nat.le_refl _, by congr 1; omega, rfl⟩
    case round =>
      obtain ⟨k, hk, rfl, rfl⟩ := hrel
      have hl2 := dec10_len4 HD.out k
      rw [HLN.out] at hl2
      have hs0 : (strB (dec10 (dv 10000 (zs.drop k)))).size ≤ 20000 := by rw [strB_size]; omega
      clear hl2
      rcases Nat.eq_zero_or_pos k with rfl | hk0
      · have hv0 : dv 10000 (zs.drop 0) = (z.natAbs : Int) := by rw [List.drop_zero]; exact HV.out
        have hz0 : z ≠ 0 := fun e => by have := HZ.out.2 e; omega
        obtain ⟨s, hs⟩ : ∃ s, s = strB (dec10 (dv 10000 (zs.drop 0))) := ⟨_, rfl⟩
        rw [← hs] at hs0 ⊢
        cases b
        · have hb : ¬ z < 0 := by have h := HB.out; exact of_decide_eq_false h.symm
          have HF := Lib.hid (show TextPost z w (.returned (.string s)) W from ⟨by rw [hs, hv0]; unfold decT; rw [if_neg hz0, if_neg hb, show ((z.natAbs : Nat) : Int) = z by omega], HAL.out⟩)
          clear hv0 hz0 hs hb
          go_wp2_with fail
          go_ret
          exact HF.out
        · have hb : z < 0 := by have h := HB.out; exact of_decide_eq_true (p := z < 0) h.symm
          have HF := Lib.hid (show TextPost z w (.returned (.string (⟨#[45]⟩ ++ s))) W from ⟨by rw [hs, hv0]; unfold decT; rw [if_neg hz0, if_pos hb, show ((z.natAbs : Nat) : Int) = -z by omega, show (⟨#[45]⟩ : ByteArray) = strB [45] from rfl, strB_app]; rfl, HAL.out⟩)
          clear hv0 hz0 hs hb
          go_wp2_with fail
          go_ret
          exact HF.out
      · obtain ⟨j, rfl⟩ : ∃ j, k = j + 1 := ⟨k - 1, by omega⟩
        rw [show (((j + 1 : Nat) : Int) - 1) = (j : Int) by omega]
        have cj := HCA.out j (by omega)
        have hdb := HG.out j
        have hjl : j < zs.length := by rw [HLN.out]; omega
        have hjl2 : j + 1 < zs.length := by rw [HLN.out]; omega
        obtain ⟨d, hd⟩ : ∃ d, d = zs[j]?.getD 0 := ⟨_, rfl⟩
        rw [← hd] at cj hdb
        have HDC := Lib.hid (decimal_any d W (by omega) (by omega))
        have hst : dec10 (dv 10000 (zs.drop j)) = dec10 (dv 10000 (zs.drop (j + 1))) ++ pad4 d := by
          have e : zs.drop j = d :: zs.drop (j + 1) := by rw [List.drop_eq_getElem_cons hjl, hd, List.getElem?_eq_getElem hjl]; rfl
          rw [e, dv, Int.add_comm]
          exact dec_step4 (drop_pos HD.out HT.out (j + 1) hjl2) hdb
        have hpd := pad4_of hdb
        have HST := Lib.hid hst
        have HPD := Lib.hid hpd
        obtain ⟨X, hX⟩ : ∃ X, X = strB (dec10 (dv 10000 (zs.drop (j + 1)))) := ⟨_, rfl⟩
        rw [← hX] at hs0 ⊢
        have HX := Lib.hid hX
        clear hd hdb hst hpd hX hjl hjl2
        go_wp2_with fail
        refine HDC.out.mono ?_
        rintro e w1 ⟨rfl, rfl⟩
        clear cj
        go_wp2_with fail
        go_loop [5] (fun sv => ∃ q : Nat, q + (decT d).length ≤ 4 ∧ sv = .string (strB (List.replicate q 48 ++ decT d))) (fun sv => 4 - strLen sv)
        case atStart => exact ⟨0, by have := HPD.out.1; omega, rfl⟩
        case round =>
          obtain ⟨q, hq, rfl⟩ := hrel
          have hsz : (strB (List.replicate q 48 ++ decT d)).size = q + (decT d).length := by rw [strB_size]; simp
          obtain ⟨L, hL⟩ : ∃ L, L = (decT d).length := ⟨_, rfl⟩
          rw [← hL] at hsz hq
          obtain ⟨s, hs⟩ : ∃ s, s = strB (List.replicate q 48 ++ decT d) := ⟨_, rfl⟩
          rw [← hs] at hsz ⊢
          have hsz2 : s.size ≤ 4 := by omega
          have hsz3 : (s.size : Int) = ((q + L : Nat) : Int) := by omega
          have HL := Lib.hid hL
          have HSS := Lib.hid hs
          have HSZ := Lib.hid hsz
          clear hL hs hsz hsz3
          by_cases h4 : s.size < 4
          · go_wp2_with fail
            have e1 : (⟨#[48]⟩ : ByteArray) ++ s = strB (List.replicate (q + 1) 48 ++ decT d) := by
              rw [HSS.out, show (⟨#[48]⟩ : ByteArray) = strB [48] from rfl, strB_app, List.replicate_succ]
              rfl
            exact ⟨⟨q + 1, by have := HL.out; have := HSZ.out; omega, congrArg Value.string e1⟩, by
              show 4 - ((⟨#[48]⟩ : ByteArray) ++ s).size < 4 - s.size
              rw [ByteArray.size_append, show (⟨#[48]⟩ : ByteArray).size = 1 from rfl]
              omega⟩
          · have hs4 : s.size = 4 := by omega
            have HFF := Lib.hid (show X ++ s = strB (dec10 (dv 10000 (zs.drop j))) by
              have e : 4 - (decT d).length = q := by have := HSZ.out; have := HL.out; omega
              have h2 := HPD.out.2
              rw [e] at h2
              rw [HX.out, HSS.out, strB_app, HST.out, ← h2])
            clear hs4
            go_wp2_with fail
            exact ⟨⟨j, by omega, rfl, congrArg Value.string HFF.out⟩, by simp [intOf]⟩
end Go.Proofs.YtocooajlfpngdaaGreatDoor
