/- Contracts of the reference of wide: small, digits, digit. -/
import Derived.Test.YtpilpceclmppgaaDoorRef3G
namespace Go.Proofs.YtpilpceclmppgaaDoor
open Go.RowKit
set_option linter.unusedVariables false

def getI (zs : List Int) (i : Int) : Int := if i < 0 then 0 else zs[i.toNat]?.getD 0
theorem digits_any (A : Option Addr) (n c : Nat) (i : Int) (zs : List Int) (w : World) (h : Sl .i64 w w.heap.size A n zs) (hn : n ≤ 1000000) (hi : -10 ≤ i ∧ i ≤ 2000000) :
    Calls Tryd.prog 90 #[.slice A n c, .int .i64 i] w fun e w' => e = .returned (.int .i64 (getI zs i)) ∧ w = w' := by
  have hl := h.len
  by_cases hneg : i < 0
  · have e : getI zs i = 0 := if_pos hneg
    rw [e]
    have hd : decide (i < 0) = true := decide_eq_true hneg
    clear h hl e
    go_enter Tryd.func90, Tryd.ntmps90
    go_wp2
    go_ret
    exact ⟨rfl, rfl⟩
  · obtain ⟨k, rfl⟩ := Int.eq_ofNat_of_zero_le (show 0 ≤ i by omega)
    have e : getI zs (k : Int) = zs[k]?.getD 0 := by unfold getI; rw [if_neg hneg, Int.toNat_natCast]
    rw [e]
    have hk : k ≤ 2000000 := by omega
    by_cases hlt : k < n
    · obtain ⟨bl, off, rfl, hbl, hcl⟩ := h.at_ (by omega)
      have hcell := hcl k hlt
      clear hcl h hl e hneg hi
      go_enter Tryd.func90, Tryd.ntmps90
      go_wp2
      go_ret
      exact ⟨rfl, rfl⟩
    · have e : zs[k]?.getD 0 = 0 := by rw [List.getElem?_eq_none (by omega)]; rfl
      rw [e]
      clear h hl e hneg hi
      go_enter Tryd.func90, Tryd.ntmps90
      go_wp2
      go_ret
      exact ⟨rfl, rfl⟩

/-- bounds of a quotient's digit by the first digits -/
theorem digit_bd {zs ys : List Int} {m : Nat} (hz : Dig 10000 zs) (hy : Dig 10000 ys) (ty : Top ys) (hm : ys.length = m) (hm1 : 1 ≤ m) (hzl : zs.length ≤ m + 1) :
    0 ≤ 10000 * (10000 * getI zs m + getI zs (m - 1)) + getI zs (m - 2) ∧ 10000 * (10000 * getI zs m + getI zs (m - 1)) + getI zs (m - 2) < 1000000000000 ∧ 10000 ≤ 10000 * getI ys (m - 1) + getI ys (m - 2) ∧ 10000 * getI ys (m - 1) + getI ys (m - 2) < 100000000 ∧
    (10000 * (10000 * getI zs m + getI zs (m - 1)) + getI zs (m - 2)) / (10000 * getI ys (m - 1) + getI ys (m - 2) + 1) ≤ dv 10000 zs / dv 10000 ys ∧
    dv 10000 zs / dv 10000 ys ≤ (10000 * (10000 * getI zs m + getI zs (m - 1)) + getI zs (m - 2)) / (10000 * getI ys (m - 1) + getI ys (m - 2)) := by
  have gz : ∀ k : Nat, getI zs (k : Int) = zs[k]?.getD 0 := fun k => by unfold getI; rw [if_neg (by omega), Int.toNat_natCast]
  have gy : ∀ k : Nat, getI ys (k : Int) = ys[k]?.getD 0 := fun k => by unfold getI; rw [if_neg (by omega), Int.toNat_natCast]
  have bz := fun k => hz.get (show (0 : Int) < 10000 by omega) k
  have by_ := fun k => hy.get (show (0 : Int) < 10000 by omega) k
  have htop : 1 ≤ ys[m - 1]?.getD 0 := by
    have h1 : ys[m - 1]? ≠ some 0 := by rw [← hm, ← List.getLast?_eq_getElem?]; exact ty
    have h2 := by_ (m - 1)
    rw [List.getElem?_eq_getElem (by omega)] at h1 h2 ⊢
    simp only [Option.getD_some] at h2 ⊢
    have : ys[m - 1] ≠ 0 := fun e => h1 (by rw [e])
    omega
  have hb0 : 0 < dv 10000 ys := by
    have := top_ge (show (1 : Int) < 10000 by omega) hy ty (fun e => by rw [e] at hm; simp at hm; omega)
    have := pow_pos' (show (0 : Int) < 10000 by omega) (ys.length - 1)
    omega
  have hR0 := dv_nonneg (show (0 : Int) < 10000 by omega) hz
  rcases Nat.lt_or_ge 1 m with h2 | h2
  · obtain ⟨j, rfl⟩ : ∃ j, m = j + 2 := ⟨m - 2, by omega⟩
    rw [show (((j + 2 : Nat) : Int) - 1) = ((j + 1 : Nat) : Int) by omega, show (((j + 2 : Nat) : Int) - 2) = ((j : Nat) : Int) by omega, gz, gz, gz, gy, gy]
    rw [show j + 2 - 1 = j + 1 by omega] at htop
    have b0 := bz (j + 2)
    have b1 := bz (j + 1)
    have b2 := bz j
    have b3 := by_ (j + 1)
    have b4 := by_ j
    have ez : ∀ l : List Int, l.length ≤ j + 3 → j ≤ l.length → dv 10000 (l.drop j) = 10000 * (10000 * l[j + 2]?.getD 0 + l[j + 1]?.getD 0) + l[j]?.getD 0 := by
      intro l hl hjl
      have hd : ∀ q : List Int, q.length ≤ 3 → dv 10000 q = 10000 * (10000 * q[2]?.getD 0 + q[1]?.getD 0) + q[0]?.getD 0 := by
        intro q hq
        match q, hq with
        | [], _ => simp [dv]
        | [a], _ => simp [dv]
        | [a, b], _ => simp [dv]; omega
        | [a, b, c], _ => simp [dv]; omega
        | a :: b :: c :: d :: t, hq => simp at hq
      rw [hd _ (by rw [List.length_drop]; omega)]
      simp only [List.getElem?_drop]
      rfl
    have ey : dv 10000 (ys.drop j) = 10000 * ys[j + 1]?.getD 0 + ys[j]?.getD 0 := by
      rw [ez ys (by omega) (by omega), List.getElem?_eq_none (show ys.length ≤ j + 2 by omega)]
      simp
    have hty := top_part (show (1 : Int) < 10000 by omega) hy j (by omega)
    rw [ey] at hty
    have hP := pow_pos' (show (0 : Int) < 10000 by omega) j
    rcases Nat.lt_or_ge zs.length j with h3 | h3
    · have e0 : ∀ k, j ≤ k → zs[k]?.getD 0 = 0 := fun k hk => by rw [List.getElem?_eq_none (by omega)]; rfl
      rw [e0 _ (by omega), e0 _ (by omega), e0 _ (by omega)]
      have hz2 := dv_lt (show (0 : Int) < 10000 by omega) hz
      have hp2 := pow_mono' (show (0 : Int) < 10000 by omega) (show zs.length ≤ j by omega)
      have hq := quo_bd (R := dv 10000 zs) (b := dv 10000 ys) (u := 0) (l := 10000 * ys[j + 1]?.getD 0 + ys[j]?.getD 0) hP (by omega) (by omega) (by omega) (by omega) hty.1 hty.2
      refine ⟨by omega, by omega, by omega, by omega, ?_, ?_⟩
      · simpa using hq.1
      · simpa using hq.2
    · have htz := top_part (show (1 : Int) < 10000 by omega) hz j h3
      rw [ez zs (by omega) h3] at htz
      have hq := quo_bd hP (show 0 < 10000 * ys[j + 1]?.getD 0 + ys[j]?.getD 0 by omega) (show 0 ≤ 10000 * (10000 * zs[j + 2]?.getD 0 + zs[j + 1]?.getD 0) + zs[j]?.getD 0 by omega) htz.1 htz.2 hty.1 hty.2
      exact ⟨by omega, by omega, by omega, by omega, hq.1, hq.2⟩
  · obtain rfl : m = 1 := by omega
    have g2 : ∀ l : List Int, getI l (((1 : Nat) : Int) - 2) = 0 := fun l => by unfold getI; rw [if_pos (by omega)]
    rw [g2, g2, gz, show (((1 : Nat) : Int) - 1) = ((0 : Nat) : Int) by omega, gz, gy]
    have b0 := bz 1
    have b1 := bz 0
    have b3 := by_ 0
    rw [show 1 - 1 = 0 by omega] at htop
    have ez : dv 10000 zs = 10000 * zs[1]?.getD 0 + zs[0]?.getD 0 := by
      match zs, hzl with
      | [], _ => simp [dv]
      | [a], _ => simp [dv]
      | [a, b], _ => simp [dv]; omega
      | a :: b :: c :: t, hq => simp at hq
    have ey : dv 10000 ys = ys[0]?.getD 0 := by
      match ys, hm with
      | [a], _ => simp [dv]
    have hq := quo_bd1 (B := 10000) (by omega) hb0 hR0
    rw [ez, ey] at hq ⊢
    simp only [Int.add_zero]
    exact ⟨by omega, by omega, by omega, by omega, hq.1, hq.2⟩

def DigitPost (q : Int) (w : World) (e : Ending) (w' : World) : Prop := ∃ lo hi : Int, e = .returned (.tuple #[.int .i64 lo, .int .i64 hi]) ∧ 0 ≤ lo ∧ lo ≤ q ∧ q ≤ hi ∧ hi ≤ 9999 ∧ ∃ k, w' = w.drewN k
theorem DigitPost.mk {q : Int} (lo hi : Int) {w : World} (k : Nat) (h0 : 0 ≤ lo) (h1 : lo ≤ q) (h2 : q ≤ hi) (h3 : hi ≤ 9999) : DigitPost q w (.returned (.tuple #[.int .i64 lo, .int .i64 hi])) (w.drewN k) := ⟨lo, hi, rfl, h0, h1, h2, h3, k, rfl⟩
set_option maxHeartbeats 2000000 in
theorem digit_any (A E : Option Addr) (n c m f : Nat) (zs ys : List Int) (w : World) (h : Sl .i64 w w.heap.size A n zs) (k : Sl .i64 w w.heap.size E m ys) (hn : n ≤ m + 1) (hm : m ≤ 100000) (hm1 : 1 ≤ m) (hz : Dig 10000 zs) (hy : Dig 10000 ys) (ty : Top ys) (hlt : dv 10000 zs < 10000 * dv 10000 ys) :
    Calls Tryd.prog 80 #[.slice A n c, .slice E m f] w (DigitPost (dv 10000 zs / dv 10000 ys) w) := by
  obtain ⟨h1, h2, h3, h4, h5, h6⟩ := digit_bd hz hy ty k.len hm1 (by rw [h.len]; exact hn)
  have hbp : 0 < dv 10000 ys := by
    rcases Int.lt_or_le 0 (dv 10000 ys) with h | h
    · exact h
    · have := dv_nonneg (show (0 : Int) < 10000 by omega) hz
      omega
  have hq0 : 0 ≤ dv 10000 zs / dv 10000 ys := Int.ediv_nonneg (dv_nonneg (by omega) hz) (by omega)
  have hq1 : dv 10000 zs / dv 10000 ys ≤ 9999 := by
    have := Int.ediv_lt_of_lt_mul hbp hlt
    omega
  have hsm : n < m → dv 10000 zs / dv 10000 ys = 0 := fun hlt => by
    have := len_lt (show (1 : Int) < 10000 by omega) hz hy ty (by rw [h.len, k.len]; exact hlt)
    exact Int.ediv_eq_zero_of_lt (dv_nonneg (by omega) hz) this
  have HSM := Lib.hid hsm
  have D0 := Lib.hid (digits_any A n c (m : Int) zs w h (by omega) (by omega))
  have D1 := Lib.hid (digits_any A n c ((m : Int) - 1) zs w h (by omega) (by omega))
  have D2 := Lib.hid (digits_any A n c ((m : Int) - 2) zs w h (by omega) (by omega))
  have D3 := Lib.hid (digits_any E m f ((m : Int) - 1) ys w k (by omega) (by omega))
  have D4 := Lib.hid (digits_any E m f ((m : Int) - 2) ys w k (by omega) (by omega))
  have g0 : ∀ (l : List Int) (i : Int), Dig 10000 l → 0 ≤ getI l i ∧ getI l i ≤ 9999 := fun l i hl => by
    unfold getI
    split
    · omega
    · have := hl.get (show (0 : Int) < 10000 by omega) i.toNat; omega
  have a0 := g0 zs m hz
  have a1 := g0 zs (m - 1) hz
  have a2 := g0 zs (m - 2) hz
  have a3 := g0 ys (m - 1) hy
  have a4 := g0 ys (m - 2) hy
  obtain ⟨q, hq⟩ : ∃ q, q = dv 10000 zs / dv 10000 ys := ⟨_, rfl⟩
  rw [← hq] at h5 h6 hq0 hq1 ⊢
  rw [← hq] at HSM
  obtain ⟨r0, hr0⟩ : ∃ r, r = getI zs (m : Int) := ⟨_, rfl⟩
  obtain ⟨r1, hr1⟩ : ∃ r, r = getI zs ((m : Int) - 1) := ⟨_, rfl⟩
  obtain ⟨r2, hr2⟩ : ∃ r, r = getI zs ((m : Int) - 2) := ⟨_, rfl⟩
  obtain ⟨s1, hs1⟩ : ∃ r, r = getI ys ((m : Int) - 1) := ⟨_, rfl⟩
  obtain ⟨s2, hs2⟩ : ∃ r, r = getI ys ((m : Int) - 2) := ⟨_, rfl⟩
  rw [← hr0] at h1 h2 h5 h6 a0 D0
  rw [← hr1] at h1 h2 h5 h6 a1 D1
  rw [← hr2] at h1 h2 h5 h6 a2 D2
  rw [← hs1] at h3 h4 h5 h6 a3 D3
  rw [← hs2] at h3 h4 h5 h6 a4 D4
  obtain ⟨a00, a01⟩ := a0
  obtain ⟨a10, a11⟩ := a1
  obtain ⟨a20, a21⟩ := a2
  obtain ⟨a30, a31⟩ := a3
  obtain ⟨a40, a41⟩ := a4
  have H5 := Lib.hid h5
  have H6 := Lib.hid h6
  clear h k hz hy ty hlt hbp g0 hq hr0 hr1 hr2 hs1 hs2 hsm h5 h6
  by_cases hnm : n < m
  · obtain rfl : q = 0 := by exact HSM.out hnm
    clear HSM
    have hd : decide ((n : Int) < (m : Int)) = true := decide_eq_true (by omega)
    go_enter Tryd.func80, Tryd.ntmps80
    go_wp2_with fail
    go_ret2
    exact DigitPost.mk 0 0 0 (by omega) (by omega) (by omega) (by omega)
  · have hd : decide ((n : Int) < (m : Int)) = false := decide_eq_false (by omega)
    have hd2 : ((m : Int) == 0) = false := by simp; omega
    clear HSM
    go_enter Tryd.func80, Tryd.ntmps80
    go_wp2_with fail
    refine D0.out.mono ?_
    rintro e w1 ⟨rfl, rfl⟩
    go_wp2_with fail
    refine D1.out.mono ?_
    rintro e w1 ⟨rfl, rfl⟩
    go_wp2_with fail
    refine D2.out.mono ?_
    rintro e w1 ⟨rfl, rfl⟩
    go_wp2_with fail
    refine D3.out.mono ?_
    rintro e w1 ⟨rfl, rfl⟩
    go_wp2_with fail
    refine D4.out.mono ?_
    rintro e w1 ⟨rfl, rfl⟩
    go_wp2_with fail
    obtain ⟨U, hU⟩ : ∃ U, U = 10000 * (10000 * r0 + r1) + r2 := ⟨_, rfl⟩
    obtain ⟨V, hV⟩ : ∃ V, V = 10000 * s1 + s2 := ⟨_, rfl⟩
    rw [← hU] at h1 h2 H5 H6 ⊢
    rw [← hV] at h3 h4 H5 H6 ⊢
    clear hU hV D0 D1 D2 D3 D4 a00 a01 a10 a11 a20 a21 a30 a31 a40 a41
    have q1 := IntWalk.i64_quo U (V + 1) ⟨h1, by omega, by omega⟩
    have q2 := IntWalk.i64_quo U V ⟨h1, by omega, by omega⟩
    have e0 : IntKind.i64.wrap (V + 1) = V + 1 := IntWalk.i64_in _ (by omega)
    have z1 : ((V + 1) == 0) = false := by simp; omega
    have z2 : (V == 0) = false := by simp; omega
    have n1 : V + 1 ≠ 0 := by omega
    have n2 : V ≠ 0 := by omega
    have p1 : 0 ≤ U / (V + 1) := Int.ediv_nonneg h1 (by omega)
    obtain ⟨X, hX⟩ : ∃ X, X = U / (V + 1) := ⟨_, rfl⟩
    obtain ⟨Y, hY⟩ : ∃ Y, Y = U / V := ⟨_, rfl⟩
    rw [← hX] at q1 H5 p1
    rw [← hY] at q2 H6
    have b1 : X ≤ q := H5.out
    have b2 : q ≤ Y := H6.out
    clear hX hY H5 H6
    by_cases m1 : X < 9999
    · by_cases m2 : Y < 9999
      · go_quiet (fail)
        go_wp2
        go_ret2
        exact DigitPost.mk X Y _ (by omega) (by omega) (by omega) (by omega)
      · go_quiet (fail)
        go_wp2
        go_ret2
        exact DigitPost.mk X 9999 _ (by omega) (by omega) (by omega) (by omega)
    · by_cases m2 : Y < 9999
      · omega
      · go_quiet (fail)
        go_wp2
        go_ret2
        exact DigitPost.mk 9999 9999 _ (by omega) (by omega) (by omega) (by omega)
end Go.Proofs.YtpilpceclmppgaaDoor
