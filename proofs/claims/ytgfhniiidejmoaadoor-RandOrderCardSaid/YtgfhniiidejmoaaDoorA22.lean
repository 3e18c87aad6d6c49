/- Contracts of the reference of wide: Of, small. · Contracts of the reference of wide: small, digits, digit. · Contracts of the reference of wide: small. -/
import Derived.Test.YtgfhniiidejmoaaDoorA18
namespace Go.Proofs.YtgfhniiidejmoaaDoor
open Go.RowKit
set_option linter.unusedVariables false

/-! ### Of -/
theorem of_few {z M : Int} {k : Nat} {l : List Int} (hd : Dig 10000 l) (hl : l.length = k) (h : dv 10000 l + 10000 ^ k * M = z) (hM : 1 ≤ M) (hz : z ≤ 9223372036854775808) : k ≤ 4 := by
  rcases Nat.lt_or_ge 4 k with h1 | h1
  · have h2 := pow_mono' (show (0 : Int) < 10000 by omega) (show 5 ≤ k by omega)
    have h3 : (10000 : Int) ^ 5 = 100000000000000000000 := by decide
    have h4 := dv_nonneg (show (0 : Int) < 10000 by omega) hd
    have h5 := Int.mul_le_mul_of_nonneg_left hM (Int.le_of_lt (pow_pos' (show (0 : Int) < 10000 by omega) k))
    rw [Int.mul_one] at h5
    omega
  · exact h1
theorem own_parts {k : IntKind} {w : World} {base n : Nat} {e : TypeId} {v : Value} {zs : List Int} (h : w.ownsRow base e 1 v n (zs.map (Value.int k))) :
    ∃ A c, v = .slice A n c ∧ n ≤ c ∧ c ≤ maxLen ∧ Sl k w w.heap.size A n zs ∧ (A = none → c = 0) := by
  obtain ⟨A, c, rfl, h1, h2, h3⟩ := Sl.of_own h
  refine ⟨A, c, rfl, h1, h2, h3, ?_⟩
  rintro rfl
  rcases h.2 with ⟨h4, _⟩ | ⟨g, cap, cur, h4, _⟩
  · injection h4
  · injection h4 with h4; cases h4
def OfI (z M : Int) (k : Nat) (l : List Int) : Prop := l.length = k ∧ Dig 10000 l ∧ dv 10000 l + 10000 ^ k * M = z
theorem OfI.step {z M : Int} {k : Nat} {l : List Int} (h : OfI z M k l) : OfI z (M / 10000) (k + 1) (l ++ [M % 10000]) := by
  obtain ⟨h1, h2, h3⟩ := h
  refine ⟨by simp [h1], h2.app (Dig.cons (by omega) Dig.nil), ?_⟩
  rw [dv_snoc, h1, Int.pow_succ, Int.mul_assoc, Int.add_assoc, ← Int.mul_add, show M % 10000 + 10000 * (M / 10000) = M by omega]
  exact h3

set_option maxRecDepth 100000 in
set_option maxHeartbeats 2000000 in
theorem of_pos (n : Int) (w : World) (h0 : 0 ≤ n) (h1 : n ≤ 9223372036854775807) :
    Calls Tryd.prog 40 #[.int .i64 n] w (NewN n w) := by
  obtain ⟨i0, hi, hz0, hz1, hz2⟩ := info_parts int_info
  have hneg : decide (n < 0) = false := decide_eq_false (by omega)
  have HB0 := Lib.hid (Blk2.new w 69 (.bool false) (.slice none 0 0))
  have HA0 := Lib.hid ((Below.refl w.heap.size w).alloc (Nat.le_refl _) (.cells #[.bool false, .slice none 0 0] 69))
  go_enter Tryd.func40, Tryd.ntmps40
  go_wp2_with fail
  go_loopw [0, 3] (fun nv dd wr => ∃ (M : Int) (k : Nat) (l : List Int), 0 ≤ M ∧ M ≤ n ∧ nv = .int .i64 M ∧ wr.ownsRow (w.heap.size + 1) 3 1 dd k (l.map (Value.int .i64)) ∧ Hid (OfI n M k l) ∧ Hid (Blk2 wr w.heap.size 69 (.bool false) (.slice none 0 0)) ∧ Below w.heap.size w wr) (fun nv _ _ => (intOf nv).toNat)
  case atStart => exact ⟨n, 0, [], h0, Int.le_refl _, rfl, World.ownsRow_nil _ _ _ _, by show OfI n n 0 []; exact ⟨rfl, Dig.nil, by simp [dv]⟩, HB0.out, HA0.out⟩
  case round =>
    clear hneg HB0 HA0
    obtain ⟨M, k, l, hM0, hM1, rfl, hown, HI, HBk, hb⟩ := hrel
    have HO := Lib.hid hown
    have HB := Lib.hid hb
    have hsz := HBk.out.lt
    rcases Int.lt_or_eq_of_le hM0 with hpos | rfl
    · have hk4 := of_few HI.out.2.1 HI.out.1 HI.out.2.2 (by omega) (by omega)
      have hne : M ≠ 0 := by omega
      have E1 := Lib.hid (show l.map (Value.int .i64) ++ [Value.int .i64 (M % 10000)] = (l ++ [M % 10000]).map (Value.int .i64) by simp)
      have HI2 := Lib.hid HI.out.step
      have hr1 : k + 1 ≤ maxLen := by unfold maxLen; omega
      have hr2 : (k + 1) * 8 ≤ 140737488355328 := by omega
      have hq0 : 0 ≤ M % 10000 := by omega
      have hq1 : ¬ (M % 10000 < 0) := by omega
      have hown := HO.out
      clear hb
      go_wp2_with (at_builtin; refine wpList_append_own _ rfl _ _ _ rfl (w.heap.size + 1) 3 i0 _ 1 8 Tryd.underlying30 hi hz0 hz1 hz2 rfl (by omega) _ k (l.map (Value.int .i64)) rfl (hown.alloc _) ⟨wr.heap.size, 0, none⟩ 1 1 [.int .i64 (M % 10000)] rfl rfl (cell_one_new _ _ _) (by simp [Value.oneCell']) hr1 hr2 (by simp; omega) ?_; intro v5 w5 hown5 hg5 hnil5; rw [E1.out] at hown5; have HB5 := Lib.hid ((HB.out.alloc HB.out.size _).trans (below_of_grown hg5 (by simp; omega) (fun g hg => by have := (hown.lt g hg).1; omega))); have HK5 := Lib.hid ((HBk.out.below ((Below.refl _ _).alloc (Nat.le_refl _) _)).grown hg5 (fun e => by have := (hown.lt w.heap.size e.symm).1; omega)); have O5 := Lib.hid hown5; clear hown5 hg5 hnil5)
      go_wp2_with fail
      exact ⟨⟨M / 10000, k + 1, l ++ [M % 10000], by omega, by omega, rfl, O5.out, HI2.out, HK5.out, HB5.out⟩, by simp [intOf]; omega⟩
    · obtain ⟨A1, k1, rfl, s1, s2, s3, s4⟩ := own_parts HO.out
      have HC := Lib.hid (normal_any false A1 k k1 wr.heap.size l wr s3 (Nat.le_refl _) s1 s2 s4 HI.out.2.1)
      have hV := HI.out.2.2
      rw [Int.mul_zero, Int.add_zero] at hV
      rw [hV] at HC
      clear s1 s2 s3 s4 hb hV
      have HZ : Hid ((if (false : Bool) = true then -n else n) = n) := by show (if (false : Bool) = true then -n else n) = n; simp
      go_wp2_with fail
      refine HC.out.mono ?_
      rintro e w5 h5
      obtain ⟨v5, rfl, hr, hb5⟩ := h5
      obtain ⟨d5, A5, n5, q5, rfl⟩ := hr.shape
      have hk := HBk.out.below hb5
      have hbb := HB.out.trans (hb5.mono HB.out.size)
      have f0 := hk.f0
      have f1 := hk.f1
      have c0 := hk.c0
      have c1 := hk.c1
      have HF := Lib.hid (newN_ret (hr.more hb5.size) hk hbb (by omega))
      clear hr hb5 hk hbb
      go_wp2_with fail
      exact bodyPost_ret (v := .agg #[.bool d5, .slice A5 n5 q5]) (by simp [results, Tryd.results40, go_sem, c0, c1]) rfl (by have h := HF.out; rw [HZ.out] at h; exact h)
set_option maxRecDepth 100000 in
set_option maxHeartbeats 2000000 in
theorem of_neg (n : Int) (w : World) (h0 : n < 0) (h1 : -9223372036854775808 ≤ n) :
    Calls Tryd.prog 40 #[.int .i64 n] w (NewN n w) := by
  obtain ⟨i0, hi, hz0, hz1, hz2⟩ := info_parts int_info
  have hneg : decide (n < 0) = true := decide_eq_true (by omega)
  have HB0 := Lib.hid (Blk2.new w 69 (.bool false) (.slice none 0 0))
  have HA0 := Lib.hid ((Below.refl w.heap.size w).alloc (Nat.le_refl _) (.cells #[.bool false, .slice none 0 0] 69))
  go_enter Tryd.func40, Tryd.ntmps40
  go_wp2_with fail
  go_loopw [0, 3] (fun nv dd wr => ∃ (M : Int) (k : Nat) (l : List Int), 0 ≤ M ∧ M ≤ -n ∧ nv = .int .i64 (-M) ∧ wr.ownsRow (w.heap.size + 1) 3 1 dd k (l.map (Value.int .i64)) ∧ Hid (OfI (-n) M k l) ∧ Hid (Blk2 wr w.heap.size 69 (.bool false) (.slice none 0 0)) ∧ Below w.heap.size w wr) (fun nv _ _ => (-(intOf nv)).toNat)
  case atStart => exact ⟨-n, 0, [], by omega, Int.le_refl _, by go_num, World.ownsRow_nil _ _ _ _, by show OfI (-n) (-n) 0 []; exact ⟨rfl, Dig.nil, by simp [dv]⟩, HB0.out, HA0.out⟩
  case round =>
    clear hneg HB0 HA0
    obtain ⟨M, k, l, hM0, hM1, rfl, hown, HI, HBk, hb⟩ := hrel
    have HO := Lib.hid hown
    have HB := Lib.hid hb
    have hsz := HBk.out.lt
    rcases Int.lt_or_eq_of_le hM0 with hpos | rfl
    · have hk4 := of_few HI.out.2.1 HI.out.1 HI.out.2.2 (by omega) (by omega)
      have hne : M ≠ 0 := by omega
      have htm : (-M).tmod 10000 = -(M % 10000) := by rw [Int.neg_tmod, Int.tmod_eq_emod_of_nonneg (by omega)]
      have htd : (-M).tdiv 10000 = -(M / 10000) := by rw [Int.neg_tdiv, Int.tdiv_eq_ediv_of_nonneg (by omega)]
      have E1 := Lib.hid (show l.map (Value.int .i64) ++ [Value.int .i64 (M % 10000)] = (l ++ [M % 10000]).map (Value.int .i64) by simp)
      have HI2 := Lib.hid HI.out.step
      have hr1 : k + 1 ≤ maxLen := by unfold maxLen; omega
      have hr2 : (k + 1) * 8 ≤ 140737488355328 := by omega
      have hq0 : 0 ≤ M % 10000 := by omega
      have hq1 : ¬ (M % 10000 < 0) := by omega
      have hown := HO.out
      clear hb
      by_cases hz : M % 10000 = 0
      · have E0 := Lib.hid (show l.map (Value.int .i64) ++ [Value.int .i64 0] = (l ++ [M % 10000]).map (Value.int .i64) by rw [hz]; simp)
        go_wp2_with (at_builtin; refine wpList_append_own _ rfl _ _ _ rfl (w.heap.size + 1) 3 i0 _ 1 8 Tryd.underlying30 hi hz0 hz1 hz2 rfl (by omega) _ k (l.map (Value.int .i64)) rfl (hown.alloc _) ⟨wr.heap.size, 0, none⟩ 1 1 [.int .i64 0] rfl rfl (cell_one_new _ _ _) (by simp [Value.oneCell']) hr1 hr2 (by simp; omega) ?_; intro v5 w5 hown5 hg5 hnil5; rw [E0.out] at hown5; have HB5 := Lib.hid ((HB.out.alloc HB.out.size _).trans (below_of_grown hg5 (by simp; omega) (fun g hg => by have := (hown.lt g hg).1; omega))); have HK5 := Lib.hid ((HBk.out.below ((Below.refl _ _).alloc (Nat.le_refl _) _)).grown hg5 (fun e => by have := (hown.lt w.heap.size e.symm).1; omega)); have O5 := Lib.hid hown5; clear hown5 hg5 hnil5)
        go_wp2_with fail
        exact ⟨⟨M / 10000, k + 1, l ++ [M % 10000], by omega, by omega, by go_num, O5.out, HI2.out, HK5.out, HB5.out⟩, by simp [intOf]; omega⟩
      · have hz' : -(M % 10000) < 0 := by omega
        go_wp2_with (at_builtin; refine wpList_append_own _ rfl _ _ _ rfl (w.heap.size + 1) 3 i0 _ 1 8 Tryd.underlying30 hi hz0 hz1 hz2 rfl (by omega) _ k (l.map (Value.int .i64)) rfl (hown.alloc _) ⟨wr.heap.size, 0, none⟩ 1 1 [.int .i64 (M % 10000)] rfl rfl (cell_one_new _ _ _) (by simp [Value.oneCell']) hr1 hr2 (by simp; omega) ?_; intro v5 w5 hown5 hg5 hnil5; rw [E1.out] at hown5; have HB5 := Lib.hid ((HB.out.alloc HB.out.size _).trans (below_of_grown hg5 (by simp; omega) (fun g hg => by have := (hown.lt g hg).1; omega))); have HK5 := Lib.hid ((HBk.out.below ((Below.refl _ _).alloc (Nat.le_refl _) _)).grown hg5 (fun e => by have := (hown.lt w.heap.size e.symm).1; omega)); have O5 := Lib.hid hown5; clear hown5 hg5 hnil5)
        go_wp2_with fail
        exact ⟨⟨M / 10000, k + 1, l ++ [M % 10000], by omega, by omega, by go_num, O5.out, HI2.out, HK5.out, HB5.out⟩, by simp [intOf]; omega⟩
    · obtain ⟨A1, k1, rfl, s1, s2, s3, s4⟩ := own_parts HO.out
      have HC := Lib.hid (normal_any true A1 k k1 wr.heap.size l wr s3 (Nat.le_refl _) s1 s2 s4 HI.out.2.1)
      have hV := HI.out.2.2
      rw [Int.mul_zero, Int.add_zero] at hV
      rw [hV] at HC
      clear s1 s2 s3 s4 hb hV
      have HZ : Hid ((if (true : Bool) = true then -(-n) else -n) = n) := by show (if (true : Bool) = true then -(-n) else -n) = n; simp
      go_wp2_with fail
      refine HC.out.mono ?_
      rintro e w5 h5
      obtain ⟨v5, rfl, hr, hb5⟩ := h5
      obtain ⟨d5, A5, n5, q5, rfl⟩ := hr.shape
      have hk := HBk.out.below hb5
      have hbb := HB.out.trans (hb5.mono HB.out.size)
      have f0 := hk.f0
      have f1 := hk.f1
      have c0 := hk.c0
      have c1 := hk.c1
      have HF := Lib.hid (newN_ret (hr.more hb5.size) hk hbb (by omega))
      clear hr hb5 hk hbb
      go_wp2_with fail
      exact bodyPost_ret (v := .agg #[.bool d5, .slice A5 n5 q5]) (by simp [results, Tryd.results40, go_sem, c0, c1]) rfl (by have h := HF.out; rw [HZ.out] at h; exact h)
theorem of_any (n : Int) (w : World) (h0 : -9223372036854775808 ≤ n) (h1 : n ≤ 9223372036854775807) :
    Calls Tryd.prog 40 #[.int .i64 n] w (NewN n w) := by
  rcases Int.lt_or_le n 0 with h | h
  · exact of_neg n w h h0
  · exact of_pos n w h h1
end Go.Proofs.YtgfhniiidejmoaaDoor
namespace Go.Proofs.YtgfhniiidejmoaaDoor
open Go.RowKit
set_option linter.unusedVariables false

def getI (zs : List Int) (i : Int) : Int := if i < 0 then 0 else zs[i.toNat]?.getD 0
theorem digits_any (A : Option Addr) (n c : Nat) (i : Int) (zs : List Int) (w : World) (h : Sl .i64 w w.heap.size A n zs) (hn : n ≤ 1000000) (hi : -10 ≤ i ∧ i ≤ 2000000) :
    Calls Tryd.prog 109 #[.slice A n c, .int .i64 i] w fun e w' => e = .returned (.int .i64 (getI zs i)) ∧ w = w' := by
  have hl := h.len
  by_cases hneg : i < 0
  · have e : getI zs i = 0 := if_pos hneg
    rw [e]
    have hd : decide (i < 0) = true := decide_eq_true hneg
    clear h hl e
    go_enter Tryd.func109, Tryd.ntmps109
    go_wp2
    go_ret
    exact ⟨rfl, rfl⟩
  · obtain ⟨k, rfl⟩ := Int.eq_ofNat_of_zero_le (show 0 ≤ i by omega)
    have e : getI zs (k : Int) = zs[k]?.getD 0 := by unfold getI; rw [if_neg hneg, Int.toNat_natCast]
    rw [e]
    have hk : k ≤ 2000000 := by omega
    by_cases hlt : k < n
    · obtain ⟨bl, off, rfl, hbl, hcl⟩ := h.at_ (by omega)
      have hcell := hcl k hlt
      clear hcl h hl e hneg hi
      go_enter Tryd.func109, Tryd.ntmps109
      go_wp2
      go_ret
      exact ⟨rfl, rfl⟩
    · have e : zs[k]?.getD 0 = 0 := by rw [List.getElem?_eq_none (by omega)]; rfl
      rw [e]
      clear h hl e hneg hi
      go_enter Tryd.func109, Tryd.ntmps109
      go_wp2
      go_ret
      exact ⟨rfl, rfl⟩

/-- bounds of a quotient's digit by the first digits -/
theorem digit_bd {zs ys : List Int} {m : Nat} (hz : Dig 10000 zs) (hy : Dig 10000 ys) (ty : Top ys) (hm : ys.length = m) (hm1 : 1 ≤ m) (hzl : zs.length ≤ m + 1) :
    0 ≤ 10000 * (10000 * getI zs m + getI zs (m - 1)) + getI zs (m - 2) ∧ 10000 * (10000 * getI zs m + getI zs (m - 1)) + getI zs (m - 2) < 1000000000000 ∧ 10000 ≤ 10000 * getI ys (m - 1) + getI ys (m - 2) ∧ 10000 * getI ys (m - 1) + getI ys (m - 2) < 100000000 ∧
    (10000 * (10000 * getI zs m + getI zs (m - 1)) + getI zs (m - 2)) / (10000 * getI ys (m - 1) + getI ys (m - 2) + 1) ≤ dv 10000 zs / dv 10000 ys ∧
    dv 10000 zs / dv 10000 ys ≤ (10000 * (10000 * getI zs m + getI zs (m - 1)) + getI zs (m - 2)) / (10000 * getI ys (m - 1) + getI ys (m - 2)) := by
  have gz : ∀ k : Nat, getI zs (k : Int) = zs[k]?.getD 0 := fun k => by unfold getI; rw [if_neg (by omega), Int.toNat_natCast]
  have gy : ∀ k : Nat, getI ys (k : Int) = ys[k]?.getD 0 := fun k => by unfold getI; rw [if_neg (by omega), Int.toNat_natCast]
  have bz := fun k => hz.get (show (0 : Int) < 10000 by omega) k
  have by_ := fun k => hy.get (show (0 : Int) < 10000 by omega) k
  have htop : 1 ≤ ys[m - 1]?.getD 0 := by
    have h1 : ys[m - 1]? ≠ some 0 := by rw [← hm, ← List.getLast?_eq_getElem?]; exact ty
    have h2 := by_ (m - 1)
    rw [List.getElem?_eq_getElem (by omega)] at h1 h2 ⊢
    simp only [Option.getD_some] at h2 ⊢
    have : ys[m - 1] ≠ 0 := fun e => h1 (by rw [e])
    omega
  have hb0 : 0 < dv 10000 ys := by
    have := top_ge (show (1 : Int) < 10000 by omega) hy ty (fun e => by rw [e] at hm; simp at hm; omega)
    have := pow_pos' (show (0 : Int) < 10000 by omega) (ys.length - 1)
    omega
  have hR0 := dv_nonneg (show (0 : Int) < 10000 by omega) hz
  rcases Nat.lt_or_ge 1 m with h2 | h2
  · obtain ⟨j, rfl⟩ : ∃ j, m = j + 2 := ⟨m - 2, by omega⟩
    rw [show (((j + 2 : Nat) : Int) - 1) = ((j + 1 : Nat) : Int) by omega, show (((j + 2 : Nat) : Int) - 2) = ((j : Nat) : Int) by omega, gz, gz, gz, gy, gy]
    rw [show j + 2 - 1 = j + 1 by omega] at htop
    have b0 := bz (j + 2)
    have b1 := bz (j + 1)
    have b2 := bz j
    have b3 := by_ (j + 1)
    have b4 := by_ j
    have ez : ∀ l : List Int, l.length ≤ j + 3 → j ≤ l.length → dv 10000 (l.drop j) = 10000 * (10000 * l[j + 2]?.getD 0 + l[j + 1]?.getD 0) + l[j]?.getD 0 := by
      intro l hl hjl
      have hd : ∀ q : List Int, q.length ≤ 3 → dv 10000 q = 10000 * (10000 * q[2]?.getD 0 + q[1]?.getD 0) + q[0]?.getD 0 := by
        intro q hq
        match q, hq with
        | [], _ => simp [dv]
        | [a], _ => simp [dv]
        | [a, b], _ => simp [dv]; omega
        | [a, b, c], _ => simp [dv]; omega
        | a :: b :: c :: d :: t, hq => simp at hq
      rw [hd _ (by rw [List.length_drop]; omega)]
      simp only [List.getElem?_drop]
      rfl
    have ey : dv 10000 (ys.drop j) = 10000 * ys[j + 1]?.getD 0 + ys[j]?.getD 0 := by
      rw [ez ys (by omega) (by omega), List.getElem?_eq_none (show ys.length ≤ j + 2 by omega)]
      simp
    have hty := top_part (show (1 : Int) < 10000 by omega) hy j (by omega)
    rw [ey] at hty
    have hP := pow_pos' (show (0 : Int) < 10000 by omega) j
    rcases Nat.lt_or_ge zs.length j with h3 | h3
    · have e0 : ∀ k, j ≤ k → zs[k]?.getD 0 = 0 := fun k hk => by rw [List.getElem?_eq_none (by omega)]; rfl
      rw [e0 _ (by omega), e0 _ (by omega), e0 _ (by omega)]
      have hz2 := dv_lt (show (0 : Int) < 10000 by omega) hz
      have hp2 := pow_mono' (show (0 : Int) < 10000 by omega) (show zs.length ≤ j by omega)
      have hq := quo_bd (R := dv 10000 zs) (b := dv 10000 ys) (u := 0) (l := 10000 * ys[j + 1]?.getD 0 + ys[j]?.getD 0) hP (by omega) (by omega) (by omega) (by omega) hty.1 hty.2
      refine ⟨by omega, by omega, by omega, by omega, ?_, ?_⟩
      · simpa using hq.1
      · simpa using hq.2
    · have htz := top_part (show (1 : Int) < 10000 by omega) hz j h3
      rw [ez zs (by omega) h3] at htz
      have hq := quo_bd hP (show 0 < 10000 * ys[j + 1]?.getD 0 + ys[j]?.getD 0 by omega) (show 0 ≤ 10000 * (10000 * zs[j + 2]?.getD 0 + zs[j + 1]?.getD 0) + zs[j]?.getD 0 by omega) htz.1 htz.2 hty.1 hty.2
      exact ⟨by omega, by omega, by omega, by omega, hq.1, hq.2⟩
  · obtain rfl : m = 1 := by omega
    have g2 : ∀ l : List Int, getI l (((1 : Nat) : Int) - 2) = 0 := fun l => by unfold getI; rw [if_pos (by omega)]
    rw [g2, g2, gz, show (((1 : Nat) : Int) - 1) = ((0 : Nat) : Int) by omega, gz, gy]
    have b0 := bz 1
    have b1 := bz 0
    have b3 := by_ 0
    rw [show 1 - 1 = 0 by omega] at htop
    have ez : dv 10000 zs = 10000 * zs[1]?.getD 0 + zs[0]?.getD 0 := by
      match zs, hzl with
      | [], _ => simp [dv]
      | [a], _ => simp [dv]
      | [a, b], _ => simp [dv]; omega
      | a :: b :: c :: t, hq => simp at hq
    have ey : dv 10000 ys = ys[0]?.getD 0 := by
      match ys, hm with
      | [a], _ => simp [dv]
    have hq := quo_bd1 (B := 10000) (by omega) hb0 hR0
    rw [ez, ey] at hq ⊢
    simp only [Int.add_zero]
    exact ⟨by omega, by omega, by omega, by omega, hq.1, hq.2⟩

def DigitPost (q : Int) (w : World) (e : Ending) (w' : World) : Prop := ∃ lo hi : Int, e = .returned (.tuple #[.int .i64 lo, .int .i64 hi]) ∧ 0 ≤ lo ∧ lo ≤ q ∧ q ≤ hi ∧ hi ≤ 9999 ∧ ∃ k, w' = w.drewN k
theorem DigitPost.mk {q : Int} (lo hi : Int) {w : World} (k : Nat) (h0 : 0 ≤ lo) (h1 : lo ≤ q) (h2 : q ≤ hi) (h3 : hi ≤ 9999) : DigitPost q w (.returned (.tuple #[.int .i64 lo, .int .i64 hi])) (w.drewN k) := ⟨lo, hi, rfl, h0, h1, h2, h3, k, rfl⟩
set_option maxHeartbeats 2000000 in
theorem digit_any (A E : Option Addr) (n c m f : Nat) (zs ys : List Int) (w : World) (h : Sl .i64 w w.heap.size A n zs) (k : Sl .i64 w w.heap.size E m ys) (hn : n ≤ m + 1) (hm : m ≤ 100000) (hm1 : 1 ≤ m) (hz : Dig 10000 zs) (hy : Dig 10000 ys) (ty : Top ys) (hlt : dv 10000 zs < 10000 * dv 10000 ys) :
    Calls Tryd.prog 100 #[.slice A n c, .slice E m f] w (DigitPost (dv 10000 zs / dv 10000 ys) w) := by
  obtain ⟨h1, h2, h3, h4, h5, h6⟩ := digit_bd hz hy ty k.len hm1 (by rw [h.len]; exact hn)
  have hbp : 0 < dv 10000 ys := by
    rcases Int.lt_or_le 0 (dv 10000 ys) with h | h
    · exact h
    · have := dv_nonneg (show (0 : Int) < 10000 by omega) hz
      omega
  have hq0 : 0 ≤ dv 10000 zs / dv 10000 ys := Int.ediv_nonneg (dv_nonneg (by omega) hz) (by omega)
  have hq1 : dv 10000 zs / dv 10000 ys ≤ 9999 := by
    have := Int.ediv_lt_of_lt_mul hbp hlt
    omega
  have hsm : n < m → dv 10000 zs / dv 10000 ys = 0 := fun hlt => by
    have := len_lt (show (1 : Int) < 10000 by omega) hz hy ty (by rw [h.len, k.len]; exact hlt)
    exact Int.ediv_eq_zero_of_lt (dv_nonneg (by omega) hz) this
  have HSM := Lib.hid hsm
  have D0 := Lib.hid (digits_any A n c (m : Int) zs w h (by omega) (by omega))
  have D1 := Lib.hid (digits_any A n c ((m : Int) - 1) zs w h (by omega) (by omega))
  have D2 := Lib.hid (digits_any A n c ((m : Int) - 2) zs w h (by omega) (by omega))
  have D3 := Lib.hid (digits_any E m f ((m : Int) - 1) ys w k (by omega) (by omega))
  have D4 := Lib.hid (digits_any E m f ((m : Int) - 2) ys w k (by omega) (by omega))
  have g0 : ∀ (l : List Int) (i : Int), Dig 10000 l → 0 ≤ getI l i ∧ getI l i ≤ 9999 := fun l i hl => by
    unfold getI
    split
    · omega
    · have := hl.get (show (0 : Int) < 10000 by omega) i.toNat; omega
  have a0 := g0 zs m hz
  have a1 := g0 zs (m - 1) hz
  have a2 := g0 zs (m - 2) hz
  have a3 := g0 ys (m - 1) hy
  have a4 := g0 ys (m - 2) hy
  obtain ⟨q, hq⟩ : ∃ q, q = dv 10000 zs / dv 10000 ys := ⟨_, rfl⟩
  rw [← hq] at h5 h6 hq0 hq1 ⊢
  rw [← hq] at HSM
  obtain ⟨r0, hr0⟩ : ∃ r, r = getI zs (m : Int) := ⟨_, rfl⟩
  obtain ⟨r1, hr1⟩ : ∃ r, r = getI zs ((m : Int) - 1) := ⟨_, rfl⟩
  obtain ⟨r2, hr2⟩ : ∃ r, r = getI zs ((m : Int) - 2) := ⟨_, rfl⟩
  obtain ⟨s1, hs1⟩ : ∃ r, r = getI ys ((m : Int) - 1) := ⟨_, rfl⟩
  obtain ⟨s2, hs2⟩ : ∃ r, r = getI ys ((m : Int) - 2) := ⟨_, rfl⟩
  rw [← hr0] at h1 h2 h5 h6 a0 D0
  rw [← hr1] at h1 h2 h5 h6 a1 D1
  rw [← hr2] at h1 h2 h5 h6 a2 D2
  rw [← hs1] at h3 h4 h5 h6 a3 D3
  rw [← hs2] at h3 h4 h5 h6 a4 D4
  obtain ⟨a00, a01⟩ := a0
  obtain ⟨a10, a11⟩ := a1
  obtain ⟨a20, a21⟩ := a2
  obtain ⟨a30, a31⟩ := a3
  obtain ⟨a40, a41⟩ := a4
  have H5 := Lib.hid h5
  have H6 := Lib.hid h6
  clear h k hz hy ty hlt hbp g0 hq hr0 hr1 hr2 hs1 hs2 hsm h5 h6
  by_cases hnm : n < m
  · obtain rfl : q = 0 := by exact HSM.out hnm
    clear HSM
    have hd : decide ((n : Int) < (m : Int)) = true := decide_eq_true (by omega)
    go_enter Tryd.func100, Tryd.ntmps100
    go_wp2_with fail
    go_ret2
    exact DigitPost.mk 0 0 0 (by omega) (by omega) (by omega) (by omega)
  · have hd : decide ((n : Int) < (m : Int)) = false := decide_eq_false (by omega)
    have hd2 : ((m : Int) == 0) = false := by simp; omega
    clear HSM
    go_enter Tryd.func100, Tryd.ntmps100
    go_wp2_with fail
    refine D0.out.mono ?_
    rintro e w1 ⟨rfl, rfl⟩
    go_wp2_with fail
    refine D1.out.mono ?_
    rintro e w1 ⟨rfl, rfl⟩
    go_wp2_with fail
    refine D2.out.mono ?_
    rintro e w1 ⟨rfl, rfl⟩
    go_wp2_with fail
    refine D3.out.mono ?_
    rintro e w1 ⟨rfl, rfl⟩
    go_wp2_with fail
    refine D4.out.mono ?_
    rintro e w1 ⟨rfl, rfl⟩
    go_wp2_with fail
    obtain ⟨U, hU⟩ : ∃ U, U = 10000 * (10000 * r0 + r1) + r2 := ⟨_, rfl⟩
    obtain ⟨V, hV⟩ : ∃ V, V = 10000 * s1 + s2 := ⟨_, rfl⟩
    rw [← hU] at h1 h2 H5 H6 ⊢
    rw [← hV] at h3 h4 H5 H6 ⊢
    clear hU hV D0 D1 D2 D3 D4 a00 a01 a10 a11 a20 a21 a30 a31 a40 a41
    have q1 := IntWalk.i64_quo U (V + 1) ⟨h1, by omega, by omega⟩
    have q2 := IntWalk.i64_quo U V ⟨h1, by omega, by omega⟩
    have e0 : IntKind.i64.wrap (V + 1) = V + 1 := IntWalk.i64_in _ (by omega)
    have z1 : ((V + 1) == 0) = false := by simp; omega
    have z2 : (V == 0) = false := by simp; omega
    have n1 : V + 1 ≠ 0 := by omega
    have n2 : V ≠ 0 := by omega
    have p1 : 0 ≤ U / (V + 1) := Int.ediv_nonneg h1 (by omega)
    obtain ⟨X, hX⟩ : ∃ X, X = U / (V + 1) := ⟨_, rfl⟩
    obtain ⟨Y, hY⟩ : ∃ Y, Y = U / V := ⟨_, rfl⟩
    rw [← hX] at q1 H5 p1
    rw [← hY] at q2 H6
    have b1 : X ≤ q := H5.out
    have b2 : q ≤ Y := H6.out
    clear hX hY H5 H6
    by_cases m1 : X < 9999
    · by_cases m2 : Y < 9999
      · go_quiet (fail)
        go_wp2
        go_ret2
        exact DigitPost.mk X Y _ (by omega) (by omega) (by omega) (by omega)
      · go_quiet (fail)
        go_wp2
        go_ret2
        exact DigitPost.mk X 9999 _ (by omega) (by omega) (by omega) (by omega)
    · by_cases m2 : Y < 9999
      · omega
      · go_quiet (fail)
        go_wp2
        go_ret2
        exact DigitPost.mk 9999 9999 _ (by omega) (by omega) (by omega) (by omega)
end Go.Proofs.YtgfhniiidejmoaaDoor
namespace Go.Proofs.YtgfhniiidejmoaaDoor
open Go.RowKit
set_option linter.unusedVariables false

/-- new digits of the reference, no zero on top -/
def NewT (x : Int) (w : World) (e : Ending) (w' : World) : Prop :=
  ∃ A n c l, e = .returned (.slice A n c) ∧ Sl .i64 w' w'.heap.size A n l ∧ n ≤ c ∧ c ≤ maxLen ∧ (A = none → c = 0) ∧ Below w.heap.size w w' ∧ Dig 10000 l ∧ Top l ∧ dv 10000 l = x
set_option maxHeartbeats 1000000 in
theorem small_any (A : Option Addr) (n c : Nat) (k : Int) (zs : List Int) (w : World) (h : Sl .i64 w w.heap.size A n zs) (hn : n ≤ c) (hc : c ≤ maxLen) (hA : A = none → c = 0) (hd : Dig 10000 zs) (ht : Top zs) (hb : Bits 99000 (dv 10000 zs)) (k0 : 0 ≤ k) (k1 : k ≤ 9999) :
    Calls Tryd.prog 101 #[.slice A n c, .int .i64 k] w (NewT (dv 10000 zs * k) w) := by
  have h0 := dv_nonneg (show (0 : Int) < 10000 by omega) hd
  have hN : RepN w w.heap.size (dv 10000 zs) (.agg #[.bool false, .slice A n c]) := ⟨A, n, c, zs, by rw [decide_eq_false (by omega)], h, hn, hc, hA, hd, ht, by omega⟩
  have HN := Lib.hid hN
  have HO := Lib.hid (of_any k)
  clear h hd ht hA
  go_enter Tryd.func101, Tryd.ntmps101
  go_wp2_with fail
  refine (HO.out _ (by omega) (by omega)).mono ?_
  rintro e w1 h1
  obtain ⟨v1, rfl, r1, b1⟩ := h1
  obtain ⟨d1, A1, n1, q1, rfl⟩ := r1.shape
  have HM := Lib.hid (mul_any (dv 10000 zs) k _ _ w1 ((HN.out.below b1).more b1.size) r1 (hb.mono (by omega)) ((Bits.i64 (by omega) (by omega)).mono (by omega)))
  have HB1 := Lib.hid b1
  clear r1 b1
  go_wp2_with fail
  refine HM.out.mono ?_
  rintro e w2 h2
  obtain ⟨v2, rfl, r2, b2⟩ := h2
  obtain ⟨A2, n2, q2, l2, e2, s2, t1, t2, t3, t4, t5, t6⟩ := r2
  have hnn : 0 ≤ dv 10000 zs * k := Int.mul_nonneg h0 k0
  rw [decide_eq_false (by omega)] at e2
  subst e2
  have HB2 := Lib.hid (HB1.out.trans (b2.mono HB1.out.size))
  have HF := Lib.hid (show ∀ w3, Below w2.heap.size w2 w3 → NewT (dv 10000 zs * k) w (.returned (.slice A2 n2 q2)) w3 from fun w3 h3 => ⟨A2, n2, q2, l2, rfl, (s2.below h3).more h3.size, t1, t2, t3, HB2.out.trans (h3.mono HB2.out.size), t4, t5, by omega⟩)
  clear s2 t3 t4 t5 t6 b2 hnn h0 hb
  go_wp2_with fail
  go_ret
  exact HF.out _ (((Below.refl _ _).alloc (Nat.le_refl _) _))
end Go.Proofs.YtgfhniiidejmoaaDoor
