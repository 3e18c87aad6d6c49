/- Contracts of the reference of wide: Of, small. -/
import Derived.Test.YtpilpceclmppgaaDoorRef3F
namespace Go.Proofs.YtpilpceclmppgaaDoor
open Go.RowKit
set_option linter.unusedVariables false

/-! ### Of -/
theorem of_step {z M k r : Int} {l : List Int} (hd : Dig 10000 l) (h : dv 10000 l + 10000 ^ l.length * M = z) (hM : 0 ≤ M) : Dig 10000 (l ++ [M % 10000]) ∧ dv 10000 (l ++ [M % 10000]) + 10000 ^ (l ++ [M % 10000]).length * (M / 10000) = z := by
  refine ⟨hd.app (Dig.cons (by omega) Dig.nil), ?_⟩
  rw [dv_snoc, List.length_append, List.length_singleton, Int.pow_succ, Int.mul_assoc, Int.add_assoc, ← Int.mul_add, show M % 10000 + 10000 * (M / 10000) = M by omega]
  exact h

theorem of_few {z M : Int} {k : Nat} {l : List Int} (hd : Dig 10000 l) (hl : l.length = k) (h : dv 10000 l + 10000 ^ k * M = z) (hM : 1 ≤ M) (hz : z ≤ 9223372036854775808) : k ≤ 4 := by
  rcases Nat.lt_or_ge 4 k with h1 | h1
  · have h2 := pow_mono' (show (0 : Int) < 10000 by omega) (show 5 ≤ k by omega)
    have h3 : (10000 : Int) ^ 5 = 100000000000000000000 := by decide
    have h4 := dv_nonneg (show (0 : Int) < 10000 by omega) hd
    have h5 := Int.mul_le_mul_of_nonneg_left hM (Int.le_of_lt (pow_pos' (show (0 : Int) < 10000 by omega) k))
    rw [Int.mul_one] at h5
    omega
  · exact h1
theorem own_parts {k : IntKind} {w : World} {base n : Nat} {e : TypeId} {v : Value} {zs : List Int} (h : w.ownsRow base e 1 v n (zs.map (Value.int k))) :
    ∃ A c, v = .slice A n c ∧ n ≤ c ∧ c ≤ maxLen ∧ Sl k w w.heap.size A n zs ∧ (A = none → c = 0) := by
  obtain ⟨A, c, rfl, h1, h2, h3⟩ := Sl.of_own h
  refine ⟨A, c, rfl, h1, h2, h3, ?_⟩
  rintro rfl
  rcases h.2 with ⟨h4, _⟩ | ⟨g, cap, cur, h4, _⟩
  · injection h4
  · injection h4 with h4; cases h4
def OfI (z M : Int) (k : Nat) (l : List Int) : Prop := l.length = k ∧ Dig 10000 l ∧ dv 10000 l + 10000 ^ k * M = z
theorem OfI.step {z M : Int} {k : Nat} {l : List Int} (h : OfI z M k l) : OfI z (M / 10000) (k + 1) (l ++ [M % 10000]) := by
  obtain ⟨h1, h2, h3⟩ := h
  refine ⟨by simp [h1], h2.app (Dig.cons (by omega) Dig.nil), ?_⟩
  rw [dv_snoc, h1, Int.pow_succ, Int.mul_assoc, Int.add_assoc, ← Int.mul_add, show M % 10000 + 10000 * (M / 10000) = M by omega]
  exact h3

set_option maxRecDepth 100000 in
set_option maxHeartbeats 2000000 in
theorem of_pos (n : Int) (w : World) (h0 : 0 ≤ n) (h1 : n ≤ 9223372036854775807) :
    Calls Tryd.prog 23 #[.int .i64 n] w (NewN n w) := by
  obtain ⟨i0, hi, hz0, hz1, hz2⟩ := info_parts int_info
  have hneg : decide (n < 0) = false := decide_eq_false (by omega)
  have HB0 := Lib.hid (Blk2.new w 25 (.bool false) (.slice none 0 0))
  have HA0 := Lib.hid ((Below.refl w.heap.size w).alloc (Nat.le_refl _) (.cells #[.bool false, .slice none 0 0] 25))
  go_enter Tryd.func23, Tryd.ntmps23
  go_wp2_with fail
  go_loopw [0, 3] (fun nv dd wr => ∃ (M : Int) (k : Nat) (l : List Int), 0 ≤ M ∧ M ≤ n ∧ nv = .int .i64 M ∧ wr.ownsRow (w.heap.size + 1) 3 1 dd k (l.map (Value.int .i64)) ∧ Hid (OfI n M k l) ∧ Hid (Blk2 wr w.heap.size 25 (.bool false) (.slice none 0 0)) ∧ Below w.heap.size w wr) (fun nv _ _ => (intOf nv).toNat)
  case atStart => exact ⟨n, 0, [], h0, Int.le_refl _, rfl, World.ownsRow_nil _ _ _ _, by show OfI n n 0 []; exact ⟨rfl, Dig.nil, by simp [dv]⟩, HB0.out, HA0.out⟩
  case round =>
    clear hneg HB0 HA0
    obtain ⟨M, k, l, hM0, hM1, rfl, hown, HI, HBk, hb⟩ := hrel
    have HO := Lib.hid hown
    have HB := Lib.hid hb
    have hsz := HBk.out.lt
    rcases Int.lt_or_eq_of_le hM0 with hpos | rfl
    · have hk4 := of_few HI.out.2.1 HI.out.1 HI.out.2.2 (by omega) (by omega)
      have hne : M ≠ 0 := by omega
      have E1 := Lib.hid (show l.map (Value.int .i64) ++ [Value.int .i64 (M % 10000)] = (l ++ [M % 10000]).map (Value.int .i64) by simp)
      have HI2 := Lib.hid HI.out.step
      have hr1 : k + 1 ≤ maxLen := by unfold maxLen; omega
      have hr2 : (k + 1) * 8 ≤ 140737488355328 := by omega
      have hq0 : 0 ≤ M % 10000 := by omega
      have hq1 : ¬ (M % 10000 < 0) := by omega
      have hown := HO.out
      clear hb
      go_wp2_with (at_builtin; refine wpList_append_own _ rfl _ _ _ rfl (w.heap.size + 1) 3 i0 _ 1 8 Tryd.underlying22 hi hz0 hz1 hz2 rfl (by omega) _ k (l.map (Value.int .i64)) rfl (hown.alloc _) ⟨wr.heap.size, 0, none⟩ 1 1 [.int .i64 (M % 10000)] rfl rfl (cell_one_new _ _ _) (by simp [Value.oneCell']) hr1 hr2 (by simp; omega) ?_; intro v5 w5 hown5 hg5 hnil5; rw [E1.out] at hown5; have HB5 := Lib.hid ((HB.out.alloc HB.out.size _).trans (below_of_grown hg5 (by simp; omega) (fun g hg => by have := (hown.lt g hg).1; omega))); have HK5 := Lib.hid ((HBk.out.below ((Below.refl _ _).alloc (Nat.le_refl _) _)).grown hg5 (fun e => by have := (hown.lt w.heap.size e.symm).1; omega)); have O5 := Lib.hid hown5; clear hown5 hg5 hnil5)
      go_wp2_with fail
      exact ⟨⟨M / 10000, k + 1, l ++ [M % 10000], by omega, by omega, rfl, O5.out, HI2.out, HK5.out, HB5.out⟩, by simp [intOf]; omega⟩
    · obtain ⟨A1, k1, rfl, s1, s2, s3, s4⟩ := own_parts HO.out
      have HC := Lib.hid (normal_any false A1 k k1 wr.heap.size l wr s3 (Nat.le_refl _) s1 s2 s4 HI.out.2.1)
      have hV := HI.out.2.2
      rw [Int.mul_zero, Int.add_zero] at hV
      rw [hV] at HC
      clear s1 s2 s3 s4 hb hV
      have HZ : Hid ((if (false : Bool) = true then -n else n) = n) := by show (if (false : Bool) = true then -n else n) = n; simp
      go_wp2_with fail
      refine HC.out.mono ?_
      rintro e w5 h5
      obtain ⟨v5, rfl, hr, hb5⟩ := h5
      obtain ⟨d5, A5, n5, q5, rfl⟩ := hr.shape
      have hk := HBk.out.below hb5
      have hbb := HB.out.trans (hb5.mono HB.out.size)
      have f0 := hk.f0
      have f1 := hk.f1
      have c0 := hk.c0
      have c1 := hk.c1
      have HF := Lib.hid (newN_ret (hr.more hb5.size) hk hbb (by omega))
      clear hr hb5 hk hbb
      go_wp2_with fail
      exact bodyPost_ret (v := .agg #[.bool d5, .slice A5 n5 q5]) (by simp [results, Tryd.results23, go_sem, c0, c1]) rfl (by have h := HF.out; rw [HZ.out] at h; exact h)
set_option maxRecDepth 100000 in
set_option maxHeartbeats 2000000 in
theorem of_neg (n : Int) (w : World) (h0 : n < 0) (h1 : -9223372036854775808 ≤ n) :
    Calls Tryd.prog 23 #[.int .i64 n] w (NewN n w) := by
  obtain ⟨i0, hi, hz0, hz1, hz2⟩ := info_parts int_info
  have hneg : decide (n < 0) = true := decide_eq_true (by omega)
  have HB0 := Lib.hid (Blk2.new w 25 (.bool false) (.slice none 0 0))
  have HA0 := Lib.hid ((Below.refl w.heap.size w).alloc (Nat.le_refl _) (.cells #[.bool false, .slice none 0 0] 25))
  go_enter Tryd.func23, Tryd.ntmps23
  go_wp2_with fail
  go_loopw [0, 3] (fun nv dd wr => ∃ (M : Int) (k : Nat) (l : List Int), 0 ≤ M ∧ M ≤ -n ∧ nv = .int .i64 (-M) ∧ wr.ownsRow (w.heap.size + 1) 3 1 dd k (l.map (Value.int .i64)) ∧ Hid (OfI (-n) M k l) ∧ Hid (Blk2 wr w.heap.size 25 (.bool false) (.slice none 0 0)) ∧ Below w.heap.size w wr) (fun nv _ _ => (-(intOf nv)).toNat)
  case atStart => exact ⟨-n, 0, [], by omega, Int.le_refl _, by go_num, World.ownsRow_nil _ _ _ _, by show OfI (-n) (-n) 0 []; exact ⟨rfl, Dig.nil, by simp [dv]⟩, HB0.out, HA0.out⟩
  case round =>
    clear hneg HB0 HA0
    obtain ⟨M, k, l, hM0, hM1, rfl, hown, HI, HBk, hb⟩ := hrel
    have HO := Lib.hid hown
    have HB := Lib.hid hb
    have hsz := HBk.out.lt
    rcases Int.lt_or_eq_of_le hM0 with hpos | rfl
    · have hk4 := of_few HI.out.2.1 HI.out.1 HI.out.2.2 (by omega) (by omega)
      have hne : M ≠ 0 := by omega
      have htm : (-M).tmod 10000 = -(M % 10000) := by rw [Int.neg_tmod, Int.tmod_eq_emod_of_nonneg (by omega)]
      have htd : (-M).tdiv 10000 = -(M / 10000) := by rw [Int.neg_tdiv, Int.tdiv_eq_ediv_of_nonneg (by omega)]
      have E1 := Lib.hid (show l.map (Value.int .i64) ++ [Value.int .i64 (M % 10000)] = (l ++ [M % 10000]).map (Value.int .i64) by simp)
      have HI2 := Lib.hid HI.out.step
      have hr1 : k + 1 ≤ maxLen := by unfold maxLen; omega
      have hr2 : (k + 1) * 8 ≤ 140737488355328 := by omega
      have hq0 : 0 ≤ M % 10000 := by omega
      have hq1 : ¬ (M % 10000 < 0) := by omega
      have hown := HO.out
      clear hb
      by_cases hz : M % 10000 = 0
      · have E0 := Lib.hid (show l.map (Value.int .i64) ++ [Value.int .i64 0] = (l ++ [M % 10000]).map (Value.int .i64) by rw [hz]; simp)
        go_wp2_with (at_builtin; refine wpList_append_own _ rfl _ _ _ rfl (w.heap.size + 1) 3 i0 _ 1 8 Tryd.underlying22 hi hz0 hz1 hz2 rfl (by omega) _ k (l.map (Value.int .i64)) rfl (hown.alloc _) ⟨wr.heap.size, 0, none⟩ 1 1 [.int .i64 0] rfl rfl (cell_one_new _ _ _) (by simp [Value.oneCell']) hr1 hr2 (by simp; omega) ?_; intro v5 w5 hown5 hg5 hnil5; rw [E0.out] at hown5; have HB5 := Lib.hid ((HB.out.alloc HB.out.size _).trans (below_of_grown hg5 (by simp; omega) (fun g hg => by have := (hown.lt g hg).1; omega))); have HK5 := Lib.hid ((HBk.out.below ((Below.refl _ _).alloc (Nat.le_refl _) _)).grown hg5 (fun e => by have := (hown.lt w.heap.size e.symm).1; omega)); have O5 := Lib.hid hown5; clear hown5 hg5 hnil5)
        go_wp2_with fail
        exact ⟨⟨M / 10000, k + 1, l ++ [M % 10000], by omega, by omega, by go_num, O5.out, HI2.out, HK5.out, HB5.out⟩, by simp [intOf]; omega⟩
      · have hz' : -(M % 10000) < 0 := by omega
        go_wp2_with (at_builtin; refine wpList_append_own _ rfl _ _ _ rfl (w.heap.size + 1) 3 i0 _ 1 8 Tryd.underlying22 hi hz0 hz1 hz2 rfl (by omega) _ k (l.map (Value.int .i64)) rfl (hown.alloc _) ⟨wr.heap.size, 0, none⟩ 1 1 [.int .i64 (M % 10000)] rfl rfl (cell_one_new _ _ _) (by simp [Value.oneCell']) hr1 hr2 (by simp; omega) ?_; intro v5 w5 hown5 hg5 hnil5; rw [E1.out] at hown5; have HB5 := Lib.hid ((HB.out.alloc HB.out.size _).trans (below_of_grown hg5 (by simp; omega) (fun g hg => by have := (hown.lt g hg).1; omega))); have HK5 := Lib.hid ((HBk.out.below ((Below.refl _ _).alloc (Nat.le_refl _) _)).grown hg5 (fun e => by have := (hown.lt w.heap.size e.symm).1; omega)); have O5 := Lib.hid hown5; clear hown5 hg5 hnil5)
        go_wp2_with fail
        exact ⟨⟨M / 10000, k + 1, l ++ [M % 10000], by omega, by omega, by go_num, O5.out, HI2.out, HK5.out, HB5.out⟩, by simp [intOf]; omega⟩
    · obtain ⟨A1, k1, rfl, s1, s2, s3, s4⟩ := own_parts HO.out
      have HC := Lib.hid (normal_any true A1 k k1 wr.heap.size l wr s3 (Nat.le_refl _) s1 s2 s4 HI.out.2.1)
      have hV := HI.out.2.2
      rw [Int.mul_zero, Int.add_zero] at hV
      rw [hV] at HC
      clear s1 s2 s3 s4 hb hV
      have HZ : Hid ((if (true : Bool) = true then -(-n) else -n) = n) := by show (if (true : Bool) = true then -(-n) else -n) = n; simp
      go_wp2_with fail
      refine HC.out.mono ?_
      rintro e w5 h5
      obtain ⟨v5, rfl, hr, hb5⟩ := h5
      obtain ⟨d5, A5, n5, q5, rfl⟩ := hr.shape
      have hk := HBk.out.below hb5
      have hbb := HB.out.trans (hb5.mono HB.out.size)
      have f0 := hk.f0
      have f1 := hk.f1
      have c0 := hk.c0
      have c1 := hk.c1
      have HF := Lib.hid (newN_ret (hr.more hb5.size) hk hbb (by omega))
      clear hr hb5 hk hbb
      go_wp2_with fail
      exact bodyPost_ret (v := .agg #[.bool d5, .slice A5 n5 q5]) (by simp [results, Tryd.results23, go_sem, c0, c1]) rfl (by have h := HF.out; rw [HZ.out] at h; exact h)
theorem of_any (n : Int) (w : World) (h0 : -9223372036854775808 ≤ n) (h1 : n ≤ 9223372036854775807) :
    Calls Tryd.prog 23 #[.int .i64 n] w (NewN n w) := by
  rcases Int.lt_or_le n 0 with h | h
  · exact of_neg n w h h0
  · exact of_pos n w h h1
end Go.Proofs.YtpilpceclmppgaaDoor
