/- Contracts of the writer's methods. -/
import Derived.Test.YtjnjglkmabnlfaaMem
import Derived.Laws.BitsAllLaws
namespace Go.Proofs.Ytjnjglkmabnlfaa
open Go.RowKit
set_option linter.unusedVariables false

theorem xor_max (x : Int) (h : u64 x) : bits BinOp.xor IntKind.u64 IntKind.u64.max x = 18446744073709551615 - x := by
  rw [xor_eq]
  have e : BitVec.ofInt 64 IntKind.u64.max = BitVec.allOnes 64 := by decide
  rw [e, BitVec.allOnes_xor, BitVec.toNat_not]
  have := ofInt_toNat x
  have hl := (BitVec.ofInt 64 x).isLt
  unfold u64 at h
  omega
theorem wrap_neg (n : Int) (h0 : -9223372036854775808 ≤ n) (h : n < 0) : IntKind.u64.wrap (IntKind.u64.wrap n * 2) = 18446744073709551616 + 2 * n := by
  rw [IntKind.wrap_u64, IntKind.wrap_u64]; omega
theorem zig_neg (n : Int) (h0 : -9223372036854775808 ≤ n) (h : n < 0) : bits BinOp.xor IntKind.u64 IntKind.u64.max (IntKind.u64.wrap (IntKind.u64.wrap n * 2)) = zig n := by
  rw [wrap_neg n h0 h, xor_max _ (by unfold u64; omega), zig, if_pos h]; omega
theorem zigzag_any (n : Int) (w : World) (h : i64 n) :
    Calls Try.prog 54 #[.int .i64 n] w fun e w' => e = .returned (.int .u64 (zig n)) ∧ w = w' := by
  obtain ⟨h0, h1⟩ := h
  by_cases hn : n < 0
  · go_enter Try.func54, Try.ntmps54
    go_wp2
    go_ret
    exact ⟨ret_int (zig_neg n h0 hn), rfl⟩
  · go_enter Try.func54, Try.ntmps54
    go_wp2
    go_ret
    exact ⟨ret_int (by rw [zig, if_neg (by omega)]; omega), rfl⟩

theorem or128 (k : Int) (h : 0 ≤ k) : bits BinOp.or IntKind.u8 (k % 256) 128 = 128 + k % 128 := by
  rw [u8_or _ _ (by omega) (by omega) (by omega) (by omega)]
  have e : ∀ a : Fin 256, (a.val ||| 128) = 128 + a.val % 128 := by decide +kernel
  have := e ⟨(k % 256).toNat, by omega⟩
  simp only at this
  show (((k % 256).toNat ||| 128 : Nat) : Int) = _
  rw [this]; omega

set_option maxHeartbeats 1000000 in
theorem w_uint (p : Nat) (bs : List Int) (n : Int) (w : World) (h : Wr w p bs) (hn : u64 n) (hl : bs.length ≤ 1000000) :
    Calls Try.prog 27 #[.pointer (some ⟨p, 0, none⟩), .int .u64 n] w fun e w' => e = .returned (.tuple #[]) ∧ Wr w' p (bs ++ encU n) ∧ Below p w w' := by
  obtain ⟨i0, hi, hz0, hz1, hz2⟩ := info_parts u8_info
  have hen := encU_len n hn
  unfold u64 at hn
  have HW := Lib.hid h
  clear h
  go_enter Try.func27, Try.ntmps27
  go_wp2
  go_loopw [1] (fun i wr => ∃ (k : Int) (xs : List Int), 0 ≤ k ∧ k ≤ n ∧ i = .int .u64 k ∧ Hid (xs ++ encU k = bs ++ encU n) ∧ Wr wr p xs ∧ Below p w wr) (fun i _ => (intOf i).toNat)
  case atStart => exact ⟨n, bs, hn.1, Int.le_refl _, rfl, rfl, HW.out, Below.refl _ _⟩
  case round =>
    obtain ⟨k, xs, hk0, hk1, rfl, HE, ⟨v, hbx, hown⟩, hbel⟩ := hrel
    have hxl : xs.length ≤ 1000010 := by
      have := congrArg List.length HE.out
      have := encU_pos k
      simp only [List.length_append] at *; omega
    have hpw : p < wr.heap.size := hbx.lt
    obtain ⟨A, c, rfl, hnc, hcm, _⟩ := Sl.of_own hown
    have hc := hbx.cell
    have hf := hbx.frozen
    have HBX := Lib.hid hbx
    clear hbx
    have hr1 : xs.length + 1 ≤ maxLen := by unfold maxLen; omega
    have hr2 : (xs.length + 1) * 1 ≤ 140737488355328 := by omega
    have h1 : xs.length + 1 = (xs ++ [128 + k % 128]).length := by simp
    have h2 : xs.length + 1 = (xs ++ [k]).length := by simp
    have H1 := Lib.hid h1
    have H2 := Lib.hid h2
    clear h1 h2
    by_cases hlt : 128 ≤ k
    · have hor := or128 k hk0
      have HS := Lib.hid (encU_ge k (by omega))
      go_wp2_with (at_builtin; refine wpList_append_own _ rfl _ _ _ rfl p 5 i0 _ 1 1 Try.underlying24 hi hz0 hz1 hz2 rfl (by omega) _ xs.length (cB xs) rfl (hown.alloc _) ⟨wr.heap.size, 0, none⟩ 1 1 [.int .u8 (128 + k % 128)] rfl rfl (cell_one_new _ _ _) (by simp [Value.oneCell']) hr1 hr2 (by simp; omega) ?_; intro v1 w1 hown1 hg1 hnil1; obtain ⟨g1, cap1, rfl⟩ := ownsRow_succ hown1; obtain ⟨hv1, hv2, hr2', hk2, hb2⟩ := HBX.out.appended (by decide) hown (by omega) (Nat.le_refl _) hown1 hg1; have hc1 := hv1.cell; have hf1 := hv1.frozen)
      go_roundw
      case rel =>
        refine ⟨k / 128, xs ++ [128 + k % 128], by omega, by omega, rfl, ?_, ⟨_, hv2, ?_⟩, hbel.trans hb2⟩
        · show _ = _
          rw [← HE.out, HS.out]; simp
        · rw [← H1.out, ← cB_snoc]; exact hr2'
      case measure => simp [intOf]; omega
    · have hge : k < 128 := by omega
      have hk256 : k % 256 = k := by omega
      go_wp2_with (at_builtin; refine wpList_append_own _ rfl _ _ _ rfl p 5 i0 _ 1 1 Try.underlying24 hi hz0 hz1 hz2 rfl (by omega) _ xs.length (cB xs) rfl (hown.alloc _) ⟨wr.heap.size, 0, none⟩ 1 1 [.int .u8 k] rfl rfl (cell_one_new _ _ _) (by simp [Value.oneCell']) hr1 hr2 (by simp; omega) ?_; intro v1 w1 hown1 hg1 hnil1; obtain ⟨g1, cap1, rfl⟩ := ownsRow_succ hown1; obtain ⟨hv1, hv2, hr2', hk2, hb2⟩ := HBX.out.appended (by decide) hown (by omega) (Nat.le_refl _) hown1 hg1; have hc1 := hv1.cell; have hf1 := hv1.frozen)
      go_end0
      have e := HE.out
      rw [encU_lt k hge] at e
      refine ⟨rfl, ⟨_, hv2, ?_⟩, hbel.trans hb2⟩
      rw [← e, ← H2.out, ← cB_snoc]; exact hr2'
theorem w_int (p : Nat) (bs : List Int) (n : Int) (w : World) (h : Wr w p bs) (hn : i64 n) (hl : bs.length ≤ 1000000) :
    Calls Try.prog 29 #[.pointer (some ⟨p, 0, none⟩), .int .i64 n] w fun e w' => e = .returned (.tuple #[]) ∧ Wr w' p (bs ++ encU (zig n)) ∧ Below p w w' := by
  go_enter Try.func29, Try.ntmps29
  go_wp2_with fail
  refine (zigzag_any n _ hn).mono ?_
  rintro e w1 ⟨rfl, rfl⟩
  go_wp2_with fail
  refine (w_uint p bs _ _ h (zig_u64 n hn) hl).mono ?_
  rintro e w1 ⟨rfl, hw, hb⟩
  go_wp2_with fail
  go_end0
  exact ⟨rfl, hw, hb⟩

def bitI (b : Bool) : Int := if b then 1 else 0
set_option maxHeartbeats 400000 in
theorem w_bool (p : Nat) (bs : List Int) (b : Bool) (w : World) (h : Wr w p bs) (hl : bs.length ≤ 1000000) :
    Calls Try.prog 30 #[.pointer (some ⟨p, 0, none⟩), .bool b] w fun e w' => e = .returned (.tuple #[]) ∧ Wr w' p (bs ++ [bitI b]) ∧ Below p w w' := by
  obtain ⟨i0, hi, hz0, hz1, hz2⟩ := info_parts u8_info
  obtain ⟨v, hbx, hown⟩ := h
  have hpw : p < w.heap.size := hbx.lt
  obtain ⟨A, c, rfl, hnc, hcm, _⟩ := Sl.of_own hown
  have hc := hbx.cell
  have hf := hbx.frozen
  have HBX := Lib.hid hbx
  clear hbx
  have hr1 : bs.length + 1 ≤ maxLen := by unfold maxLen; omega
  have hr2 : (bs.length + 1) * 1 ≤ 140737488355328 := by omega
  have h2 : bs.length + 1 = (bs ++ [bitI b]).length := by simp
  have H2 := Lib.hid h2
  clear h2
  cases b
  all_goals
    go_enter Try.func30, Try.ntmps30
    go_wp2_with (at_builtin; refine wpList_append_own _ rfl _ _ _ rfl p 5 i0 _ 1 1 Try.underlying24 hi hz0 hz1 hz2 rfl (by omega) _ bs.length (cB bs) rfl (hown.alloc _) ⟨w.heap.size, 0, none⟩ 1 1 [.int .u8 _] rfl rfl (cell_one_new _ _ _) (by simp [Value.oneCell']) hr1 hr2 (by simp; omega) ?_; intro v1 w1 hown1 hg1 hnil1; obtain ⟨g1, cap1, rfl⟩ := ownsRow_succ hown1; obtain ⟨hv1, hv2, hr2', hk2, hb2⟩ := HBX.out.appended (by decide) hown (by omega) (Nat.le_refl _) hown1 hg1; have hc1 := hv1.cell; have hf1 := hv1.frozen)
    go_end0
    exact ⟨rfl, ⟨_, hv2, by rw [← H2.out, ← cB_snoc]; exact hr2'⟩, hb2⟩

set_option maxHeartbeats 400000 in
theorem w_raw (p : Nat) (bs : List Int) (A : Option Addr) (m c : Nat) (zs : List Int) (w : World) (h : Wr w p bs) (hs : Sl .u8 w p A m zs) (hA : A = none → c = 0) (hl : bs.length + m + 10 ≤ 1000000) :
    Calls Try.prog 31 #[.pointer (some ⟨p, 0, none⟩), .slice A m c] w fun e w' => e = .returned (.tuple #[]) ∧ Wr w' p (bs ++ encR zs) ∧ Below p w w' := by
  obtain ⟨i0, hi, hz0, hz1, hz2⟩ := info_parts u8_info
  have hu : u64 (m : Int) := by unfold u64; omega
  have hlm := encU_len (m : Int) hu
  have HE := Lib.hid (show encR zs = encU (m : Int) ++ zs by rw [encR, hs.len])
  have HZ := Lib.hid hs.len
  go_enter Try.func31, Try.ntmps31
  go_wp2_with fail
  refine (w_uint p bs (m : Int) _ h hu (by omega)).mono ?_
  rintro e w1 ⟨rfl, ⟨v, hbx, hown⟩, hb⟩
  have hs1 := hs.below hb
  obtain ⟨ys, hys⟩ : ∃ ys, ys = bs ++ encU (m : Int) := ⟨_, rfl⟩
  rw [← hys] at hown
  have hyl : ys.length ≤ bs.length + 10 := by rw [hys, List.length_append]; omega
  have HY := Lib.hid hys
  clear hys hlm
  have hpw : p < w1.heap.size := hbx.lt
  obtain ⟨A1, c1, rfl, hnc, hcm, _⟩ := Sl.of_own hown
  have hc := hbx.cell
  have hf := hbx.frozen
  have HBX := Lib.hid hbx
  have HB := Lib.hid hb
  clear hbx hb
  have hr1 : ys.length + m ≤ maxLen := by unfold maxLen; omega
  have hr2 : (ys.length + m) * 1 ≤ 140737488355328 := by omega
  have E1 := Lib.hid (show cB ys ++ zs.map (Value.int .u8) = cB (ys ++ zs) from cB_app ys zs)
  go_wp2_with (at_builtin; refine wpList_append_sl rfl _ _ _ rfl p 5 i0 _ 1 Try.underlying24 hi hz0 hz1 hz2 rfl _ ys.length (cB ys) rfl hown .u8 p A m c zs rfl hs1 hA hr1 hr2 (by omega) ?_; intro v1 w2 hown1 hg1; rw [E1.out] at hown1; obtain ⟨A2, c2, rfl, _, _, _⟩ := Sl.of_own (k := .u8) (zs := ys ++ zs) hown1; obtain ⟨hv1, hv2, hr2', hb2⟩ := box_put HBX.out (by decide) hown hown1 hg1; have hc1 := hv1.cell; have hf1 := hv1.frozen)
  go_end0
  refine ⟨rfl, ⟨_, hv2, ?_⟩, HB.out.trans hb2⟩
  rw [HE.out, ← List.append_assoc, ← HY.out, List.length_append, HZ.out]; exact hr2'
set_option maxHeartbeats 400000 in
theorem w_text (p : Nat) (bs : List Int) (s : ByteArray) (w : World) (h : Wr w p bs) (hl : bs.length + s.size + 10 ≤ 1000000) :
    Calls Try.prog 38 #[.pointer (some ⟨p, 0, none⟩), .string s] w fun e w' => e = .returned (.tuple #[]) ∧ Wr w' p (bs ++ encR (sB s)) ∧ Below p w w' := by
  obtain ⟨i0, hi, hz0, hz1, hz2⟩ := info_parts u8_info
  have hu : u64 (s.size : Int) := by unfold u64; omega
  have hlm := encU_len (s.size : Int) hu
  have HE := Lib.hid (show encR (sB s) = encU (s.size : Int) ++ sB s by rw [encR, sB_len])
  have HZ := Lib.hid (sB_len s)
  go_enter Try.func38, Try.ntmps38
  go_wp2_with fail
  refine (w_uint p bs (s.size : Int) _ h hu (by omega)).mono ?_
  rintro e w1 ⟨rfl, ⟨v, hbx, hown⟩, hb⟩
  obtain ⟨ys, hys⟩ : ∃ ys, ys = bs ++ encU (s.size : Int) := ⟨_, rfl⟩
  rw [← hys] at hown
  have hyl : ys.length ≤ bs.length + 10 := by rw [hys, List.length_append]; omega
  have HY := Lib.hid hys
  clear hys hlm
  have hpw : p < w1.heap.size := hbx.lt
  obtain ⟨A1, c1, rfl, hnc, hcm, _⟩ := Sl.of_own hown
  have hc := hbx.cell
  have hf := hbx.frozen
  have HBX := Lib.hid hbx
  have HB := Lib.hid hb
  clear hbx hb
  have hr1 : ys.length + s.size ≤ maxLen := by unfold maxLen; omega
  have hr2 : ys.length + s.size ≤ 140737488355328 := by omega
  have E1 := Lib.hid (show cB ys ++ Lib.strCells s = cB (ys ++ sB s) by rw [strCells_eq, cB_app])
  go_wp2_with (at_builtin; refine Lib.wpList_append_own_string _ rfl _ _ _ _ rfl p 5 i0 Try.underlying24 Try.underlying9 hi hz0 hz1 hz2 _ ys.length (cB ys) rfl hown s rfl hr1 hr2 (by omega) ?_; intro v1 w2 hown1 hg1 hnil1; rw [E1.out] at hown1; obtain ⟨A2, c2, rfl, _, _, _⟩ := Sl.of_own (k := .u8) (zs := ys ++ sB s) hown1; obtain ⟨hv1, hv2, hr2', hb2⟩ := box_put HBX.out (by decide) hown hown1 hg1; have hc1 := hv1.cell; have hf1 := hv1.frozen)
  go_end0
  refine ⟨rfl, ⟨_, hv2, ?_⟩, HB.out.trans hb2⟩
  rw [HE.out, ← List.append_assoc, ← HY.out, List.length_append, HZ.out]; exact hr2'

theorem encL_nil_len (l : List Int) (hz : ∀ n ∈ l, i64 n) : (l.flatMap (fun n => encU (zig n))).length ≤ 10 * l.length := by
  induction l with
  | nil => simp
  | cons x l ih =>
    have := encU_len (zig x) (zig_u64 x (hz x (by simp)))
    have := ih (fun n hn => hz n (by simp [hn]))
    simp only [List.flatMap_cons, List.length_append, List.length_cons]; omega
theorem take_flat {α β : Type} (f : α → List β) (zs : List α) (k : Nat) (h : k < zs.length) : (zs.take (k + 1)).flatMap f = (zs.take k).flatMap f ++ f (zs[k]) := by
  rw [List.take_succ_eq_append_getElem h, List.flatMap_append]; simp

set_option maxHeartbeats 400000 in
theorem w_ints (p : Nat) (bs : List Int) (A : Option Addr) (m c : Nat) (zs : List Int) (w : World) (h : Wr w p bs) (hs : Sl .i64 w p A m zs) (hz : ∀ n ∈ zs, i64 n) (hl : bs.length + 10 * m + 10 ≤ 1000000) :
    Calls Try.prog 32 #[.pointer (some ⟨p, 0, none⟩), .slice A m c] w fun e w' => e = .returned (.tuple #[]) ∧ Wr w' p (bs ++ encL zs) ∧ Below p w w' := by
  have hu : u64 (m : Int) := by unfold u64; omega
  have hlm := encU_len (m : Int) hu
  have HE := Lib.hid (show encL zs = encU (m : Int) ++ zs.flatMap (fun n => encU (zig n)) by rw [encL, hs.len])
  have HZ := Lib.hid hs.len
  have HS := Lib.hid hs
  have HI := Lib.hid hz
  clear hs hz
  go_enter Try.func32, Try.ntmps32
  go_wp2_with fail
  refine (w_uint p bs (m : Int) _ h hu (by omega)).mono ?_
  rintro e w1 ⟨rfl, hw, hb⟩
  have HW := Lib.hid hw
  have HB := Lib.hid hb
  clear hw hb
  go_wp2_with fail
  go_loopw [13] (fun i wr => ∃ k : Nat, k ≤ m ∧ i = .int .i64 k ∧ Wr wr p (bs ++ encU (m : Int) ++ (zs.take k).flatMap (fun n => encU (zig n))) ∧ Below p w wr) (fun i _ => m - (intOf i).toNat)
  case atStart => exact ⟨0, Nat.zero_le _, rfl, by simpa using HW.out, HB.out⟩
  case round =>
    obtain ⟨k, hk, rfl, hwr, hbel⟩ := hrel
    have HWR := Lib.hid hwr
    clear hwr
    by_cases hlt : k < m
    · obtain ⟨b, off, rfl, hb, hcl⟩ := HS.out.at_ (by omega)
      have hcell := (hbel.cell (p := ⟨b, off + k, none⟩) hb).trans (hcl k hlt)
      clear hcl
      have hkz : k < zs.length := by rw [HZ.out]; exact hlt
      have hln := encL_nil_len (zs.take k) (fun n hn => HI.out n (List.mem_of_mem_take hn))
      have hlk : (zs.take k).length ≤ k := List.length_take_le _ _
      go_wp2_with fail
      refine (w_int p _ _ _ HWR.out (HI.out _ (List.getElem_mem hkz)) (by simp only [List.length_append]; omega)).mono ?_
      rintro e w2 ⟨rfl, hw2, hb2⟩
      have HW2 := Lib.hid hw2
      clear hw2 hln
      go_wp2_with fail
      go_roundw
      case rel =>
        refine ⟨k + 1, by omega, by go_num, ?_, hbel.trans hb2⟩
        rw [take_flat _ zs k hkz, ← List.append_assoc]; exact HW2.out
      case measure => simp [intOf]; omega
    · obtain rfl : k = m := by omega
      go_wp2_with fail
      go_end0
      refine ⟨rfl, ?_, hbel⟩
      have := HWR.out
      rw [List.take_of_length_le (by rw [HZ.out]; omega), List.append_assoc, ← HE.out] at this
      exact this

/-! ### Clone, Done -/
theorem eq_nil24 : ∀ (w : World) (a : Option Addr) (n c n' c' : Nat), (binOp .eql 24 (.slice a n c) (.slice none n' c')).run Try.prog w = .ok (.bool a.isNone) w :=
  fun w a n c n' c' => Lib.run_eql_slice_nil w _ _ a n c n' c' Try.underlying24
set_option maxHeartbeats 400000 in
theorem clone_any (A : Option Addr) (n c : Nat) (zs : List Int) (w : World) (h : Sl .u8 w w.heap.size A n zs) (hA : A = none → c = 0) (hn : n ≤ 1000000) :
    Calls Try.prog 39 #[.slice A n c] w fun e w' => ∃ v, e = .returned v ∧ w'.ownsRow w.heap.size 5 1 v n (cB zs) ∧ Below w.heap.size w w' := by
  obtain ⟨i0, hi, hz0, hz1, hz2⟩ := info_parts u8_info
  have hr1 : 0 + n ≤ maxLen := by unfold maxLen; omega
  have hr2 : (0 + n) * 1 ≤ 140737488355328 := by omega
  have hq := eq_nil24
  cases A with
  | none =>
    obtain rfl := hA rfl
    obtain ⟨rfl, rfl⟩ := sl_none h
    go_enter Try.func39, Try.ntmps39
    go_wp2
    go_ret
    exact ⟨_, rfl, World.ownsRow_nil _ _ _ _, Below.refl _ _⟩
  | some ad =>
    have HS := Lib.hid h
    clear h
    have E1 := Lib.hid (show [] ++ zs.map (Value.int .u8) = cB zs from rfl)
    go_enter Try.func39, Try.ntmps39
    go_wp2_with (at_builtin; refine wpList_append_sl rfl _ _ _ rfl w.heap.size 5 i0 _ 1 Try.underlying24 hi hz0 hz1 hz2 rfl _ 0 [] rfl (World.ownsRow_made w #[] 0 (Nat.le_refl _) (Nat.zero_le _) rfl) .u8 w.heap.size (some ad) n c zs rfl (HS.out.below ((Below.refl _ w).alloc (Nat.le_refl _) _)) hA hr1 hr2 (by simp) ?_; intro v1 w2 hown1 hg1; rw [E1.out, Nat.zero_add] at hown1)
    go_ret
    exact ⟨_, rfl, hown1, ((Below.refl _ w).alloc (Nat.le_refl _) _).grown hg1 (by simp) (by intro k hk; have hk' : some w.heap.size = some k := hk; injection hk' with hk'; omega)⟩

set_option maxHeartbeats 400000 in
theorem w_done (p : Nat) (bs : List Int) (w : World) (h : Wr w p bs) (hl : bs.length ≤ 1000000) :
    Calls Try.prog 16 #[.pointer (some ⟨p, 0, none⟩)] w fun e w' => ∃ v, e = .returned v ∧ w'.ownsRow w.heap.size 5 1 v bs.length (cB bs) ∧ Below w.heap.size w w' := by
  obtain ⟨v, hbx, hown⟩ := h
  obtain ⟨A, c, rfl, hnc, hcm, hA, hsl⟩ := own_sl (k := .u8) hown
  have hc := hbx.cell
  have HS := Lib.hid hsl
  have HA := Lib.hid hA
  clear hsl hown hA
  go_enter Try.func16, Try.ntmps16
  go_wp2_with fail
  refine (clone_any A bs.length c bs _ HS.out HA.out hl).mono ?_
  rintro e w1 ⟨v, rfl, hown, hb⟩
  go_wp2_with fail
  go_ret
  exact ⟨_, rfl, hown, hb⟩
end Go.Proofs.Ytjnjglkmabnlfaa
