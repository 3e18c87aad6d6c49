/- Contracts of package frac: power. · Contracts of package frac: String. · Contracts: strings.Cut at a slash. -/
import Derived.Test.YtocooajlfpngdaaGreatDoorB36
import Derived.Test.YtocooajlfpngdaaGreatDoorB16
import Derived.BigRegion
namespace Go.Proofs.YtocooajlfpngdaaGreatDoor
open Go.RowKit
set_option linter.unusedVariables false

theorem nat_quo {N k M : Nat} (h : M = N / 2 ^ k) : (N : Int) / 2 ^ k = (M : Int) := by
  rw [h]
  norm_cast
theorem and_one_i64 (n : Int) : bits BinOp.and IntKind.i64 n 1 = n % 2 := by
  have h1 : (BitVec.ofInt 64 1).toNat = 2 ^ 1 - 1 := by decide
  have key : (BitVec.ofInt 64 n &&& BitVec.ofInt 64 1).toNat = (n % ((2 ^ 64 : Nat) : Int)).toNat % 2 ^ 1 := by
    rw [BitVec.toNat_and, BitVec.toNat_ofInt, h1, Nat.and_two_pow_sub_one_eq_mod]
  show IntKind.i64.wrap ((BitVec.ofInt 64 n &&& BitVec.ofInt 64 1).toNat : Nat) = n % 2
  rw [key, IntKind.wrap_i64]
  omega
theorem wint_info : (Tryz.prog.info? 34).map (fun i => (i.zero, i.size, i.bytes)) = some (some (.agg #[.bool false, .slice none 0 0]), 2, 32) := by kernel_rfl
theorem own_four (W : World) (t : TypeId) (a b c d : Value) : (W.alloc (.cells #[a, b, c, d] t)).ownsRow W.heap.size t 2 (.slice (some ⟨W.heap.size, 0, none⟩) 2 2) 2 [a, b, c, d] :=
  ⟨rfl, .inr ⟨W.heap.size, 2, #[a, b, c, d], rfl, Nat.le_refl _, World.alloc_heap_new _ _, Nat.le_refl _, by unfold maxLen; omega, rfl, rfl⟩⟩
theorem cells_pair (w : World) (t : TypeId) (a b : Value) (q : Nat) (hq : q = w.heap.size) : ∀ j u, [a, b][j]? = some u → (w.alloc (.cells #[a, b] t)).cell? ((⟨q, 0, none⟩ : Addr).add j) = some u := by
  subst hq
  intro j u hu
  have hj : j = 0 ∨ j = 1 := by
    have := (List.getElem?_eq_some_iff.1 hu).1
    simp at this
    omega
  rcases hj with rfl | rfl
  · simp at hu
    subst hu
    exact cell_at (World.alloc_heap_new w _) rfl
  · simp at hu
    subst hu
    exact cell_at (World.alloc_heap_new w _) rfl
theorem ArrI.of_own3 {W : World} {g : Nat} {cur : Array Value} {t : TypeId} {z1 z2 z3 : Int} {d1 d2 d3 : Bool} {A1 A2 A3 : Option Addr} {n1 c1 n2 c2 n3 c3 : Nat} (h : W.heap[g]? = some (.cells cur t (0, 0)))
    (ht : cur.toList.take 6 = [.bool d1, .slice A1 n1 c1, .bool d2, .slice A2 n2 c2, .bool d3, .slice A3 n3 c3]) (r1 : RepI W W.heap.size z1 (.agg #[.bool d1, .slice A1 n1 c1])) (r2 : RepI W W.heap.size z2 (.agg #[.bool d2, .slice A2 n2 c2])) (r3 : RepI W W.heap.size z3 (.agg #[.bool d3, .slice A3 n3 c3])) : ArrI W g [z1, z2, z3] := by
  refine ⟨(Array.getElem?_eq_some_iff.1 h).1, fun i hi => ?_⟩
  have hc : ∀ j, j < 6 → cur[j]? = (cur.toList.take 6)[j]? := fun j hj => by
    rw [List.getElem?_take, if_pos hj]
    simp
  rw [ht] at hc
  have : i = 0 ∨ i = 1 ∨ i = 2 := by simp at hi; omega
  rcases this with rfl | rfl | rfl
  · exact ⟨_, _, _, _, cell_at h (hc 0 (by omega)), cell_at h (hc 1 (by omega)), r1⟩
  · exact ⟨_, _, _, _, cell_at h (hc 2 (by omega)), cell_at h (hc 3 (by omega)), r2⟩
  · exact ⟨_, _, _, _, cell_at h (hc 4 (by omega)), cell_at h (hc 5 (by omega)), r3⟩
theorem prod_sq {x : Int} {m M : Nat} (hM : M = 2 * m) (hz : InL (x ^ m)) : prodF 1 [x ^ m, x ^ m] = (fitI (x ^ M), fitE (x ^ M)) := by
  rw [prod_two hz, pow_sq, hM]
theorem prod_sq1 {x : Int} {m M : Nat} (hM : M = 2 * m + 1) (hz : InL (x ^ m)) : prodF 1 [x ^ m, x ^ m, x] = (fitI (x ^ M), fitE (x ^ M)) := by
  have h1 : ((1 * x ^ m).natAbs : Int) < lim := by rw [Int.one_mul]; exact hz
  rw [prodF, if_pos h1, Int.one_mul, prodF]
  by_cases h2 : ((x ^ m * x ^ m).natAbs : Int) < lim
  · rw [if_pos h2, prodF, pow_sq1, hM]
    by_cases h3 : ((x ^ (2 * m + 1)).natAbs : Int) < lim
    · rw [if_pos h3, (fit_in h3).1, (fit_in h3).2]; rfl
    · rw [if_neg h3, (fit_out h3).1, (fit_out h3).2]
  · rw [if_neg h2]
    rw [pow_sq] at h2
    have h3 := pow_out lim_1 (show 2 * m ≤ 2 * m + 1 by omega) h2
    rw [hM, (fit_out h3).1, (fit_out h3).2]
theorem bitlen_gt (N : Nat) (h : N < 2 ^ 63) : N < 2 ^ Lib.bitLen N ∧ Lib.bitLen N ≤ 63 := by
  refine ⟨?_, Lib.bitLen_le N 63 (by omega) h⟩
  by_cases h0 : N = 0
  · subst h0; decide
  · exact (Lib.bitLenAux_bounds 64 N (by omega) h0).2.2
set_option maxRecDepth 100000 in
set_option maxHeartbeats 4000000 in
theorem fpower_any (x n : Int) (u : Value) (w : World) (hx : RepI w w.heap.size x u) (bx : (x.natAbs : Int) < lim) (h0 : 0 ≤ n) (hn : n ≤ 9223372036854775807) :
    Calls Tryz.prog 77 #[u, .int .i64 n] w (NewE (fitI (x ^ n.toNat)) (fitE (x ^ n.toNat)) w) := by
  obtain ⟨N, rfl⟩ : ∃ N : Nat, n = N := ⟨n.toNat, by omega⟩
  obtain ⟨i0, hi, hz0, hz1, hz2⟩ := info_parts wint_info
  rw [show ((N : Int)).toNat = N by omega]
  obtain ⟨L, hL⟩ : ∃ L, L = Lib.bitLen N := ⟨_, rfl⟩
  have hbl := bitlen_gt N (by omega)
  rw [← hL] at hbl
  have HLL := Lib.hid hL
  have ew0 : IntKind.u64.wrap (N : Int) = (N : Int) := by rw [IntKind.wrap_u64]; omega
  have HBL := Lib.hid hbl
  clear hL hbl
  replace bx := Lib.hid bx
  have HB := Lib.hid (Below.refl w.heap.size w)
  obtain ⟨dx, Ax, nx, cx, rfl⟩ := hx.shape
  have Vx := Lib.hid hx
  clear hx
  replace hn := Lib.hid hn
  go_enter Tryz.func77, Tryz.ntmps77
  have h := HoldI.new Vx.out
  have b := al_below w (.cells #[.bool dx, .slice Ax nx cx] 34)
  replace HB := Lib.hid (bstep HB.out b)
  clear b
  have Hx := Lib.hid h
  clear h Vx
  have h := Blk2.new (w.alloc (.cells #[.bool dx, .slice Ax nx cx] 34)) 34 (.bool false) (.slice none 0 0)
  simp only [World.size_alloc] at h
  have b := al_below (w.alloc (.cells #[.bool dx, .slice Ax nx cx] 34)) (.cells #[.bool false, .slice none 0 0] 34)
  replace HB := Lib.hid (bstep HB.out b)
  replace Hx := Lib.hid (Hx.out.below b)
  clear b
  have R0 := Lib.hid (show Blk2 _ (w.heap.size + 1) 34 (.bool false) (.slice none 0 0) from h)
  clear h
  go_wp2_with fail
  refine (from_any 1 _ (by omega) (by omega)).mono ?_
  rintro e w51 ⟨v, rfl, h, b⟩
  obtain ⟨d51, A51, n51, c51, rfl⟩ := h.shape
  have z51 := b.size
  simp only [World.size_alloc] at z51
  replace z51 := Lib.hid z51
  replace HB := Lib.hid (bstep HB.out b)
  replace Hx := Lib.hid (Hx.out.below b)
  replace R0 := Lib.hid (R0.out.below b)
  have V51 := Lib.hid h
  clear h b
  have h := HoldI.new V51.out
  have b := al_below w51 (.cells #[.bool d51, .slice A51 n51 c51] 34)
  replace HB := Lib.hid (bstep HB.out b)
  replace Hx := Lib.hid (Hx.out.below b)
  replace R0 := Lib.hid (R0.out.below b)
  clear b
  have H51 := Lib.hid h
  clear h V51
  go_wp2_with fail
  refine (Tryz.bits_Len (N : Int) _ (by omega) (by have := hn.out; omega)).mono ?_
  rintro e w' ⟨rfl, rfl⟩
  rw [show ((N : Int)).toNat = N by omega, ← HLL.out]
  go_wp2_with fail
  have HZ := Lib.hid (show (1 : Int) = x ^ (N / 2 ^ (L - 0)) ∧ InL 1 from ⟨by rw [Nat.sub_zero, Nat.div_eq_of_lt HBL.out.1, Int.pow_zero], lim_1⟩)
  have hz51 := z51.out
  go_loopg [16] L (fun gk iv wr => ∃ (i : Nat) (z : Int) (d0 : Bool) (A0 : Option Addr) (n0 c0 : Nat), gk + i = L ∧ iv = .int .i64 i ∧ Hid (HoldI wr w51.heap.size z d0 A0 n0 c0) ∧ Hid (z = x ^ (N / 2 ^ (L - i)) ∧ InL z) ∧ Hid (Blk2 wr (w.heap.size + 1) 34 (.bool false) (.slice none 0 0)) ∧ Hid (HoldI wr w.heap.size x dx Ax nx cx) ∧ Hid (Below w.heap.size w wr))
  case atStart => exact ⟨0, 1, _, _, _, _, by omega, rfl, H51, HZ, R0, Hx, HB⟩
  case round =>
    clear HB Hx R0 H51 HZ
    obtain ⟨i, z, d0, A0, n0, c0, hgi, rfl, HW, HZ, R0, Hx, HB⟩ := hrel
    by_cases hlt : (i : Int) < (L : Int)
    · obtain ⟨k, hk⟩ : ∃ k : Nat, L = i + k + 1 := ⟨L - i - 1, by omega⟩
      have hL63 : L ≤ 63 := HBL.out.2
      have hk63 : k ≤ 62 := by omega
      have ew1 : wrap64 ((L : Int) - 1) = (L : Int) - 1 := by unfold wrap64; omega
      have ew2 : wrap64 ((L : Int) - 1 - (i : Int)) = (k : Int) := by rw [show (L : Int) - 1 - (i : Int) = (k : Int) by omega]; unfold wrap64; omega
      have hmin : min k 64 = k := by omega
      have hip : (0 : Int) ≤ (i : Int) := Int.natCast_nonneg _
      have ew : IntKind.i64.wrap ((i : Int) + 1) = (i : Int) + 1 := IntWalk.i64_in _ (by have := HBL.out.2; omega)
      obtain ⟨M, hM⟩ : ∃ M : Nat, M = N / 2 ^ k := ⟨_, rfl⟩
      obtain ⟨m, hm⟩ : ∃ m : Nat, m = N / 2 ^ (k + 1) := ⟨_, rfl⟩
      have hMm := half_step (n := N) (k := k)
      rw [← hM, ← hm] at hMm
      have hMN : M ≤ N := by rw [hM]; exact Nat.div_le_self _ _
      have hzz := HZ.out
      rw [show L - i = k + 1 by omega, ← hm] at hzz
      obtain ⟨hz, hzl⟩ := hzz
      subst hz
      have HZL := Lib.hid hzl
      have hMI : (N : Int) / 2 ^ k = (M : Int) := nat_quo hM
      have HMI := Lib.hid (show M = N / 2 ^ (L - (i + 1)) by rw [hM, show L - (i + 1) = k by omega])
      have HMN := Lib.hid hMN
      clear HZ hzl hM hm hMN hk hL63
      rcases Nat.mod_two_eq_zero_or_one M with hb | hb
      · skip
        by_cases hf : ((x ^ M).natAbs : Int) < lim
        · have HF0 := Lib.hid hf
          clear hf
          have HMM := Lib.hid (show M = 2 * m from by omega)
          have hbit : bits BinOp.and IntKind.i64 ((N : Int) / 2 ^ k) 1 = 0 := by rw [and_one_i64, hMI]; omega
          clear hMm hMI hb
          have gHW0 := HW.out.c0
          have gHW1 := HW.out.c1
          go_wp2_with fail
          clear gHW0 gHW1
          have HR := Lib.hid (ArrI.mk2 (W := wr) 34 HW.out.2 HW.out.2)
          have hgR := Lib.hid (show wr.heap.size < (wr.alloc (.cells #[.bool d0, .slice A0 n0 c0, .bool d0, .slice A0 n0 c0] 34)).heap.size from by simp only [World.size_alloc]; omega)
          have b := al_below wr (.cells #[.bool d0, .slice A0 n0 c0, .bool d0, .slice A0 n0 c0] 34)
          replace HW := Lib.hid (HW.out.below b)
          replace R0 := Lib.hid (R0.out.below b)
          replace Hx := Lib.hid (Hx.out.below b)
          replace HB := Lib.hid (bstep HB.out b)
          clear b
          have HMP := product_any [x ^ m, x ^ m] wr.heap.size 2 2 _ HR.out hgR rfl (Lib.hid (by omega)) (in_two HZL.out HZL.out)
          rw [prod_sq HMM.out HZL.out] at HMP
          rw [(fit_in HF0.out).1, (fit_in HF0.out).2] at HMP
          dsimp only at HMP
          refine (HMP).mono ?_
          rintro e w52 ⟨v, rfl, h, b⟩
          obtain ⟨d52, A52, n52, c52, rfl⟩ := h.shape
          have z52 := b.size
          simp only [World.size_alloc] at z52
          replace z52 := Lib.hid z52
          replace HW := Lib.hid (HW.out.below b)
          replace R0 := Lib.hid (R0.out.below b)
          replace Hx := Lib.hid (Hx.out.below b)
          replace HB := Lib.hid (bstep HB.out b)
          have V52 := Lib.hid h
          clear h b
          clear HMP HR hgR
          have hne1 : w.heap.size + 1 ≠ w51.heap.size := by omega
          have hne2 : w.heap.size ≠ w51.heap.size := by omega
          have sHWa0 := HW.out.c0
          have tHWa0 := HW.out.1.f0
          have sHWa1 := HW.out.c1
          have tHWa1 := HW.out.1.f1
          have BK := Lib.hid HW.out.1
          have NB := Lib.hid (HoldI.made V52.out HW.out.1)
          replace R0 := Lib.hid (R0.out.off (u := .bool d52) (u' := .slice A52 n52 c52) (g := w51.heap.size) (by omega))
          replace Hx := Lib.hid (Hx.out.off (u := .bool d52) (u' := .slice A52 n52 c52) BK.out (by omega))
          replace HB := Lib.hid (below_off (u := .bool d52) (u' := .slice A52 n52 c52) (g := w51.heap.size) HB.out (by omega))
          replace V52 := Lib.hid (V52.out.st (u := .bool d52) (u' := .slice A52 n52 c52) BK.out)
          clear HW BK
          have HW := NB
          clear NB
          have HZ2 := Lib.hid (show x ^ M = x ^ (N / 2 ^ (L - (i + 1))) ∧ InL (x ^ M) from ⟨by rw [← HMI.out], HF0.out⟩)
          clear V52 HF0 HMM HZL HMI HMN bx HLL HBL hn z52
          go_wp2_with fail
          go_roundg (gk - 1)
          case measure => omega
          case rel => exact ⟨i + 1, x ^ M, _, _, _, _, by omega, by go_num, HW, HZ2, R0, Hx, HB⟩
        · have HF0 := Lib.hid hf
          clear hf
          have HMM := Lib.hid (show M = 2 * m from by omega)
          have hbit : bits BinOp.and IntKind.i64 ((N : Int) / 2 ^ k) 1 = 0 := by rw [and_one_i64, hMI]; omega
          clear hMm hMI hb
          have gHW0 := HW.out.c0
          have gHW1 := HW.out.c1
          go_wp2_with fail
          clear gHW0 gHW1
          have HR := Lib.hid (ArrI.mk2 (W := wr) 34 HW.out.2 HW.out.2)
          have hgR := Lib.hid (show wr.heap.size < (wr.alloc (.cells #[.bool d0, .slice A0 n0 c0, .bool d0, .slice A0 n0 c0] 34)).heap.size from by simp only [World.size_alloc]; omega)
          have b := al_below wr (.cells #[.bool d0, .slice A0 n0 c0, .bool d0, .slice A0 n0 c0] 34)
          replace HW := Lib.hid (HW.out.below b)
          replace R0 := Lib.hid (R0.out.below b)
          replace Hx := Lib.hid (Hx.out.below b)
          replace HB := Lib.hid (bstep HB.out b)
          clear b
          have HMP := product_any [x ^ m, x ^ m] wr.heap.size 2 2 _ HR.out hgR rfl (Lib.hid (by omega)) (in_two HZL.out HZL.out)
          rw [prod_sq HMM.out HZL.out] at HMP
          rw [(fit_out (Int.not_lt.2 HF0.out)).1, (fit_out (Int.not_lt.2 HF0.out)).2] at HMP
          dsimp only at HMP
          refine (HMP).mono ?_
          rintro e w52 ⟨v, rfl, h, b⟩
          obtain ⟨d52, A52, n52, c52, rfl⟩ := h.shape
          have z52 := b.size
          simp only [World.size_alloc] at z52
          replace z52 := Lib.hid z52
          replace HW := Lib.hid (HW.out.below b)
          replace R0 := Lib.hid (R0.out.below b)
          replace Hx := Lib.hid (Hx.out.below b)
          replace HB := Lib.hid (bstep HB.out b)
          have V52 := Lib.hid h
          clear h b
          clear HMP HR hgR
          have hne1 : w.heap.size + 1 ≠ w51.heap.size := by omega
          have hne2 : w.heap.size ≠ w51.heap.size := by omega
          have sHWa0 := HW.out.c0
          have tHWa0 := HW.out.1.f0
          have sHWa1 := HW.out.c1
          have tHWa1 := HW.out.1.f1
          have BK := Lib.hid HW.out.1
          have NB := Lib.hid (HoldI.made V52.out HW.out.1)
          replace R0 := Lib.hid (R0.out.off (u := .bool d52) (u' := .slice A52 n52 c52) (g := w51.heap.size) (by omega))
          replace Hx := Lib.hid (Hx.out.off (u := .bool d52) (u' := .slice A52 n52 c52) BK.out (by omega))
          replace HB := Lib.hid (below_off (u := .bool d52) (u' := .slice A52 n52 c52) (g := w51.heap.size) HB.out (by omega))
          replace V52 := Lib.hid (V52.out.st (u := .bool d52) (u' := .slice A52 n52 c52) BK.out)
          clear HW BK
          have HW := NB
          clear NB
          have HOUT := Lib.hid (pow_out lim_1 HMN.out (Int.not_lt.2 HF0.out))
          clear V52 HF0 HMM HZL HMI HMN bx HLL HBL hn hi hz0 hz1 hz2 z52
          have gR00 := R0.out.c0
          have yR00 := R0.out.f0
          have gR01 := R0.out.c1
          have yR01 := R0.out.f1
          have HF := Lib.hid (retI (RepI.zero _ _) R0.out HB.out (by omega))
          clear HW R0 Hx HB
          go_wp2_with fail
          exact bodyPost_ret (v := .tuple #[.agg #[.bool false, .slice none 0 0], .int .i64 4]) (by simp [results, Tryz.results77, go_sem, gR00, gR01]) rfl (by rw [(fit_out (Int.not_lt.2 HOUT.out)).1, (fit_out (Int.not_lt.2 HOUT.out)).2]; exact ⟨_, rfl, HF.out.1, HF.out.2.1⟩)
      · skip
        by_cases hf : ((x ^ M).natAbs : Int) < lim
        · have HF0 := Lib.hid hf
          clear hf
          have HMM := Lib.hid (show M = 2 * m + 1 from by omega)
          have hbit : bits BinOp.and IntKind.i64 ((N : Int) / 2 ^ k) 1 = 1 := by rw [and_one_i64, hMI]; omega
          clear hMm hMI hb
          have gHW0 := HW.out.c0
          have gHW1 := HW.out.c1
          have fx0 := (Hx.out.below (al_below wr (.cells #[.bool d0, .slice A0 n0 c0, .bool d0, .slice A0 n0 c0] 34))).c0
          have fx1 := (Hx.out.below (al_below wr (.cells #[.bool d0, .slice A0 n0 c0, .bool d0, .slice A0 n0 c0] 34))).c1
          have hown := (own_four wr 34 (.bool d0) (.slice A0 n0 c0) (.bool d0) (.slice A0 n0 c0)).alloc (.cells #[.bool dx, .slice Ax nx cx] 34)
          go_wp2_with (at_builtin; refine wpList_append_own _ rfl _ _ _ rfl wr.heap.size 34 i0 _ 2 32 Tryz.underlying138 hi hz0 hz1 hz2 rfl (by omega) _ 2 [.bool d0, .slice A0 n0 c0, .bool d0, .slice A0 n0 c0] rfl hown ⟨wr.heap.size + 1, 0, none⟩ 1 1 [.bool dx, .slice Ax nx cx] rfl rfl (cells_pair _ _ _ _ _ (by rw [World.size_alloc])) (by simp [Value.oneCell']) (by unfold maxLen; omega) (by omega) (by simp only [World.size_alloc]; omega) ?_; intro v1 w1 hown1 hg1 hnil1)
          have hb1 : Below wr.heap.size wr w1 := (bal (al_below wr (.cells #[.bool d0, .slice A0 n0 c0, .bool d0, .slice A0 n0 c0] 34)) (.cells #[.bool dx, .slice Ax nx cx] 34)).trans (below_of_grown hg1 (by simp only [World.size_alloc]; omega) (fun g hg => by cases hg; exact Nat.le_refl _))
          rcases hown1.2 with ⟨_, h3⟩ | ⟨gN, cap, cur, rfl, hbg, hcell, hn3, hcm, hcs, htake⟩
          · exact absurd h3 (by omega)
          clear gHW0 gHW1
          clear fx0 fx1 hown hnil1 hg1 hn3 hcm hcs hbg
          replace HW := Lib.hid (HW.out.below hb1)
          replace R0 := Lib.hid (R0.out.below hb1)
          replace Hx := Lib.hid (Hx.out.below hb1)
          replace HB := Lib.hid (bstep HB.out hb1)
          have HR := Lib.hid (ArrI.of_own3 hcell htake HW.out.2 HW.out.2 Hx.out.2)
          have hgR := Lib.hid HR.out.1
          have hz1 := hb1.size
          have z1_ := Lib.hid hz1
          clear hb1 hcell htake hown1 hz1
          go_wp2_with fail
          have HMP := product_any [x ^ m, x ^ m, x] gN 3 cap w1 HR.out hgR rfl (Lib.hid (by omega)) (in_three HZL.out HZL.out bx.out)
          rw [prod_sq1 HMM.out HZL.out] at HMP
          rw [(fit_in HF0.out).1, (fit_in HF0.out).2] at HMP
          dsimp only at HMP
          refine (HMP).mono ?_
          rintro e w52 ⟨v, rfl, h, b⟩
          obtain ⟨d52, A52, n52, c52, rfl⟩ := h.shape
          have z52 := b.size
          replace z52 := Lib.hid z52
          replace HW := Lib.hid (HW.out.below b)
          replace R0 := Lib.hid (R0.out.below b)
          replace Hx := Lib.hid (Hx.out.below b)
          replace HB := Lib.hid (bstep HB.out b)
          have V52 := Lib.hid h
          clear h b
          clear HMP HR hgR
          have hne1 : w.heap.size + 1 ≠ w51.heap.size := by omega
          have hne2 : w.heap.size ≠ w51.heap.size := by omega
          have sHWa0 := HW.out.c0
          have tHWa0 := HW.out.1.f0
          have sHWa1 := HW.out.c1
          have tHWa1 := HW.out.1.f1
          have BK := Lib.hid HW.out.1
          have NB := Lib.hid (HoldI.made V52.out HW.out.1)
          replace R0 := Lib.hid (R0.out.off (u := .bool d52) (u' := .slice A52 n52 c52) (g := w51.heap.size) (by omega))
          replace Hx := Lib.hid (Hx.out.off (u := .bool d52) (u' := .slice A52 n52 c52) BK.out (by omega))
          replace HB := Lib.hid (below_off (u := .bool d52) (u' := .slice A52 n52 c52) (g := w51.heap.size) HB.out (by omega))
          replace V52 := Lib.hid (V52.out.st (u := .bool d52) (u' := .slice A52 n52 c52) BK.out)
          clear HW BK
          have HW := NB
          clear NB
          have HZ2 := Lib.hid (show x ^ M = x ^ (N / 2 ^ (L - (i + 1))) ∧ InL (x ^ M) from ⟨by rw [← HMI.out], HF0.out⟩)
          clear V52 HF0 HMM HZL HMI HMN bx HLL HBL hn z1_ z52
          go_wp2_with fail
          go_roundg (gk - 1)
          case measure => omega
          case rel => exact ⟨i + 1, x ^ M, _, _, _, _, by omega, by go_num, HW, HZ2, R0, Hx, HB⟩
        · have HF0 := Lib.hid hf
          clear hf
          have HMM := Lib.hid (show M = 2 * m + 1 from by omega)
          have hbit : bits BinOp.and IntKind.i64 ((N : Int) / 2 ^ k) 1 = 1 := by rw [and_one_i64, hMI]; omega
          clear hMm hMI hb
          have gHW0 := HW.out.c0
          have gHW1 := HW.out.c1
          have fx0 := (Hx.out.below (al_below wr (.cells #[.bool d0, .slice A0 n0 c0, .bool d0, .slice A0 n0 c0] 34))).c0
          have fx1 := (Hx.out.below (al_below wr (.cells #[.bool d0, .slice A0 n0 c0, .bool d0, .slice A0 n0 c0] 34))).c1
          have hown := (own_four wr 34 (.bool d0) (.slice A0 n0 c0) (.bool d0) (.slice A0 n0 c0)).alloc (.cells #[.bool dx, .slice Ax nx cx] 34)
          go_wp2_with (at_builtin; refine wpList_append_own _ rfl _ _ _ rfl wr.heap.size 34 i0 _ 2 32 Tryz.underlying138 hi hz0 hz1 hz2 rfl (by omega) _ 2 [.bool d0, .slice A0 n0 c0, .bool d0, .slice A0 n0 c0] rfl hown ⟨wr.heap.size + 1, 0, none⟩ 1 1 [.bool dx, .slice Ax nx cx] rfl rfl (cells_pair _ _ _ _ _ (by rw [World.size_alloc])) (by simp [Value.oneCell']) (by unfold maxLen; omega) (by omega) (by simp only [World.size_alloc]; omega) ?_; intro v1 w1 hown1 hg1 hnil1)
          have hb1 : Below wr.heap.size wr w1 := (bal (al_below wr (.cells #[.bool d0, .slice A0 n0 c0, .bool d0, .slice A0 n0 c0] 34)) (.cells #[.bool dx, .slice Ax nx cx] 34)).trans (below_of_grown hg1 (by simp only [World.size_alloc]; omega) (fun g hg => by cases hg; exact Nat.le_refl _))
          rcases hown1.2 with ⟨_, h3⟩ | ⟨gN, cap, cur, rfl, hbg, hcell, hn3, hcm, hcs, htake⟩
          · exact absurd h3 (by omega)
          clear gHW0 gHW1
          clear fx0 fx1 hown hnil1 hg1 hn3 hcm hcs hbg
          replace HW := Lib.hid (HW.out.below hb1)
          replace R0 := Lib.hid (R0.out.below hb1)
          replace Hx := Lib.hid (Hx.out.below hb1)
          replace HB := Lib.hid (bstep HB.out hb1)
          have HR := Lib.hid (ArrI.of_own3 hcell htake HW.out.2 HW.out.2 Hx.out.2)
          have hgR := Lib.hid HR.out.1
          have hz1 := hb1.size
          have z1_ := Lib.hid hz1
          clear hb1 hcell htake hown1 hz1
          go_wp2_with fail
          have HMP := product_any [x ^ m, x ^ m, x] gN 3 cap w1 HR.out hgR rfl (Lib.hid (by omega)) (in_three HZL.out HZL.out bx.out)
          rw [prod_sq1 HMM.out HZL.out] at HMP
          rw [(fit_out (Int.not_lt.2 HF0.out)).1, (fit_out (Int.not_lt.2 HF0.out)).2] at HMP
          dsimp only at HMP
          refine (HMP).mono ?_
          rintro e w52 ⟨v, rfl, h, b⟩
          obtain ⟨d52, A52, n52, c52, rfl⟩ := h.shape
          have z52 := b.size
          replace z52 := Lib.hid z52
          replace HW := Lib.hid (HW.out.below b)
          replace R0 := Lib.hid (R0.out.below b)
          replace Hx := Lib.hid (Hx.out.below b)
          replace HB := Lib.hid (bstep HB.out b)
          have V52 := Lib.hid h
          clear h b
          clear HMP HR hgR
          have hne1 : w.heap.size + 1 ≠ w51.heap.size := by omega
          have hne2 : w.heap.size ≠ w51.heap.size := by omega
          have sHWa0 := HW.out.c0
          have tHWa0 := HW.out.1.f0
          have sHWa1 := HW.out.c1
          have tHWa1 := HW.out.1.f1
          have BK := Lib.hid HW.out.1
          have NB := Lib.hid (HoldI.made V52.out HW.out.1)
          replace R0 := Lib.hid (R0.out.off (u := .bool d52) (u' := .slice A52 n52 c52) (g := w51.heap.size) (by omega))
          replace Hx := Lib.hid (Hx.out.off (u := .bool d52) (u' := .slice A52 n52 c52) BK.out (by omega))
          replace HB := Lib.hid (below_off (u := .bool d52) (u' := .slice A52 n52 c52) (g := w51.heap.size) HB.out (by omega))
          replace V52 := Lib.hid (V52.out.st (u := .bool d52) (u' := .slice A52 n52 c52) BK.out)
          clear HW BK
          have HW := NB
          clear NB
          have HOUT := Lib.hid (pow_out lim_1 HMN.out (Int.not_lt.2 HF0.out))
          clear V52 HF0 HMM HZL HMI HMN bx HLL HBL hn hi hz0 hz1 hz2 z1_ z52
          have gR00 := R0.out.c0
          have yR00 := R0.out.f0
          have gR01 := R0.out.c1
          have yR01 := R0.out.f1
          have HF := Lib.hid (retI (RepI.zero _ _) R0.out HB.out (by omega))
          clear HW R0 Hx HB
          go_wp2_with fail
          exact bodyPost_ret (v := .tuple #[.agg #[.bool false, .slice none 0 0], .int .i64 4]) (by simp [results, Tryz.results77, go_sem, gR00, gR01]) rfl (by rw [(fit_out (Int.not_lt.2 HOUT.out)).1, (fit_out (Int.not_lt.2 HOUT.out)).2]; exact ⟨_, rfl, HF.out.1, HF.out.2.1⟩)
    · have hin : i = L := by omega
      subst hin
      have hzz := HZ.out
      rw [Nat.sub_self, Nat.pow_zero, Nat.div_one] at hzz
      obtain ⟨hz, hzl⟩ := hzz
      subst hz
      have HZL := Lib.hid hzl
      clear HZ hzl HLL HBL bx hn hi hz0 hz1 hz2
      have gR00 := R0.out.c0
      have yR00 := R0.out.f0
      have gR01 := R0.out.c1
      have yR01 := R0.out.f1
      have gHW0 := HW.out.c0
      have gHW1 := HW.out.c1
      have HF := Lib.hid (retI (HW.out.2) R0.out HB.out (by omega))
      clear HW R0 Hx HB
      go_wp2_with fail
      exact bodyPost_ret (v := .tuple #[.agg #[.bool d0, .slice A0 n0 c0], .int .i64 0]) (by simp [results, Tryz.results77, go_sem, gR00, gR01]) rfl (by rw [(fit_in HZL.out).1, (fit_in HZL.out).2]; exact ⟨_, rfl, HF.out.1, HF.out.2.1⟩)
end Go.Proofs.YtocooajlfpngdaaGreatDoor
namespace Go.Proofs.YtocooajlfpngdaaGreatDoor
open Go.RowKit
set_option linter.unusedVariables false

theorem text_len {a : Rat} (ia : InF a) : (strB (decT a.num)).size ≤ 4995 ∧ (strB (decT (a.den : Int))).size ≤ 4995 := ⟨by rw [strB_size]; exact dec_short ia.1, by rw [strB_size]; exact dec_short (den_lim ia)⟩
theorem den_text {a : Rat} (ia : InF a) (h : a.den ≠ 1) : strB (decT (a.den : Int)) ≠ ⟨#[49]⟩ := by
  intro e
  rw [← str_1] at e
  have h1 : decT (a.den : Int) = decT 1 := by
    have h2 := congrArg (fun s : ByteArray => s.data.toList) e
    simpa [strB_list] using h2
  have := dec_one_one h1 (den_lim ia) (by have := lim_1; simp; omega)
  omega
set_option maxRecDepth 100000 in
set_option maxHeartbeats 4000000 in
theorem fstr_one (a : Rat) (u : Value) (w : World) (ha : RepF w w.heap.size a u) (ia : InF a) (h1 : a.den = 1) :
    Calls Tryz.prog 51 #[u] w (StrU (strB (textQ a)) w) := by
  have HF1 := Lib.hid (show strB (decT a.num) = strB (textQ a) by unfold textQ; rw [if_pos h1])
  obtain ⟨P, hP⟩ : ∃ P, strB (decT a.num) = P := ⟨_, rfl⟩
  obtain ⟨T, hT⟩ : ∃ T, strB (decT (a.den : Int)) = T := ⟨_, rfl⟩
  have hl := text_len ia
  rw [hP, hT] at hl
  have HP := Lib.hid hP
  have HT := Lib.hid hT
  replace ia := Lib.hid ia
  have ht : T = ⟨#[49]⟩ := by rw [← hT, h1]; exact str_1
  subst ht
  have HL := Lib.hid hl
  clear hP hT hl h1
  have HB := Lib.hid (Below.refl w.heap.size w)
  obtain ⟨da, Aa, na, ca, ea, Ea, ma, fa, rfl⟩ := ha.shape
  have Va := Lib.hid ha
  clear ha
  go_enter Tryz.func51, Tryz.ntmps51
  have h := HoldQ.new Va.out
  have b := al_below w (.cells #[.bool da, .slice Aa na ca, .bool ea, .slice Ea ma fa] 36)
  replace HB := Lib.hid (bstep HB.out b)
  clear b
  have Ha := Lib.hid h
  clear h Va
  go_wp2_with fail
  refine (den_any a _ _ Ha.out.2 ia.out).mono ?_
  rintro e w51 ⟨v, rfl, h, b⟩
  obtain ⟨d51, A51, n51, c51, rfl⟩ := h.shape
  have z51 := b.size
  simp only [World.size_alloc] at z51
  replace z51 := Lib.hid z51
  replace HB := Lib.hid (bstep HB.out b)
  replace Ha := Lib.hid (Ha.out.below b)
  have V51 := Lib.hid h
  clear h b
  go_wp2_with fail
  refine (istring_as (a.den : Int) _ _ V51.out (den_lim ia.out) _ HT.out).mono ?_
  rintro e w52 ⟨rfl, b⟩
  have z52 := b.size
  replace z52 := Lib.hid z52
  replace HB := Lib.hid (bstep HB.out b)
  replace Ha := Lib.hid (Ha.out.below b)
  replace V51 := Lib.hid (V51.out.step b)
  clear b
  have gHa0 := Ha.out.c0
  have gHa1 := Ha.out.c1
  have gHa2 := Ha.out.c2
  have gHa3 := Ha.out.c3
  go_wp2_with fail
  refine (istring_as a.num _ _ Ha.out.2.num ia.out.1 P HP.out).mono ?_
  rintro e w53 ⟨rfl, b⟩
  clear gHa0 gHa1 gHa2 gHa3
  have z53 := b.size
  replace z53 := Lib.hid z53
  replace HB := Lib.hid (bstep HB.out b)
  replace Ha := Lib.hid (Ha.out.below b)
  replace V51 := Lib.hid (V51.out.step b)
  clear b
  have HB' := HB.out
  clear ia HT HL
  clear HB Ha V51
  go_wp2_with fail
  go_ret
  exact ⟨ret_str (by rw [← HP.out]; exact HF1.out), HB'⟩
set_option maxRecDepth 100000 in
set_option maxHeartbeats 4000000 in
theorem fstr_two (a : Rat) (u : Value) (w : World) (ha : RepF w w.heap.size a u) (ia : InF a) (h1 : a.den ≠ 1) :
    Calls Tryz.prog 51 #[u] w (StrU (strB (textQ a)) w) := by
  have HF1 := Lib.hid (show strB (decT a.num) ++ ⟨#[47]⟩ ++ strB (decT (a.den : Int)) = strB (textQ a) by unfold textQ; rw [if_neg h1]; rw [show (⟨#[47]⟩ : ByteArray) = strB [47] from rfl, strB_app, strB_app]; simp)
  obtain ⟨P, hP⟩ : ∃ P, strB (decT a.num) = P := ⟨_, rfl⟩
  obtain ⟨T, hT⟩ : ∃ T, strB (decT (a.den : Int)) = T := ⟨_, rfl⟩
  have hl := text_len ia
  rw [hP, hT] at hl
  have HP := Lib.hid hP
  have HT := Lib.hid hT
  replace ia := Lib.hid ia
  have ht : T ≠ ⟨#[49]⟩ := by rw [← hT]; exact den_text ia.out h1
  have hb1 : (T.toList == [49]) = false := by
    rw [Lib.toList_data, beq_eq_false_iff_ne]
    exact fun e => ht (byteArray_ext e)
  have hn1 : ¬ 9223372036854775807 < P.size + 1 := by omega
  have hn2 : ¬ 9223372036854775807 < P.size + 1 + T.size := by omega
  clear ht
  have HL := Lib.hid hl
  clear hP hT hl h1
  have HB := Lib.hid (Below.refl w.heap.size w)
  obtain ⟨da, Aa, na, ca, ea, Ea, ma, fa, rfl⟩ := ha.shape
  have Va := Lib.hid ha
  clear ha
  go_enter Tryz.func51, Tryz.ntmps51
  have h := HoldQ.new Va.out
  have b := al_below w (.cells #[.bool da, .slice Aa na ca, .bool ea, .slice Ea ma fa] 36)
  replace HB := Lib.hid (bstep HB.out b)
  clear b
  have Ha := Lib.hid h
  clear h Va
  go_wp2_with fail
  refine (den_any a _ _ Ha.out.2 ia.out).mono ?_
  rintro e w51 ⟨v, rfl, h, b⟩
  obtain ⟨d51, A51, n51, c51, rfl⟩ := h.shape
  have z51 := b.size
  simp only [World.size_alloc] at z51
  replace z51 := Lib.hid z51
  replace HB := Lib.hid (bstep HB.out b)
  replace Ha := Lib.hid (Ha.out.below b)
  have V51 := Lib.hid h
  clear h b
  go_wp2_with fail
  refine (istring_as (a.den : Int) _ _ V51.out (den_lim ia.out) _ HT.out).mono ?_
  rintro e w52 ⟨rfl, b⟩
  have z52 := b.size
  replace z52 := Lib.hid z52
  replace HB := Lib.hid (bstep HB.out b)
  replace Ha := Lib.hid (Ha.out.below b)
  replace V51 := Lib.hid (V51.out.step b)
  clear b
  have gHa0 := Ha.out.c0
  have gHa1 := Ha.out.c1
  have gHa2 := Ha.out.c2
  have gHa3 := Ha.out.c3
  go_wp2_with fail
  refine (istring_as a.num _ _ Ha.out.2.num ia.out.1 P HP.out).mono ?_
  rintro e w53 ⟨rfl, b⟩
  clear gHa0 gHa1 gHa2 gHa3
  have z53 := b.size
  replace z53 := Lib.hid z53
  replace HB := Lib.hid (bstep HB.out b)
  replace Ha := Lib.hid (Ha.out.below b)
  replace V51 := Lib.hid (V51.out.step b)
  clear b
  have HB' := HB.out
  clear ia HL
  clear HB Ha V51
  go_wp2_with fail
  go_ret
  exact ⟨ret_str (by rw [← HP.out, ← HT.out]; exact HF1.out), HB'⟩
theorem fstring_any (a : Rat) (u : Value) (w : World) (ha : RepF w w.heap.size a u) (ia : InF a) : Calls Tryz.prog 51 #[u] w (StrU (strB (textQ a)) w) := by
  by_cases h : a.den = 1
  · exact fstr_one a u w ha ia h
  · exact fstr_two a u w ha ia h
end Go.Proofs.YtocooajlfpngdaaGreatDoor
namespace Go.Proofs.YtocooajlfpngdaaGreatDoor
open Go.RowKit
set_option linter.unusedVariables false

theorem index_slash : ∀ l : List UInt8, ((∀ b ∈ l, slash b = false) ∧ Lib.indexByte l 47 = -1) ∨ ∃ a t, l = a ++ 47 :: t ∧ (∀ b ∈ a, slash b = false) ∧ Lib.indexByte l 47 = (a.length : Int)
  | [] => .inl ⟨(fun _ h => nomatch h), rfl⟩
  | b :: l => by
    by_cases hb : b = 47
    · subst hb
      exact .inr ⟨[], l, rfl, (fun _ h => nomatch h), rfl⟩
    · have hs : slash b = false := by unfold slash; simp [hb]
      have hbb : (b == 47) = false := by simp [hb]
      rcases index_slash l with ⟨h1, h2⟩ | ⟨a, t, h1, h2, h3⟩
      · refine .inl ⟨fun c hc => ?_, ?_⟩
        · rcases List.mem_cons.1 hc with rfl | h
          · exact hs
          · exact h1 c h
        · rw [Lib.indexByte, hbb, h2]; rfl
      · refine .inr ⟨b :: a, t, by rw [h1]; rfl, fun c hc => ?_, ?_⟩
        · rcases List.mem_cons.1 hc with rfl | h
          · exact hs
          · exact h2 c h
        · rw [Lib.indexByte, hbb, h3]
          have : ((a.length : Int) == -1) = false := by rw [beq_eq_false_iff_ne]; omega
          rw [this]
          simp
/-- what strings.Cut gives at a slash -/
def CutU (s : ByteArray) (w : World) (e : Ending) (w' : World) : Prop := (∃ f : Bool, ∃ t : ByteArray, e = .returned (.tuple #[.string (strB (aboveT s.data.toList)), .string t, .bool f]) ∧ (if f then t else ⟨#[49]⟩) = strB (belowT s.data.toList)) ∧ Below w.heap.size w w'
theorem strB_self (s : ByteArray) : strB s.data.toList = s := byteArray_ext (strB_list _)
theorem ext_list (s : ByteArray) (i j : Nat) : (s.extract i j).data.toList = (s.data.toList.drop i).take (j - i) := by
  rw [ByteArray.data_extract, Array.toList_extract]
set_option maxHeartbeats 1000000 in
theorem slite_cut (s : ByteArray) (w : World) (hs : s.size ≤ maxLen) : Calls Tryz.prog 115 #[.string s, .string ⟨#[47]⟩] w (CutU s w) := by
  rcases index_slash s.data.toList with ⟨h1, h2⟩ | ⟨a, t, h1, h2, h3⟩
  · have HI := Lib.hid (Tryz.stringslite_Index_one s 47 w)
    rw [h2] at HI
    have HF := Lib.hid (show strB (aboveT s.data.toList) = s ∧ strB (belowT s.data.toList) = ⟨#[49]⟩ by rw [(cut_none h1).1, (cut_none h1).2]; exact ⟨strB_self s, rfl⟩)
    clear h1 h2
    go_enter Tryz.func115, Tryz.ntmps115
    go_wp2_with fail
    refine HI.out.mono ?_
    rintro e w' ⟨rfl, rfl⟩
    go_wp2_with fail
    go_ret3
    exact ⟨⟨false, ⟨#[]⟩, (by rw [HF.out.1]; rfl), HF.out.2.symm⟩, Below.refl _ _⟩
  · have HI := Lib.hid (Tryz.stringslite_Index_one s 47 w)
    rw [h3] at HI
    have hl : s.size = a.length + 1 + t.length := by rw [← str_len, h1]; simp; omega
    obtain ⟨i, hi⟩ : ∃ i, i = a.length := ⟨_, rfl⟩
    rw [← hi] at HI hl
    unfold maxLen at hs
    have c1 : (0 : Int) ≤ (i : Int) := by omega
    have c2 : (i : Int) ≤ (s.size : Int) := by omega
    have c3 : (0 : Int) ≤ (i : Int) + 1 := by omega
    have c4 : (i : Int) + 1 ≤ (s.size : Int) := by omega
    have c5 : IntKind.i64.wrap ((i : Int) + 1) = (i : Int) + 1 := IntWalk.i64_in _ (by omega)
    have HF := Lib.hid (show strB (aboveT s.data.toList) = s.extract 0 i ∧ strB (belowT s.data.toList) = s.extract (i + 1) s.size by
      have e1 : aboveT s.data.toList = a := by rw [h1]; exact (cut_some h2).1
      have e2 : belowT s.data.toList = t := by rw [h1]; exact (cut_some h2).2
      rw [e1, e2]
      refine ⟨byteArray_ext ?_, byteArray_ext ?_⟩
      · rw [strB_list, ext_list, h1, hi]
        simp
      · rw [strB_list, ext_list, h1, hi]
        have e3 : s.size - (a.length + 1) = t.length := by omega
        rw [e3, show a ++ 47 :: t = (a ++ [47]) ++ t by simp, List.drop_append, List.drop_of_length_le (by simp)]
        simp)
    clear h1 h2 h3 hi hl hs
    go_enter Tryz.func115, Tryz.ntmps115
    go_wp2_with fail
    refine HI.out.mono ?_
    rintro e w' ⟨rfl, rfl⟩
    go_wp2_with fail
    go_region
    all_goals go_wp2_with fail
    all_goals go_ret3
    all_goals exact ⟨⟨true, s.extract (i + 1) s.size, by rw [HF.out.1]; first | rfl | simp, HF.out.2.symm⟩, by first | exact Below.refl _ _ | exact below_drew (Below.refl _ _)⟩
theorem cut_any (s : ByteArray) (w : World) (hs : s.size ≤ maxLen) : Calls Tryz.prog 86 #[.string s, .string ⟨#[47]⟩] w (CutU s w) := by
  have HC := Lib.hid (slite_cut s w hs)
  clear hs
  go_enter Tryz.func86, Tryz.ntmps86
  go_wp2_with fail
  refine HC.out.mono ?_
  rintro e w' ⟨⟨f, t, rfl, h1⟩, hb⟩
  have HB := Lib.hid hb
  have H1 := Lib.hid h1
  clear hb h1
  go_wp2_with fail
  go_ret3
  exact ⟨⟨f, t, rfl, H1.out⟩, HB.out⟩
end Go.Proofs.YtocooajlfpngdaaGreatDoor
