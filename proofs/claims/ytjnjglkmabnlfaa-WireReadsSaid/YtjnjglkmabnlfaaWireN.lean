/- Contracts of the reader's lists: list, Text, Raw, Ints. -/
import Derived.Test.YtjnjglkmabnlfaaWireL
import Derived.Test.YtjnjglkmabnlfaaConvB
namespace Go.Proofs.Ytjnjglkmabnlfaa
open Go.RowKit
set_option linter.unusedVariables false

theorem rdN_step (f : RS → Int × RS) (k : Nat) (acc : List Int) (s : RS) (h : (f s).2.er = 0) : rdN f (k + 1) acc s = rdN f k (acc ++ [(f s).1]) (f s).2 := by rw [rdN, if_pos h]
theorem rdN_fail (f : RS → Int × RS) (k : Nat) (acc : List Int) (s : RS) (h : (f s).2.er ≠ 0) : rdN f (k + 1) acc s = ([], (f s).2) := by rw [rdN, if_neg h]
theorem rdL_err (f : RS → Int × RS) (s : RS) (h : (rdU s).2.er ≠ 0) : rdL f s = ([], (rdU s).2) := by rw [rdL, if_neg h]
theorem rdL_more (f : RS → Int × RS) (s : RS) (N : Nat) (hN : (rdU s).1 = N) (h : (rdU s).2.er = 0) (hm : (rdU s).2.bs.length < N) : rdL f s = ([], bad 3) := by
  rw [rdL, if_pos h, if_neg (by rw [hN]; omega)]
theorem rdL_run (f : RS → Int × RS) (s : RS) (N : Nat) (hN : (rdU s).1 = N) (h : (rdU s).2.er = 0) (hm : ¬ (rdU s).2.bs.length < N) : rdL f s = rdN f N [] (rdU s).2 := by
  rw [rdL, if_pos h, if_pos (by rw [hN]; omega), hN]; rfl
theorem set_here (f : Int → Value) (acc : List Int) (z x : Int) (rest : List Value) : (acc.map f ++ f z :: rest).set acc.length (f x) = (acc ++ [x]).map f ++ rest := by
  rw [List.set_append_right _ _ (by simp)]; simp
theorem row_split {w : World} {base e N k : Nat} {v : Value} {acc : List Int} {f : Int → Value} (h : w.ownsRow base e 1 v N (acc.map f ++ List.replicate (N - k) (f 0))) (hk : k < N) : w.ownsRow base e 1 v N (acc.map f ++ f 0 :: List.replicate (N - (k + 1)) (f 0)) := by
  rw [show N - k = N - (k + 1) + 1 by omega, List.replicate_succ] at h; exact h

set_option maxHeartbeats 2000000 in
theorem r_listB (p B : Nat) (s : RS) (w : World) (h : RdW w p B s) (hl : s.bs.length ≤ 1000000) :
    Calls Try.prog 55 #[.pointer (some ⟨p, 0, none⟩), .func (.func 56) #[.pointer (some ⟨p, 0, none⟩)] #[]] w fun e w' => ∃ v, e = .returned v ∧ w'.ownsRow w.heap.size 5 1 v (rdL rdO s).1.length (cB (rdL rdO s).1) ∧ RdW w' p B (rdL rdO s).2 ∧ w.grownBy w' (some p) := by
  obtain ⟨i0, hi, hz0, hz1, hz2⟩ := info_parts u8_info
  obtain ⟨hu, hok, hle, hzero⟩ := rdU_ok s h.ok
  obtain ⟨N, hN⟩ : ∃ N : Nat, (rdU s).1 = N := ⟨(rdU s).1.toNat, by unfold u64 at hu; omega⟩
  have hN64 : N ≤ 18446744073709551615 := by unfold u64 at hu; omega
  have hpw := h.lt
  have HLE := Lib.hid hle
  obtain ⟨R, hR⟩ : ∃ R, R = rdL rdO s := ⟨_, rfl⟩
  rw [← hR]
  have HRL := Lib.hid hR
  clear hR
  go_enter Try.func55, Try.ntmps55
  go_wp2_with fail
  refine (r_uint p B s _ h).mono ?_
  rintro e w1 ⟨rfl, h1, hg1⟩
  rw [hN]
  obtain ⟨A, n, c, c0, c1, _, f1, hnc, hcm, hnl⟩ := h1.cells
  have HNL := Lib.hid hnl
  have H1 := Lib.hid h1
  have HG1 := Lib.hid hg1
  have HN := Lib.hid hN
  have HZ := Lib.hid hzero
  unfold maxLen at hcm
  have hsz1 := hg1.size
  clear h1 hg1 hN hnl hzero h hle
  by_cases he : (rdU s).2.er = 0
  · have hnl := HNL.out he
    have hle := HLE.out
    have hn6 : n ≤ 1000000 := by omega
    have HE := Lib.hid he
    have HNN := Lib.hid hnl
    clear hnl hle
    by_cases hm : n < N
    · obtain rfl : R = ([], bad 3) := HRL.out.trans (rdL_more rdO s N HN.out HE.out (by rw [← HNN.out]; exact hm))
      clear he
      go_wp2_with fail
      go_ret
      exact ⟨_, rfl, World.ownsRow_nil _ _ _ _, H1.out.fail 3 (.inr rfl), grown_trans HG1.out (grown_set _ _ _ _)⟩
    · have hNn : N ≤ n := by omega
      have hrun := HRL.out.trans (rdL_run rdO s N HN.out HE.out (by rw [← HNN.out]; exact hm))
      obtain ⟨s1, hs1⟩ : ∃ s1, s1 = (rdU s).2 := ⟨_, rfl⟩
      rw [← hs1] at H1 HE c1 he hrun
      have HRUN := Lib.hid hrun
      clear hs1 hrun HRL
      have HE0 := Lib.hid he
      clear he hm
      have hb1 : i0.bytes * N ≤ 281474976710656 := by rw [hz2]; omega
      have hb2 : N ≤ maxLen := by unfold maxLen; omega
      have HW0 := Lib.hid hsz1
      go_wp2_with (at_make; refine wpList_make_full _ rfl _ _ _ rfl w1.heap.size 5 i0 _ 1 Try.underlying24 hi hz0 hz1 _ _ _ _ N rfl rfl rfl rfl hb1 hb2 (Nat.le_refl _) ?_; intro w2 hown2 hg2)
      have hrow : w2.ownsRow w1.heap.size 5 1 (.slice (some ⟨w1.heap.size, 0, none⟩) N N) N (cB [] ++ List.replicate N (.int .u8 0)) := by
        have e := toList_madeCells_one (.int .u8 0) N
        rw [show (Value.int .u8 0).cells = #[.int .u8 0] from rfl, Nat.mul_one, e] at hown2
        exact hown2
      have hb2' : Below w1.heap.size w1 w2 := ⟨hg2.os, hg2.tape, hg2.output, hg2.size, fun k hk => hg2.block k hk (by simp)⟩
      have H2 := Lib.hid (Rd.below H1.out hb2')
      have HG2 := Lib.hid (grown_trans HG1.out (grown_below hb2' (some p)))
      have HR := Lib.hid hrow
      have hsz2 := hb2'.size
      have hne : p ≠ w1.heap.size := by have := H1.out.lt; omega
      clear hown2 hg2 hrow hb2' HE HNN HNL
      go_wp2_with fail
      go_loopw [25] (fun i wr => ∃ (k : Nat) (acc : List Int) (sk : RS), k ≤ N ∧ i = .int .i64 k ∧ Hid (acc.length = k) ∧ Hid (sk.er = 0) ∧ Hid (rdN rdO (N - k) acc sk = rdN rdO N [] s1) ∧ wr.ownsRow w1.heap.size 5 1 (.slice (some ⟨w1.heap.size, 0, none⟩) N N) N (cB acc ++ List.replicate (N - k) (.int .u8 0)) ∧ RdW wr p B sk ∧ w.grownBy wr (some p)) (fun i _ => N - (intOf i).toNat)
      case atStart => exact ⟨0, [], s1, Nat.zero_le _, rfl, rfl, HE0.out, rfl, HR.out, H2.out, HG2.out⟩
      case round =>
        obtain ⟨k, acc, sk, hk, rfl, HA, HS, HD, hown, hrd, hgr⟩ := hrel
        have HO := Lib.hid hown
        have HRD := Lib.hid hrd
        have HGR := Lib.hid hgr
        clear hown hrd hgr
        by_cases hlt : k < N
        · go_wp2_with fail
          refine (r_octet p B sk _ HRD.out).mono ?_
          rintro e w3 ⟨rfl, h3, hg3⟩
          have hown3 := Rd.own HRD.out (row_split HO.out hlt) (by decide) hg3
          have hc3 : w3.cell? ⟨w1.heap.size, k, none⟩ = some (.int .u8 0) := by
            rw [hown3.cellAt k (by omega), List.getElem?_append_right (by simp [HA.out]), List.length_map, HA.out, Nat.sub_self]; rfl
          have hf3 := hown3.frozenAt k
          have hst := hown3.stored k (.int .u8 (rdO sk).1)
          have hB1 : B ≤ w1.heap.size := H1.out.size
          have h4 : RdW (w3.setCell ⟨w1.heap.size, k, none⟩ (.int .u8 (rdO sk).1)) p B (rdO sk).2 := Rd.far h3 hB1 hne _
          obtain ⟨A4, n4, c4, _, hc4, _, _, _, _, _⟩ := h4.cells
          have HS4 := Lib.hid hst.1
          have H4 := Lib.hid h4
          have HG4 := Lib.hid (grown_far (grown_trans HGR.out hg3) (j := k) (u := .int .u8 (rdO sk).1) hsz1)
          clear hown3 hst h4 h3 hg3
          by_cases hf : (rdO sk).2.er = 0
          · have hfn : ((rdO sk).2.er != 0) = false := by simpa using hf
            go_wp2_with fail
            go_roundw
            case rel =>
              refine ⟨k + 1, acc ++ [(rdO sk).1], (rdO sk).2, by omega, by go_num, by show _ = _; rw [List.length_append, HA.out]; rfl, hf, ?_, ?_, H4.out, HG4.out⟩
              · show _ = _
                rw [← HD.out, show N - k = N - (k + 1) + 1 by omega, rdN_step _ _ _ _ hf]
              · have e := HS4.out
                rw [← HA.out] at e
                have e2 := set_here (Value.int .u8) acc 0 (rdO sk).1 (List.replicate (N - (acc.length + 1)) (.int .u8 0))
                rw [e2] at e
                rw [HA.out] at e
                exact e
            case measure => simp [intOf]; omega
          · have hfn : ((rdO sk).2.er != 0) = true := by simpa using hf
            obtain rfl : R = ([], (rdO sk).2) := by rw [HRUN.out, ← HD.out, show N - k = N - (k + 1) + 1 by omega, rdN_fail _ _ _ _ hf]
            go_wp2_with fail
            go_ret
            exact ⟨_, rfl, World.ownsRow_nil _ _ _ _, H4.out, HG4.out⟩
        · obtain rfl : k = N := by omega
          obtain rfl : R = (acc, sk) := by rw [HRUN.out, ← HD.out, Nat.sub_self]; rfl
          go_wp2_with fail
          go_ret
          have e := HO.out
          rw [Nat.sub_self, List.replicate_zero, List.append_nil] at e
          refine ⟨_, rfl, ?_, HRD.out, HGR.out⟩
          have e3 := own_mono e hsz1
          show World.ownsRow _ _ _ _ _ acc.length _
          rw [HA.out]; exact e3
  · have hN0 : N = 0 := by have := HZ.out he; rw [HN.out] at this; omega
    subst hN0
    obtain rfl : R = ([], (rdU s).2) := HRL.out.trans (rdL_err rdO s he)
    have hne : ((rdU s).2.er != 0) = true := by simpa using he
    go_wp2_with (at_make; refine wpList_make_full _ rfl _ _ _ rfl w1.heap.size 5 i0 _ 1 Try.underlying24 hi hz0 hz1 _ _ _ _ 0 rfl rfl rfl rfl (by omega) (by omega) (Nat.le_refl _) ?_; intro w2 hown2 hg2)
    have hb2' : Below w1.heap.size w1 w2 := ⟨hg2.os, hg2.tape, hg2.output, hg2.size, fun k hk => hg2.block k hk (by simp)⟩
    have H2 := Lib.hid (Rd.below H1.out hb2')
    have HG2 := Lib.hid (grown_trans HG1.out (grown_below hb2' (some p)))
    have HR := Lib.hid hown2
    clear hown2 hg2 hb2'
    go_wp2_with fail
    go_loopw [25] (fun i wr => i = .int .i64 0 ∧ wr = w2) (fun i _ => 0)
    case atStart => exact ⟨rfl, rfl⟩
    case round =>
      obtain ⟨rfl, rfl⟩ := hrel
      go_wp2_with fail
      go_ret
      exact ⟨_, rfl, by have e := own_mono HR.out hsz1; rw [show (Value.int .u8 0).cells = #[.int .u8 0] from rfl, Nat.zero_mul, toList_madeCells_one] at e; exact e, H2.out, HG2.out⟩

set_option maxHeartbeats 2000000 in
theorem r_listI (p B : Nat) (s : RS) (w : World) (h : RdW w p B s) (hl : s.bs.length ≤ 1000000) :
    Calls Try.prog 57 #[.pointer (some ⟨p, 0, none⟩), .func (.func 46) #[.pointer (some ⟨p, 0, none⟩)] #[]] w fun e w' => ∃ v, e = .returned v ∧ w'.ownsRow w.heap.size 3 1 v (rdL rdI s).1.length (cI (rdL rdI s).1) ∧ RdW w' p B (rdL rdI s).2 ∧ w.grownBy w' (some p) := by
  obtain ⟨i0, hi, hz0, hz1, hz2⟩ := info_parts int_info
  obtain ⟨hu, hok, hle, hzero⟩ := rdU_ok s h.ok
  obtain ⟨N, hN⟩ : ∃ N : Nat, (rdU s).1 = N := ⟨(rdU s).1.toNat, by unfold u64 at hu; omega⟩
  have hN64 : N ≤ 18446744073709551615 := by unfold u64 at hu; omega
  have hpw := h.lt
  have HLE := Lib.hid hle
  obtain ⟨R, hR⟩ : ∃ R, R = rdL rdI s := ⟨_, rfl⟩
  rw [← hR]
  have HRL := Lib.hid hR
  clear hR
  go_enter Try.func57, Try.ntmps57
  go_wp2_with fail
  refine (r_uint p B s _ h).mono ?_
  rintro e w1 ⟨rfl, h1, hg1⟩
  rw [hN]
  obtain ⟨A, n, c, c0, c1, _, f1, hnc, hcm, hnl⟩ := h1.cells
  have HNL := Lib.hid hnl
  have H1 := Lib.hid h1
  have HG1 := Lib.hid hg1
  have HN := Lib.hid hN
  have HZ := Lib.hid hzero
  unfold maxLen at hcm
  have hsz1 := hg1.size
  clear h1 hg1 hN hnl hzero h hle
  by_cases he : (rdU s).2.er = 0
  · have hnl := HNL.out he
    have hle := HLE.out
    have hn6 : n ≤ 1000000 := by omega
    have HE := Lib.hid he
    have HNN := Lib.hid hnl
    clear hnl hle
    by_cases hm : n < N
    · obtain rfl : R = ([], bad 3) := HRL.out.trans (rdL_more rdI s N HN.out HE.out (by rw [← HNN.out]; exact hm))
      clear he
      go_wp2_with fail
      go_ret
      exact ⟨_, rfl, World.ownsRow_nil _ _ _ _, H1.out.fail 3 (.inr rfl), grown_trans HG1.out (grown_set _ _ _ _)⟩
    · have hNn : N ≤ n := by omega
      have hrun := HRL.out.trans (rdL_run rdI s N HN.out HE.out (by rw [← HNN.out]; exact hm))
      obtain ⟨s1, hs1⟩ : ∃ s1, s1 = (rdU s).2 := ⟨_, rfl⟩
      rw [← hs1] at H1 HE c1 he hrun
      have HRUN := Lib.hid hrun
      clear hs1 hrun HRL
      have HE0 := Lib.hid he
      clear he hm
      have hb1 : i0.bytes * N ≤ 281474976710656 := by rw [hz2]; omega
      have hb2 : N ≤ maxLen := by unfold maxLen; omega
      have HW0 := Lib.hid hsz1
      go_wp2_with (at_make; refine wpList_make_full _ rfl _ _ _ rfl w1.heap.size 3 i0 _ 1 Try.underlying22 hi hz0 hz1 _ _ _ _ N rfl rfl rfl rfl hb1 hb2 (Nat.le_refl _) ?_; intro w2 hown2 hg2)
      have hrow : w2.ownsRow w1.heap.size 3 1 (.slice (some ⟨w1.heap.size, 0, none⟩) N N) N (cI [] ++ List.replicate N (.int .i64 0)) := by
        have e := toList_madeCells_one (.int .i64 0) N
        rw [show (Value.int .i64 0).cells = #[.int .i64 0] from rfl, Nat.mul_one, e] at hown2
        exact hown2
      have hb2' : Below w1.heap.size w1 w2 := ⟨hg2.os, hg2.tape, hg2.output, hg2.size, fun k hk => hg2.block k hk (by simp)⟩
      have H2 := Lib.hid (Rd.below H1.out hb2')
      have HG2 := Lib.hid (grown_trans HG1.out (grown_below hb2' (some p)))
      have HR := Lib.hid hrow
      have hsz2 := hb2'.size
      have hne : p ≠ w1.heap.size := by have := H1.out.lt; omega
      clear hown2 hg2 hrow hb2' HE HNN HNL
      go_wp2_with fail
      go_loopw [25] (fun i wr => ∃ (k : Nat) (acc : List Int) (sk : RS), k ≤ N ∧ i = .int .i64 k ∧ Hid (acc.length = k) ∧ Hid (sk.er = 0) ∧ Hid (rdN rdI (N - k) acc sk = rdN rdI N [] s1) ∧ wr.ownsRow w1.heap.size 3 1 (.slice (some ⟨w1.heap.size, 0, none⟩) N N) N (cI acc ++ List.replicate (N - k) (.int .i64 0)) ∧ RdW wr p B sk ∧ w.grownBy wr (some p)) (fun i _ => N - (intOf i).toNat)
      case atStart => exact ⟨0, [], s1, Nat.zero_le _, rfl, rfl, HE0.out, rfl, HR.out, H2.out, HG2.out⟩
      case round =>
        obtain ⟨k, acc, sk, hk, rfl, HA, HS, HD, hown, hrd, hgr⟩ := hrel
        have HO := Lib.hid hown
        have HRD := Lib.hid hrd
        have HGR := Lib.hid hgr
        clear hown hrd hgr
        by_cases hlt : k < N
        · go_wp2_with fail
          refine (r_int p B sk _ HRD.out).mono ?_
          rintro e w3 ⟨rfl, h3, hg3⟩
          have hown3 := Rd.own HRD.out (row_split HO.out hlt) (by decide) hg3
          have hc3 : w3.cell? ⟨w1.heap.size, k, none⟩ = some (.int .i64 0) := by
            rw [hown3.cellAt k (by omega), List.getElem?_append_right (by simp [HA.out]), List.length_map, HA.out, Nat.sub_self]; rfl
          have hf3 := hown3.frozenAt k
          have hst := hown3.stored k (.int .i64 (rdI sk).1)
          have hB1 : B ≤ w1.heap.size := H1.out.size
          have h4 : RdW (w3.setCell ⟨w1.heap.size, k, none⟩ (.int .i64 (rdI sk).1)) p B (rdI sk).2 := Rd.far h3 hB1 hne _
          obtain ⟨A4, n4, c4, _, hc4, _, _, _, _, _⟩ := h4.cells
          have HS4 := Lib.hid hst.1
          have H4 := Lib.hid h4
          have HG4 := Lib.hid (grown_far (grown_trans HGR.out hg3) (j := k) (u := .int .i64 (rdI sk).1) hsz1)
          clear hown3 hst h4 h3 hg3
          by_cases hf : (rdI sk).2.er = 0
          · have hfn : ((rdI sk).2.er != 0) = false := by simpa using hf
            go_wp2_with fail
            go_roundw
            case rel =>
              refine ⟨k + 1, acc ++ [(rdI sk).1], (rdI sk).2, by omega, by go_num, by show _ = _; rw [List.length_append, HA.out]; rfl, hf, ?_, ?_, H4.out, HG4.out⟩
              · show _ = _
                rw [← HD.out, show N - k = N - (k + 1) + 1 by omega, rdN_step _ _ _ _ hf]
              · have e := HS4.out
                rw [← HA.out] at e
                have e2 := set_here (Value.int .i64) acc 0 (rdI sk).1 (List.replicate (N - (acc.length + 1)) (.int .i64 0))
                rw [e2] at e
                rw [HA.out] at e
                exact e
            case measure => simp [intOf]; omega
          · have hfn : ((rdI sk).2.er != 0) = true := by simpa using hf
            obtain rfl : R = ([], (rdI sk).2) := by rw [HRUN.out, ← HD.out, show N - k = N - (k + 1) + 1 by omega, rdN_fail _ _ _ _ hf]
            go_wp2_with fail
            go_ret
            exact ⟨_, rfl, World.ownsRow_nil _ _ _ _, H4.out, HG4.out⟩
        · obtain rfl : k = N := by omega
          obtain rfl : R = (acc, sk) := by rw [HRUN.out, ← HD.out, Nat.sub_self]; rfl
          go_wp2_with fail
          go_ret
          have e := HO.out
          rw [Nat.sub_self, List.replicate_zero, List.append_nil] at e
          refine ⟨_, rfl, ?_, HRD.out, HGR.out⟩
          have e3 := own_mono e hsz1
          show World.ownsRow _ _ _ _ _ acc.length _
          rw [HA.out]; exact e3
  · have hN0 : N = 0 := by have := HZ.out he; rw [HN.out] at this; omega
    subst hN0
    obtain rfl : R = ([], (rdU s).2) := HRL.out.trans (rdL_err rdI s he)
    have hne : ((rdU s).2.er != 0) = true := by simpa using he
    go_wp2_with (at_make; refine wpList_make_full _ rfl _ _ _ rfl w1.heap.size 3 i0 _ 1 Try.underlying22 hi hz0 hz1 _ _ _ _ 0 rfl rfl rfl rfl (by omega) (by omega) (Nat.le_refl _) ?_; intro w2 hown2 hg2)
    have hb2' : Below w1.heap.size w1 w2 := ⟨hg2.os, hg2.tape, hg2.output, hg2.size, fun k hk => hg2.block k hk (by simp)⟩
    have H2 := Lib.hid (Rd.below H1.out hb2')
    have HG2 := Lib.hid (grown_trans HG1.out (grown_below hb2' (some p)))
    have HR := Lib.hid hown2
    clear hown2 hg2 hb2'
    go_wp2_with fail
    go_loopw [25] (fun i wr => i = .int .i64 0 ∧ wr = w2) (fun i _ => 0)
    case atStart => exact ⟨rfl, rfl⟩
    case round =>
      obtain ⟨rfl, rfl⟩ := hrel
      go_wp2_with fail
      go_ret
      exact ⟨_, rfl, by have e := own_mono HR.out hsz1; rw [show (Value.int .i64 0).cells = #[.int .i64 0] from rfl, Nat.zero_mul, toList_madeCells_one] at e; exact e, H2.out, HG2.out⟩

theorem rdN_ok (f : RS → Int × RS) (G : Int → Prop) (hf : ∀ s : RS, s.ok → G (f s).1 ∧ (f s).2.ok) : ∀ (k : Nat) (acc : List Int) (s : RS), s.ok → (∀ x ∈ acc, G x) → (∀ x ∈ (rdN f k acc s).1, G x) ∧ (rdN f k acc s).2.ok := by
  intro k
  induction k with
  | zero => intro acc s hs ha; exact ⟨ha, hs⟩
  | succ k ih =>
    intro acc s hs ha
    obtain ⟨g1, g2⟩ := hf s hs
    by_cases h : (f s).2.er = 0
    · rw [rdN_step _ _ _ _ h]
      exact ih _ _ g2 (fun x hx => by
        rcases List.mem_append.1 hx with hx | hx
        · exact ha x hx
        · have : x = (f s).1 := by simpa using hx
          rw [this]; exact g1)
    · rw [rdN_fail _ _ _ _ h]
      exact ⟨by simp, g2⟩
theorem rdL_ok (f : RS → Int × RS) (G : Int → Prop) (hf : ∀ s : RS, s.ok → G (f s).1 ∧ (f s).2.ok) (s : RS) (hs : s.ok) : (∀ x ∈ (rdL f s).1, G x) ∧ (rdL f s).2.ok := by
  have hu := (rdU_ok s hs).2.1
  unfold rdL
  split
  · split
    · exact rdN_ok f G hf _ _ _ hu (by simp)
    · exact ⟨by simp, bad_ok 3 (.inr rfl)⟩
  · exact ⟨by simp, hu⟩
theorem rdL_byte (s : RS) (hs : s.ok) : ∀ x ∈ (rdL rdO s).1, byteI x := (rdL_ok rdO byteI (fun s h => ⟨(rdO_ok s h).1, (rdO_ok s h).2.1⟩) s hs).1
theorem rdL_i64 (s : RS) (hs : s.ok) : ∀ x ∈ (rdL rdI s).1, i64 x := (rdL_ok rdI i64 (fun s h => ⟨(rdI_ok s h).1, (rdI_ok s h).2.1⟩) s hs).1

theorem r_raw (p B : Nat) (s : RS) (w : World) (h : RdW w p B s) (hl : s.bs.length ≤ 1000000) :
    Calls Try.prog 33 #[.pointer (some ⟨p, 0, none⟩)] w fun e w' => ∃ v, e = .returned v ∧ w'.ownsRow w.heap.size 5 1 v (rdL rdO s).1.length (cB (rdL rdO s).1) ∧ RdW w' p B (rdL rdO s).2 ∧ w.grownBy w' (some p) := by
  go_enter Try.func33, Try.ntmps33
  go_wp2_with fail
  refine (r_listB p B s _ h hl).mono ?_
  rintro e w1 ⟨v, rfl, hown, h1, hg⟩
  go_wp2_with fail
  go_ret
  exact ⟨_, rfl, hown, h1, hg⟩
theorem r_ints (p B : Nat) (s : RS) (w : World) (h : RdW w p B s) (hl : s.bs.length ≤ 1000000) :
    Calls Try.prog 35 #[.pointer (some ⟨p, 0, none⟩)] w fun e w' => ∃ v, e = .returned v ∧ w'.ownsRow w.heap.size 3 1 v (rdL rdI s).1.length (cI (rdL rdI s).1) ∧ RdW w' p B (rdL rdI s).2 ∧ w.grownBy w' (some p) := by
  go_enter Try.func35, Try.ntmps35
  go_wp2_with fail
  refine (r_listI p B s _ h hl).mono ?_
  rintro e w1 ⟨v, rfl, hown, h1, hg⟩
  go_wp2_with fail
  go_ret
  exact ⟨_, rfl, hown, h1, hg⟩
theorem r_text (p B : Nat) (s : RS) (w : World) (h : RdW w p B s) (hl : s.bs.length ≤ 1000000) :
    Calls Try.prog 47 #[.pointer (some ⟨p, 0, none⟩)] w fun e w' => e = .returned (.string (strOf (rdL rdO s).1)) ∧ RdW w' p B (rdL rdO s).2 ∧ w.grownBy w' (some p) := by
  have hby := rdL_byte s h.ok
  go_enter Try.func47, Try.ntmps47
  go_wp2_with fail
  refine (r_listB p B s _ h hl).mono ?_
  rintro e w1 ⟨v, rfl, hown, h1, hg⟩
  obtain ⟨A1, c1, rfl, _, _, hA1, hsl⟩ := own_sl (k := .u8) hown
  have hconv := conv_sl (P := Try.prog) w1 24 9 5 A1 _ c1 _ _ Try.underlying24 Try.underlying5 Try.underlying9 hsl hby
  clear hby hown hsl hA1
  go_wp2_with fail
  go_ret
  exact ⟨rfl, h1, hg⟩
end Go.Proofs.Ytjnjglkmabnlfaa
