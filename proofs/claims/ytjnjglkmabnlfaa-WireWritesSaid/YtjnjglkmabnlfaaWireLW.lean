/- The law WireWrites: its walk. -/
import Derived.Test.YtjnjglkmabnlfaaRefN
import Derived.Test.YtjnjglkmabnlfaaWireLR
namespace Go.Proofs.Ytjnjglkmabnlfaa
open Go.RowKit
set_option linter.unusedVariables false

theorem Wr.drew {w : World} {p : Nat} {bs : List Int} (h : Wr w p bs) : Wr w.drew p bs := h
theorem below_undrew {B : Nat} {w w' : World} (h : Below B w.drew w') : Below B w w' := ⟨h.os, h.tape, h.output, h.size, h.block⟩
theorem good_sz400 {v : V} (h : v.good) : Vsz 400 v := ⟨h.1, by have := h.2.1; have := h.2.2; omega⟩

set_option maxHeartbeats 4000000 in
theorem wireWrites_law (A D E : Option Addr) (n c m d q f : Nat) (zs ys ks : List Int) (u x : Int) (w : World) (hn : n ≤ c) (hc : c ≤ maxLen) (hm : m ≤ d) (hd : d ≤ maxLen) (hD : D = none → m = 0 ∧ d = 0) (hq : q ≤ f) (hf : f ≤ maxLen) (hE : E = none → q = 0 ∧ f = 0)
    (h1 : Sl .i64 w w.heap.size A n zs) (h2 : Sl .u8 w w.heap.size D m ys) (h3 : Sl .i64 w w.heap.size E q ks) (hz : ∀ x ∈ zs, i64 x) (hy : ∀ x ∈ ys, byteI x) (hk : ∀ x ∈ ks, i64 x) (hu : u64 u) (hx : i64 x) :
    Calls Try.prog 3 #[.slice A n c, .int .u64 u, .int .i64 x, .slice D m d, .slice E q f] w fun e w' => e = .returned (.bool true) ∧ Below w.heap.size w w' := by
  obtain ⟨i0, hi, hz0, hz1, hz2⟩ := info_parts val_info
  have HU := Lib.hid hu
  have HX := Lib.hid hx
  have S1 := Lib.hid h1
  have S2 := Lib.hid h2
  have S3 := Lib.hid h3
  have HZ := Lib.hid hz
  have HY := Lib.hid hy
  have HK := Lib.hid hk
  clear h1 h2 h3 hz hy hk hu hx
  go_enter Try.func3, Try.ntmps3
  go_wp2_with fail
  refine (vals_any A n c zs _ hn hc S1.out HZ.out).mono ?_
  rintro e w1 ⟨v, k, vs, rfl, hk, ⟨cs, hrow, hdesc, hvl⟩, hgood, hb1⟩
  obtain ⟨A1, c1, rfl, hnc, hcm⟩ := own_shape hrow
  have HD := Lib.hid hdesc
  have HV := Lib.hid hvl
  have HG := Lib.hid hgood
  have B1 := Lib.hid hb1
  have HR := Lib.hid hrow
  have hsz1 := hb1.size
  clear hdesc hvl hgood hb1 hrow
  go_wp2_with fail
  refine (few_any D m d 200 ys _ (by omega) hm hd ((S2.out.below B1.out).more B1.out.size) hD).mono ?_
  rintro e w2 ⟨v, rfl, hown2, hb2⟩
  obtain ⟨fb, hfb⟩ : ∃ fb, fb = ys.take 200 := ⟨_, rfl⟩
  have hfl : fb.length = min m 200 := by rw [hfb, List.length_take, S2.out.len]; omega
  have hfy : ∀ b ∈ fb, byteI b := fun b hb => by rw [hfb] at hb; exact HY.out b (List.mem_of_mem_take hb)
  rw [← hfb, ← hfl] at hown2
  obtain ⟨Ab, cb, rfl, hrb⟩ := RowB.of_own (k := .u8) hown2
  have hfl2 : fb.length ≤ 200 := by omega
  have RB := Lib.hid hrb
  have FY := Lib.hid hfy
  have HR2 := Lib.hid (ownsRow_below' HR.out hb2)
  have HD2 := Lib.hid ((HD.out.below hb2).more hb2.size)
  have B2 := Lib.hid (B1.out.trans (hb2.mono hsz1))
  have hsz2 := B2.out.size
  have HFL := Lib.hid hfl
  clear hown2 hrb hfy hb2 hfb hfl
  go_wp2_with fail
  refine (ints_any E q f 20 ks _ (by omega) hq hf ((S3.out.below B2.out).more B2.out.size) hE).mono ?_
  rintro e w3 ⟨v, rfl, hown3, hb3⟩
  obtain ⟨fl, hfl⟩ : ∃ fl, fl = ks.take 20 := ⟨_, rfl⟩
  have hll : fl.length = min q 20 := by rw [hfl, List.length_take, S3.out.len]; omega
  have hfi : ∀ b ∈ fl, i64 b := fun b hb => by rw [hfl] at hb; exact HK.out b (List.mem_of_mem_take hb)
  rw [← hfl, ← hll] at hown3
  obtain ⟨Al, cl, rfl, hrl⟩ := RowB.of_own (k := .i64) hown3
  have hll2 : fl.length ≤ 20 := by omega
  have HR3 := Lib.hid (ownsRow_below' HR2.out hb3)
  have HD3 := Lib.hid ((HD2.out.below hb3).more hb3.size)
  have B3 := Lib.hid (B2.out.trans (hb3.mono hsz2))
  have RB3 := Lib.hid ((RB.out.below hb3).more hb3.size)
  have RL3 := Lib.hid hrl
  have FI := Lib.hid hfi
  have HLL := Lib.hid hll
  have hsz3 := B3.out.size
  clear hown3 hrl hfi hb3 hfl hll
  have hr1 : k + 5 ≤ maxLen := by unfold maxLen; omega
  have hr2 : (k + 5) * 72 ≤ 140737488355328 := by omega
  have hal : ∀ o, Below w3.heap.size w3 (w3.alloc o) := fun o => (Below.refl _ _).alloc (Nat.le_refl _) _
  have HAL := Lib.hid hal
  clear hal
  go_wp2_with (at_builtin; refine wpList_append_own _ rfl _ _ _ rfl w.heap.size 28 i0 _ 5 72 Try.underlying25 hi hz0 hz1 hz2 rfl (by omega) _ k cs rfl (HR3.out.alloc _) ⟨w3.heap.size, 0, none⟩ 5 5 [.int .i64 0, .int .u64 u, .int .i64 0, .slice none 0 0, .slice none 0 0, .int .i64 1, .int .u64 0, .int .i64 x, .slice none 0 0, .slice none 0 0, .int .i64 4, .int .u64 0, .int .i64 0, .slice Ab fb.length cb, .slice none 0 0, .int .i64 5, .int .u64 0, .int .i64 0, .slice none 0 0, .slice Al fl.length cl, .int .i64 2, .int .u64 0, .int .i64 1, .slice none 0 0, .slice none 0 0] rfl rfl (cells_new _ _ #[.int .i64 0, .int .u64 u, .int .i64 0, .slice none 0 0, .slice none 0 0, .int .i64 1, .int .u64 0, .int .i64 x, .slice none 0 0, .slice none 0 0, .int .i64 4, .int .u64 0, .int .i64 0, .slice Ab fb.length cb, .slice none 0 0, .int .i64 5, .int .u64 0, .int .i64 0, .slice none 0 0, .slice Al fl.length cl, .int .i64 2, .int .u64 0, .int .i64 1, .slice none 0 0, .slice none 0 0] _ rfl) (by simp [Value.oneCell']) hr1 hr2 (by simp; omega) ?_; intro v4 w4 hown4 hg4 hnil4; have hov := OwnV.app (m := 5) (us := [⟨0, u, 0, [], []⟩, ⟨1, 0, x, [], []⟩, ⟨4, 0, 0, fb, []⟩, ⟨5, 0, 0, [], fl⟩, ⟨2, 0, 1, [], []⟩]) (HR3.out.alloc _) ((HD3.out.below (HAL.out _)).more (HAL.out _).size) HV.out (Desc.append (Desc.one (vok_nil _ _ 0 u 0)) (Desc.append (Desc.one (vok_nil _ _ 1 0 x)) (Desc.append (Desc.one (v := ⟨4, 0, 0, fb, []⟩) ⟨(RB3.out.below (HAL.out _)).more (HAL.out _).size, RowB.nil⟩) (Desc.append (Desc.one (v := ⟨5, 0, 0, [], fl⟩) ⟨RowB.nil, (RL3.out.below (HAL.out _)).more (HAL.out _).size⟩) (Desc.one (vok_nil _ _ 2 0 1)))))) rfl hown4 hg4; have hbl := below_row ((HAL.out (.cells #[.int .i64 0, .int .u64 u, .int .i64 0, .slice none 0 0, .slice none 0 0, .int .i64 1, .int .u64 0, .int .i64 x, .slice none 0 0, .slice none 0 0, .int .i64 4, .int .u64 0, .int .i64 0, .slice Ab fb.length cb, .slice none 0 0, .int .i64 5, .int .u64 0, .int .i64 0, .slice none 0 0, .slice Al fl.length cl, .int .i64 2, .int .u64 0, .int .i64 1, .slice none 0 0, .slice none 0 0] 28)).mono hsz3) hg4 (by simp; omega) (fun g hg => (HR3.out.lt g hg).1); obtain ⟨A4, c4, rfl, hn4, hc4, hsl⟩ := hov.slice; clear hown4 hg4 hnil4)
  obtain ⟨us, hus⟩ : ∃ us, us = vs ++ [⟨0, u, 0, [], []⟩, ⟨1, 0, x, [], []⟩, ⟨4, 0, 0, fb, []⟩, ⟨5, 0, 0, [], fl⟩, ⟨2, 0, 1, [], []⟩] := ⟨_, rfl⟩
  rw [← hus] at hov hsl
  have hsz : ∀ v ∈ us, Vsz 400 v := by
    intro v hv
    rw [hus] at hv
    rcases List.mem_append.1 hv with hv | hv
    · exact good_sz400 (HG.out v hv)
    · simp only [List.mem_cons, List.not_mem_nil, or_false] at hv
      rcases hv with rfl | rfl | rfl | rfl | rfl
      · exact good_sz400 (good0 u HU.out)
      · exact good_sz400 (good1 x HX.out)
      · exact ⟨.inr (.inr (.inr (.inl ⟨.inr rfl, rfl, rfl, by simp only; omega, FY.out, rfl⟩))), by simp; omega⟩
      · exact ⟨.inr (.inr (.inr (.inr ⟨rfl, rfl, rfl, rfl, by simp only; omega, FI.out⟩))), by simp; omega⟩
      · exact good_sz400 (good2 1 (.inr rfl))
  obtain ⟨N, hN⟩ : ∃ N, N = k + 5 := ⟨_, rfl⟩
  rw [← hN] at hsl hn4 ⊢
  have hN13 : N ≤ 13 := by omega
  have SL := Lib.hid hsl
  have HSZ := Lib.hid hsz
  have HNL := Lib.hid hsl.len
  have B4 := Lib.hid (B3.out.trans hbl)
  have hw4 : w.heap.size ≤ w4.heap.size := B4.out.size
  clear hov hsl hsz hus hN hbl
  have hal : Below w4.heap.size w4 (w4.alloc (.cells #[.slice none 0 0] 32)) := (Below.refl _ _).alloc (Nat.le_refl _) _
  have SLA := Lib.hid (SL.out.below hal)
  have BA := Lib.hid (B4.out.trans (hal.mono hw4))
  clear hal
  unfold maxLen at hc4
  go_wp2_with fail
  go_loopw [13] (fun i wr => ∃ j : Nat, j ≤ N ∧ i = .int .i64 j ∧ Wr wr w4.heap.size (encVs (us.take j)) ∧ SlV wr w4.heap.size A4 N us ∧ Below w.heap.size w wr) (fun i _ => N - (intOf i).toNat)
  case atStart => exact ⟨0, Nat.zero_le _, rfl, Wr.new w4, SLA.out, BA.out⟩
  case round =>
    obtain ⟨j, hj, rfl, hwr, hsl, hbel⟩ := hrel
    have HW := Lib.hid hwr
    have SS := Lib.hid hsl
    have BB := Lib.hid hbel
    have hps := hwr.lt
    clear hwr hbel
    by_cases hlt : j < N
    · have hjv : j < us.length := by rw [HNL.out]; exact hlt
      obtain ⟨g, Av, cv, Aw, cw, rfl, hg, hvok, k0, k1, k2, k3, k4⟩ := hsl.at_ j hlt hjv
      have hvz := HSZ.out us[j] (List.getElem_mem hjv)
      have hlen := encVs_take_len 400 us j HSZ.out
      have hlen2 := encVs_take_len 400 us (j + 1) HSZ.out
      have htk := encVs_take us j hjv
      obtain ⟨v, hv⟩ : ∃ v, v = us[j] := ⟨_, rfl⟩
      rw [← hv] at hvok k0 k1 k2 k3 k4 hvz htk
      have HTK := Lib.hid htk
      have VO := Lib.hid hvok
      have VZ := Lib.hid hvz
      have HLEN := Lib.hid hlen
      have hmul : (j + 1) * (400 + 10) ≤ 13 * (400 + 10) := Nat.mul_le_mul (by omega) (Nat.le_refl _)
      obtain ⟨M, hM⟩ : ∃ M, M = (encVs (us.take (j + 1))).length := ⟨_, rfl⟩
      rw [← hM] at hlen2
      have hM6 : M ≤ 6000 := by omega
      have HM := Lib.hid hM
      clear hv hvok hvz hlen hlen2 htk hsl hM hmul
      go_wp2_with fail
      refine (write_any w4.heap.size _ v Av Aw cv cw _ HW.out VO.out VZ.out.1 (by have := VZ.out.2; have := HLEN.out; omega)).mono ?_
      rintro e w5 ⟨rfl, hw5, hb5⟩
      rw [← HTK.out] at hw5
      have W5 := Lib.hid hw5
      have SS5 := Lib.hid (SS.out.below hb5)
      have B5 := Lib.hid (BB.out.trans (hb5.mono hw4))
      have hps5 := hw5.lt
      clear hw5 hb5 k0 k1 k2 k3 k4
      have a1 : IntKind.i64.wrap ((j : Int) + 1) = (j : Int) + 1 := by rw [IntKind.wrap_i64]; omega
      have a2 : ((j : Int) + 1).toNat = j + 1 := by omega
      have a3 : (0 : Int) ≤ (j : Int) + 1 := by omega
      have a4 : (j : Int) + 1 ≤ (c4 : Int) := by omega
      have a5 : (j : Int) + 1 ≤ (N : Int) := by omega
      go_wp2_with fail
      go_region_held3 (fun _ => True) (trivial)
        (first
          | (go_at_call 16; refine (w_done w4.heap.size _ _ W5.out.drew (by rw [← HM.out]; omega)).mono ?_
             rintro e w6 ⟨v6, rfl, hown6, hb6⟩
             rw [← HM.out] at hown6
             obtain ⟨A6, c6, rfl, _, _, _, hs6⟩ := own_sl (k := .u8) hown6
             have hb6' := below_undrew hb6
             have S6 := Lib.hid hs6
             have W6 := Lib.hid (W5.out.below hb6')
             have SS6 := Lib.hid (SS5.out.below (hb6'.mono (Nat.le_of_lt hps5)))
             have B6 := Lib.hid (B5.out.trans (hb6'.mono B5.out.size))
             have hsz6 := hb6'.size
             clear hown6 hs6 hb6 hb6')
          | (go_at_call 17; refine (ref_encode _ (j + 1) c4 400 (us.take (j + 1)) _ ((SS6.out.take (j + 1) (by omega)).more (by omega)) (by omega) (by omega) (by omega) (fun v hv => HSZ.out v (List.mem_of_mem_take hv))).mono ?_
             rintro e w7 ⟨v7, rfl, hown7, hb7⟩
             rw [← HM.out] at hown7
             obtain ⟨A7, c7, rfl, _, _, _, hs7⟩ := own_sl (k := .u8) hown7
             have S7 := Lib.hid hs7
             have S67 := Lib.hid ((S6.out.below hb7).more hb7.size)
             have W7 := Lib.hid (W6.out.below hb7)
             have SS7 := Lib.hid (SS6.out.below (hb7.mono (by omega)))
             have B7 := Lib.hid (B6.out.trans (hb7.mono B6.out.size))
             clear hown7 hs7 hb7)
          | (go_at_call 15; refine (sameBytes A6 A7 M c6 c7 (encVs (us.take (j + 1))) (encVs (us.take (j + 1))) _ (by unfold maxLen; omega) S67.out S7.out).mono ?_
             rintro e w8 ⟨rfl, qd, rfl⟩
             rw [decide_eq_true (rfl : encVs (us.take (j + 1)) = encVs (us.take (j + 1)))]))
      have W8 := Lib.hid (W7.out.drewN qd)
      have SS8 := Lib.hid (SS7.out.drewN qd)
      have B8 := Lib.hid (below_drewN B7.out qd)
      clear a1 a2 a3 a4 a5
      go_wp2_with fail
      go_roundw
      case rel => exact ⟨j + 1, by omega, by go_num, W8.out, SS8.out, B8.out⟩
      case measure => simp [intOf]; omega
    · obtain rfl : j = N := by omega
      clear hsl
      go_wp2_with fail
      refine (lives_any _).mono ?_
      rintro e w8 ⟨rfl, hb8⟩
      go_wp2_with fail
      go_ret
      exact ⟨rfl, BB.out.trans (hb8.mono BB.out.size)⟩
end Go.Proofs.Ytjnjglkmabnlfaa
