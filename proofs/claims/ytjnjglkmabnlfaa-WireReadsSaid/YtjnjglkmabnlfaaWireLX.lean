/- The law WirePrefix: its walk. -/
import Derived.Test.YtjnjglkmabnlfaaWireLR
namespace Go.Proofs.Ytjnjglkmabnlfaa
open Go.RowKit
set_option linter.unusedVariables false

theorem rdN_st (f : RS → Int × RS) (hf : ∀ s : RS, s.ok → (f s).2.ok ∧ (f s).2.bs.length ≤ s.bs.length) : ∀ (k : Nat) (acc : List Int) (s : RS), s.ok → (rdN f k acc s).2.ok ∧ (rdN f k acc s).2.bs.length ≤ s.bs.length := by
  intro k
  induction k with
  | zero => intro acc s hs; exact ⟨hs, Nat.le_refl _⟩
  | succ k ih =>
    intro acc s hs
    obtain ⟨g1, g2⟩ := hf s hs
    by_cases h : (f s).2.er = 0
    · rw [rdN_step _ _ _ _ h]
      obtain ⟨a, b⟩ := ih (acc ++ [(f s).1]) _ g1
      exact ⟨a, Nat.le_trans b g2⟩
    · rw [rdN_fail _ _ _ _ h]; exact ⟨g1, g2⟩
theorem rdL_st (f : RS → Int × RS) (hf : ∀ s : RS, s.ok → (f s).2.ok ∧ (f s).2.bs.length ≤ s.bs.length) (s : RS) (hs : s.ok) : (rdL f s).2.ok ∧ (rdL f s).2.bs.length ≤ s.bs.length := by
  obtain ⟨_, h2, h3, _⟩ := rdU_ok s hs
  unfold rdL
  split
  · split
    · obtain ⟨a, b⟩ := rdN_st f hf (rdU s).1.toNat [] (rdU s).2 h2
      exact ⟨a, Nat.le_trans b h3⟩
    · exact ⟨bad_ok 3 (.inr rfl), by simp [bad]⟩
  · exact ⟨h2, h3⟩
theorem rdB_len (s : RS) (hs : s.ok) : (rdB s).2.bs.length ≤ s.bs.length := by
  unfold rdB
  split
  · split
    · simp [bad]
    · rename_i b t hbt
      rw [hbt]
      split <;> simp [bad]
  · exact Nat.le_refl _
theorem rdV_st (k : Int) (s : RS) (hs : s.ok) : (rdV k s).2.ok ∧ (rdV k s).2.bs.length ≤ s.bs.length := by
  obtain ⟨_, u2, u3, _⟩ := rdU_ok s hs
  obtain ⟨_, i2, i3⟩ := rdI_ok s hs
  have l1 := rdL_st rdO (fun s h => (rdO_ok s h).2) s hs
  have l2 := rdL_st rdI (fun s h => (rdI_ok s h).2) s hs
  unfold rdV
  split
  · exact ⟨u2, u3⟩
  · split
    · exact ⟨i2, i3⟩
    · split
      · exact ⟨rdB_ok s hs, rdB_len s hs⟩
      · split
        · exact l1
        · exact l2
theorem rdVs_take (us : List V) (s : RS) (j : Nat) (h : j < us.length) : (rdVs ((us.take (j + 1)).map V.k) s).2 = (rdV us[j].k (rdVs ((us.take j).map V.k) s).2).2 := by
  rw [List.take_succ_eq_append_getElem h, List.map_append, List.map_cons, List.map_nil, rdVs_snoc]
theorem append_len_of_take {b : List Int} {J : Nat} (h : J < b.length) : b.drop J ≠ [] := by
  intro e
  have := congrArg List.length e
  simp at this; omega

set_option maxRecDepth 100000 in
set_option maxHeartbeats 4000000 in
theorem wirePrefix_law (A : Option Addr) (n c : Nat) (zs : List Int) (cut cc : Int) (w : World) (hn : n ≤ c) (hc : c ≤ maxLen) (h : Sl .i64 w w.heap.size A n zs) (hz : ∀ x ∈ zs, i64 x) (hcut : i64 cut) (hcc : byteI cc) :
    Calls Try.prog 7 #[.slice A n c, .int .i64 cut, .int .u8 cc] w fun e w' => e = .returned (.bool true) ∧ Below w.heap.size w w' := by
  obtain ⟨i0, hi, hz0, hz1, hz2⟩ := info_parts u8_info
  obtain ⟨hc0, hc1⟩ := hcut
  have CC := Lib.hid hcc
  have HS := Lib.hid h
  have HZ := Lib.hid hz
  clear h hz hcc
  go_enter Try.func7, Try.ntmps7
  go_wp2_with fail
  refine (vals_any A n c zs _ hn hc HS.out HZ.out).mono ?_
  rintro e w1 ⟨v, N, us, rfl, hN8, hov, hgood, hb1⟩
  obtain ⟨A1, c1, rfl, hnc, hcm, hsl⟩ := hov.slice
  have hcan : ∀ v ∈ us, v.can := fun v hv => (hgood v hv).1
  have OV := Lib.hid hov
  have SL := Lib.hid hsl
  have GD := Lib.hid hgood
  have CAN := Lib.hid hcan
  have HNL := Lib.hid hsl.len
  have B1 := Lib.hid hb1
  clear hov hsl hgood hcan hb1
  go_wp2_with fail
  refine (encode_any A1 N c1 us _ SL.out (by omega) hnc (fun v hv => good_sz (GD.out v hv))).mono ?_
  rintro e w2 ⟨v, rfl, hown2, hb2⟩
  have hel := encVs_len 1000 us (fun v hv => good_sz (GD.out v hv))
  rw [HNL.out] at hel
  obtain ⟨bs, hbs⟩ : ∃ bs, bs = encVs us := ⟨_, rfl⟩
  have hbb := encVs_byte us CAN.out
  rw [← hbs] at hel hown2 hbb
  obtain ⟨L, hL⟩ : ∃ L : Nat, L = bs.length := ⟨_, rfl⟩
  rw [← hL] at hel hown2
  have hL2 : L ≤ 10000 := by
    have : N * 1010 ≤ 8 * 1010 := Nat.mul_le_mul (by omega) (Nat.le_refl _)
    omega
  have HL := Lib.hid hL
  have HBS := Lib.hid hbs
  have HBB := Lib.hid hbb
  obtain ⟨A2, c2, rfl, hn2, hc2, hA2, hs2⟩ := own_sl (k := .u8) hown2
  have OV2 := Lib.hid (OV.out.below hb2)
  have B2 := Lib.hid (B1.out.trans (hb2.mono B1.out.size))
  have S2 := Lib.hid hs2
  clear hown2 hs2 hb2 hL hel hbs hbb
  by_cases hL0 : L = 0
  · subst hL0
    go_wp2_with fail
    refine (r_read none 0 0 [] _ (Sl.nil _ _ _ _) (fun _ => rfl) (by omega) (by simp)).mono ?_
    rintro e w3 ⟨p, rfl, hp, hr3, hb3⟩
    have R3 := Lib.hid hr3
    have B3 := Lib.hid (B2.out.trans (hb3.mono B2.out.size))
    clear hr3 hb3
    go_wp2_with fail
    refine (r_end p _ _ _ R3.out (by simp)).mono ?_
    rintro e w4 ⟨rfl, rfl⟩
    go_wp2_with fail
    refine (lives_any _).mono ?_
    rintro e w5 ⟨rfl, hb5⟩
    go_wp2_with fail
    go_ret
    exact ⟨rfl, B3.out.trans (hb5.mono B3.out.size)⟩
  · have hLz : ((L : Int) == 0) = false := by simp; omega
    obtain ⟨hj0, hj1⟩ := aroundI_bd cut L (by omega)
    obtain ⟨J, hJ⟩ : ∃ J : Nat, aroundI cut (L : Int) = J := ⟨(aroundI cut (L : Int)).toNat, by omega⟩
    have HJ := Lib.hid hJ
    have hJL : J < L := by omega
    clear hJ hj0 hj1
    go_wp2_with fail
    refine (around_any cut L _ hc0 hc1 (by omega) (by omega)).mono ?_
    rintro e w' ⟨rfl, rfl⟩
    rw [HJ.out]
    unfold maxLen at hc2
    go_wp2_with fail
    refine (r_read A2 J c2 (bs.take J) _ (S2.out.take J (by omega)) hA2 (by omega) (fun b hb => HBB.out b (List.mem_of_mem_take hb))).mono ?_
    rintro e w3 ⟨p, rfl, hp, hr3, hb3⟩
    have S3 := Lib.hid ((S2.out.below hb3).more hb3.size)
    have OV3 := Lib.hid (OV2.out.below hb3)
    have B3 := Lib.hid (B2.out.trans (hb3.mono B2.out.size))
    have R3 := Lib.hid hr3
    have hpw := hr3.lt
    have hpb : w.heap.size ≤ p := by have := B2.out.size; omega
    clear hr3 hb3
    go_wp2_with fail
    refine (few_any A2 L c2 L bs _ (by omega) hn2 (by unfold maxLen; omega) S3.out (fun h => by have := hA2 h; omega)).mono ?_
    rintro e w4 ⟨v, rfl, hown4, hb4⟩
    rw [List.take_of_length_le (by rw [HL.out]; omega), Nat.min_self] at hown4
    have hown4' : w4.ownsRow w3.heap.size 5 1 v L (cB bs) := hown4
    have OV4 := Lib.hid (OV3.out.below hb4)
    have R4 := Lib.hid (Rd.below R3.out hb4)
    have B4 := Lib.hid (B3.out.trans (hb4.mono B3.out.size))
    have Q4 := Lib.hid hb4
    have hr1 : L + 1 ≤ maxLen := by unfold maxLen; omega
    have hr2 : (L + 1) * 1 ≤ 140737488355328 := by omega
    have hsz34 := hb4.size
    have E1 := Lib.hid (show cB bs ++ [Value.int .u8 cc] = cB (bs ++ [cc]) from cB_snoc bs cc)
    clear hown4 hb4
    go_wp2_with (at_builtin; refine wpList_append_own _ rfl _ _ _ rfl w3.heap.size 5 i0 _ 1 1 Try.underlying24 hi hz0 hz1 hz2 rfl (by omega) _ L (cB bs) rfl (hown4'.alloc _) ⟨w4.heap.size, 0, none⟩ 1 1 [.int .u8 cc] rfl rfl (cell_one_new _ _ _) (by simp [Value.oneCell']) hr1 hr2 (by simp; omega) ?_; intro v5 w5 hown5 hg5 hnil5; rw [E1.out] at hown5; have hb5 := below_row (((Below.refl w3.heap.size w4).alloc hsz34 (.cells #[.int .u8 cc] 5))) hg5 (by simp; omega) (fun g hg => (hown4'.lt g hg).1); clear hg5 hnil5; obtain ⟨A5, c5, rfl, hn5, hc5, hA5, hs5⟩ := own_sl (k := .u8) hown5)
    have S5 := Lib.hid hs5
    have R5 := Lib.hid (Rd.below R3.out (Q4.out.trans hb5))
    have OV5 := Lib.hid (OV3.out.below (Q4.out.trans hb5))
    have B5 := Lib.hid (B3.out.trans ((Q4.out.trans hb5).mono B3.out.size))
    have hb35 := (Q4.out.trans hb5).size
    clear hown5 hs5 hb5
    refine (r_read A5 (L + 1) c5 (bs ++ [cc]) _ S5.out hA5 (by omega) (fun b hb => by
      rcases List.mem_append.1 hb with h | h
      · exact HBB.out b h
      · have : b = cc := by simpa using h
        rw [this]; exact CC.out)).mono ?_
    rintro e w6 ⟨q, rfl, hq, hr6, hb6⟩
    have K6 := Lib.hid hr6
    have R6 := Lib.hid (Rd.below R5.out hb6)
    have OV6 := Lib.hid (OV5.out.below hb6)
    have B6 := Lib.hid (B5.out.trans (hb6.mono B5.out.size))
    have hpq : p ≠ q := by omega
    have hqb : w.heap.size ≤ q := by omega
    clear hr6 hb6
    go_wp2_with fail
    go_loopw [12] (fun i wr => ∃ j : Nat, j ≤ N ∧ i = .int .i64 j ∧ RdW wr p w3.heap.size (rdVs ((us.take j).map V.k) ⟨bs.take J, 0⟩).2 ∧ (rdVs ((us.take j).map V.k) ⟨bs.take J, 0⟩).2.bs.length ≤ 10000 ∧ RdW wr q w6.heap.size ⟨encVs (us.drop j) ++ [cc], 0⟩ ∧ OwnV wr w.heap.size (.slice A1 N c1) N us ∧ Below w.heap.size w wr) (fun i _ => N - (intOf i).toNat)
    case atStart => exact ⟨0, Nat.zero_le _, rfl, R6.out, by simp [rdVs]; omega, by rw [List.drop_zero, ← HBS.out]; exact K6.out, OV6.out, B6.out⟩
    case round =>
      obtain ⟨j, hj, rfl, hr, hlen, hk, hov, hbel⟩ := hrel
      have RR := Lib.hid hr
      have KK := Lib.hid hk
      have OV := Lib.hid hov
      have BB := Lib.hid hbel
      have HLEN := Lib.hid hlen
      clear hr hk hov hbel hlen
      by_cases hlt : j < N
      · have hjv : j < us.length := by rw [HNL.out]; exact hlt
        obtain ⟨A', c', hv', _, _, hsl⟩ := OV.out.slice
        cases hv'
        obtain ⟨g, Ab, cb, Al, cl, rfl, hg, hvok, k0, k1, k2, k3, k4⟩ := hsl.at_ j hlt hjv
        have hvg := GD.out us[j] (List.getElem_mem hjv)
        have hdr := encVs_drop us j hjv
        have htk := rdVs_take us ⟨bs.take J, 0⟩ j hjv
        obtain ⟨v, hv⟩ : ∃ v, v = us[j] := ⟨_, rfl⟩
        rw [← hv] at k0 hvg hdr htk
        have HDR := Lib.hid (show encVs (us.drop j) ++ [cc] = encV v ++ (encVs (us.drop (j + 1)) ++ [cc]) by rw [hdr, List.append_assoc])
        have HTK := Lib.hid htk
        have hEl : (encVs (us.drop j) ++ [cc]).length ≤ 1000000 := by
          have h2 := encVs_len 1000 (us.drop j) (fun v hv => good_sz (GD.out v (List.mem_of_mem_drop hv)))
          rw [List.length_drop, HNL.out] at h2
          have : (N - j) * 1010 ≤ 10 * 1010 := Nat.mul_le_mul (by omega) (Nat.le_refl _)
          rw [List.length_append]; simp; omega
        have HEL := Lib.hid hEl
        have VG := Lib.hid hvg
        have hgs : g < wr.heap.size := hg
        have hgp : ∀ pp B' s', RdW wr pp B' s' → g ≠ pp := fun pp B' s' hR => by
          obtain ⟨cs', ho', _⟩ := OV.out
          obtain ⟨A'', m'', c'', kk, _⟩ := hR
          rintro rfl
          rcases ho'.2 with ⟨e1, _⟩ | ⟨g', cap, cur, e1, _, hh, _⟩
          · simp at e1
          · simp only [Value.slice.injEq, Option.some.injEq, Addr.mk.injEq, and_true, true_and] at e1
            obtain ⟨rfl, rfl⟩ := e1
            have := (show wr.heap[g]? = _ from kk).symm.trans hh
            simp at this
        have hg1 : g ≠ p := hgp p _ _ RR.out
        clear hvok hvg hdr hv hsl htk hEl k1 k2 k3 k4 hgp
        go_wp2_with fail
        refine (read_any p w3.heap.size _ v.k _ RR.out (can_k VG.out.1) (by have := HLEN.out; omega)).mono ?_
        rintro e wa ⟨Ab1, cb1, Al1, cl1, rfl, hvok1, hr1', hga⟩
        have z0 := hga.cell (a := ⟨g, j * 5, none⟩) k0 (fun e => hg1 (by injection e))
        have RA := Lib.hid hr1'
        have KA := Lib.hid (Rd.other KK.out RR.out hpq.symm hga)
        have OA := Lib.hid (OV.out.reader RR.out hga)
        have BA := Lib.hid (below_grown1 BB.out hga BB.out.size hpb)
        clear hvok1 hr1' hga k0
        go_wp2_with fail
        refine (read_v q w6.heap.size v _ _ _ KA.out VG.out.1 HDR.out HEL.out).mono ?_
        rintro e wb ⟨Ab2, cb2, Al2, cl2, rfl, hvok2, hr2', hgb⟩
        have RB := Lib.hid (Rd.other RA.out KA.out hpq hgb)
        have OB := Lib.hid (OA.out.reader KA.out hgb)
        have BB2 := Lib.hid (below_grown1 BA.out hgb BA.out.size hqb)
        have KB := Lib.hid hr2'
        have hst := (rdV_st v.k _ RR.out.ok).2
        have hst2 := Nat.le_trans hst HLEN.out
        rw [← HTK.out] at hst2
        have HST := Lib.hid hst2
        clear hvok2 hr2' hgb z0 hst hst2
        go_wp2_with fail
        go_roundw
        case rel => exact ⟨j + 1, by omega, by go_num, by rw [HTK.out]; exact RB.out, HST.out, KB.out, OB.out, BB2.out⟩
        case measure => simp [intOf]; omega
      · obtain rfl : j = N := by omega
        have hR := RR.out
        rw [List.take_of_length_le (by rw [HNL.out]; omega), rdVs_prefix us CAN.out (fun v _ s hs => (rdV_st v.k s hs).1) (bs.take J) (bs.drop J) (append_len_of_take (by rw [← HL.out]; exact hJL)) (fun b hb => HBB.out b (List.mem_of_mem_take hb)) (by rw [List.take_append_drop, HBS.out])] at hR
        have hK := KK.out
        rw [List.drop_of_length_le (by rw [HNL.out]; omega)] at hK
        have hK' : RdW wr q w6.heap.size ⟨[cc], 0⟩ := hK
        have RE := Lib.hid hR
        have KE := Lib.hid hK'
        clear hR hK hK'
        go_wp2_with fail
        refine (r_end p _ _ _ RE.out (by simp [bad])).mono ?_
        rintro e wa ⟨rfl, rfl⟩
        rw [show endE (bad 3) = 3 from rfl]
        go_wp2_with fail
        refine (r_end q _ _ _ KE.out (by simp)).mono ?_
        rintro e wa ⟨rfl, rfl⟩
        rw [show endE ⟨[cc], 0⟩ = 2 from rfl]
        go_wp2_with fail
        refine (around_any cut 6 _ hc0 hc1 (by omega) (by omega)).mono ?_
        rintro e wa ⟨rfl, rfl⟩
        obtain ⟨h60, h61⟩ := aroundI_bd cut 6 (by omega)
        obtain ⟨K, hK⟩ : ∃ K, K = aroundI cut 6 := ⟨_, rfl⟩
        rw [← hK] at h60 h61 ⊢
        clear hK
        go_wp2_with fail
        refine (read_any p w3.heap.size _ K _ RE.out ⟨h60, h61⟩ (by simp [bad])).mono ?_
        rw [show ReadPost p w3.heap.size (bad 3) K wr = fun e w' => ∃ Ab cb Al cl, e = .returned (vAgg (rdV K (bad 3)).1 Ab cb Al cl) ∧ VOk w' w'.heap.size (rdV K (bad 3)).1 Ab cb Al cl ∧ RdW w' p w3.heap.size (rdV K (bad 3)).2 ∧ wr.grownBy w' (some p) from rfl, rdV_stay K (bad 3) (by simp [bad])]
        rintro e wa ⟨Ab1, cb1, Al1, cl1, rfl, hvok1, hr1', hga⟩
        have RA := Lib.hid hr1'
        have VA := Lib.hid hvok1
        have BA := Lib.hid (below_grown1 BB.out hga BB.out.size hpb)
        clear hvok1 hr1' hga
        simp only [zV, vAgg, List.length_nil]
        go_wp2_with fail
        have hala : Below wa.heap.size wa (wa.alloc (.cells #[.int .i64 K, .int .u64 0, .int .i64 0, .slice Ab1 0 cb1, .slice Al1 0 cl1] 28)) := (Below.refl _ _).alloc (Nat.le_refl _) _
        refine (same_eq (zV K) Ab1 Al1 none none cb1 cl1 0 0 _ ((VA.out.1.1.below hala).more hala.size) ((VA.out.2.1.below hala).more hala.size) (Sl.nil _ _ _ _) (Sl.nil _ _ _ _) (by simp [zV]) (by simp [zV])).mono ?_
        rintro e wb ⟨rfl, hb⟩
        have RB := Lib.hid (Rd.below (Rd.below RA.out hala) hb)
        have BB2 := Lib.hid ((BA.out.trans (hala.mono BA.out.size)).trans (hb.mono (Nat.le_trans BA.out.size hala.size)))
        clear hala hb
        go_wp2_with fail
        refine (r_end p _ _ _ RB.out (by simp [bad])).mono ?_
        rintro e wc ⟨rfl, rfl⟩
        rw [show endE (bad 3) = 3 from rfl]
        go_wp2_with fail
        refine (lives_any _).mono ?_
        rintro e wd ⟨rfl, hbd⟩
        go_wp2_with fail
        go_ret
        exact ⟨rfl, BB2.out.trans (hbd.mono BB2.out.size)⟩
end Go.Proofs.Ytjnjglkmabnlfaa
