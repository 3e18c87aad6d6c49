/- The law WireOne: its walk. -/
import Derived.Test.YtjnjglkmabnlfaaWireLY
namespace Go.Proofs.Ytjnjglkmabnlfaa
open Go.RowKit
set_option linter.unusedVariables false

theorem byte_set {bs : List Int} {J : Nat} {cc : Int} (h : ∀ x ∈ bs, byteI x) (hc : byteI cc) : ∀ x ∈ bs.set J cc, byteI x := by
  intro x hx
  rcases List.mem_or_eq_of_mem_set hx with h1 | rfl
  · exact h x h1
  · exact hc
/-- the kinds that the law asks for -/
def kindsI (zs : List Int) : List Int := zs.map (fun x => aroundI x 6)
theorem kindsI_ok (zs : List Int) : ∀ k ∈ kindsI zs, 0 ≤ k ∧ k < 6 := by
  intro k hk
  obtain ⟨x, _, rfl⟩ := List.mem_map.1 hk
  exact aroundI_bd x 6 (by omega)
theorem kindsI_take (zs : List Int) (j : Nat) (h : j < zs.length) : kindsI (zs.take (j + 1)) = kindsI (zs.take j) ++ [aroundI zs[j] 6] := by
  unfold kindsI
  rw [List.take_succ_eq_append_getElem h, List.map_append]; rfl

set_option maxRecDepth 100000 in
set_option maxHeartbeats 8000000 in
theorem wireOne_law (D A E : Option Addr) (m d n c q f : Nat) (ys zs ks : List Int) (at_ cc : Int) (w : World) (hm : m ≤ d) (hd : d ≤ maxLen) (hD : D = none → m = 0 ∧ d = 0) (hn : n ≤ c) (hc : c ≤ maxLen) (hq : q ≤ f) (hf : f ≤ maxLen)
    (h1 : Sl .u8 w w.heap.size D m ys) (h2 : Sl .i64 w w.heap.size A n zs) (h3 : Sl .i64 w w.heap.size E q ks) (hy : ∀ x ∈ ys, byteI x) (hz : ∀ x ∈ zs, i64 x) (hk : ∀ x ∈ ks, i64 x) (hat : i64 at_) (hcc : byteI cc) :
    Calls Try.prog 6 #[.slice D m d, .slice A n c, .int .i64 at_, .int .u8 cc, .slice E q f] w fun e w' => e = .returned (.bool true) ∧ Below w.heap.size w w' := by
  obtain ⟨i0, hi, hz0, hz1, hz2⟩ := info_parts val_info
  obtain ⟨hat0, hat1⟩ := hat
  have CC := Lib.hid hcc
  have S1 := Lib.hid h1
  have S2 := Lib.hid h2
  have S3 := Lib.hid h3
  have HY := Lib.hid hy
  have HZ := Lib.hid hz
  have HK := Lib.hid hk
  have HKL := Lib.hid h3.len
  clear h1 h2 h3 hy hz hk hcc
  go_enter Try.func6, Try.ntmps6
  go_wp2_with fail
  refine (vals_any A n c zs _ hn hc S2.out HZ.out).mono ?_
  rintro e w1 ⟨v, N, us, rfl, hN8, hov, hgood, hb1⟩
  obtain ⟨A1, c1, rfl, hnc, hcm, hsl⟩ := hov.slice
  have hcan : ∀ v ∈ us, v.can := fun v hv => (hgood v hv).1
  have SL := Lib.hid hsl
  have GD := Lib.hid hgood
  have CAN := Lib.hid hcan
  have HNL := Lib.hid hsl.len
  have B1 := Lib.hid hb1
  clear hov hsl hgood hcan hb1
  go_wp2_with fail
  refine (encode_any A1 N c1 us _ SL.out (by omega) hnc (fun v hv => good_sz (GD.out v hv))).mono ?_
  rintro e w2 ⟨v, rfl, hown2, hb2⟩
  have hel := encVs_len 49 us (fun v hv => good_sz49 (GD.out v hv))
  rw [HNL.out] at hel
  obtain ⟨bs, hbs⟩ : ∃ bs, bs = encVs us := ⟨_, rfl⟩
  have hbb := encVs_byte us CAN.out
  rw [← hbs] at hel hown2 hbb
  obtain ⟨L, hL⟩ : ∃ L : Nat, L = bs.length := ⟨_, rfl⟩
  rw [← hL] at hel hown2
  have hL2 : L ≤ 472 := by
    have : N * (49 + 10) ≤ 8 * (49 + 10) := Nat.mul_le_mul (by omega) (Nat.le_refl _)
    omega
  have HL := Lib.hid hL
  have HBB := Lib.hid hbb
  obtain ⟨A2, c2, hv2, hn2, hc2, hA2, hs2⟩ := own_sl (k := .u8) hown2
  subst hv2
  have SLW := Lib.hid (SL.out.below hb2)
  have SL2 := Lib.hid ((SL.out.below hb2).more hb2.size)
  have B2 := Lib.hid (B1.out.trans (hb2.mono B1.out.size))
  have O2 := Lib.hid hown2
  have hsz12 := hb2.size
  have hbase1 := B1.out.size
  clear hown2 hs2 hb2 hL hel hbs hbb
  -- the encoding with one byte turned: w3, tb
  have hpre : ∃ (tb : List Int) (w3 : World), tb.length = L ∧ (∀ x ∈ tb, byteI x) ∧ w3.ownsRow w1.heap.size 5 1 (.slice A2 L c2) L (cB tb) ∧ SlV w3 w3.heap.size A1 N us ∧ Below w.heap.size w w3 ∧ w3.heap.size = w2.heap.size ∧
      (0 < L → ∃ J : Nat, J < L ∧ aroundI at_ (L : Int) = J ∧ ∃ g, A2 = some ⟨g, 0, none⟩ ∧ w3 = w2.setCell ⟨g, J, none⟩ (.int .u8 cc) ∧ (∃ u, w2.cell? ⟨g, J, none⟩ = some u) ∧ w2.frozen? ⟨g, J, none⟩ = false) ∧ (L = 0 → w3 = w2) := by
    by_cases h0 : 0 < L
    · obtain ⟨hj0, hj1⟩ := aroundI_bd at_ L (by omega)
      obtain ⟨J, hJ⟩ : ∃ J : Nat, aroundI at_ (L : Int) = J := ⟨(aroundI at_ (L : Int)).toNat, by omega⟩
      have hJL : J < L := by omega
      obtain ⟨g, c', hv, hgb, hgl⟩ := own_slice O2.out h0
      cases hv
      have hst := O2.out.stored J (.int .u8 cc)
      have hlen : (cB bs).length = L := by rw [cB_len, HL.out]
      refine ⟨bs.set J cc, w2.setCell ⟨g, J, none⟩ (.int .u8 cc), by rw [List.length_set, HL.out], byte_set HBB.out CC.out, ?_, ?_, ?_, by simp [World.setCell], fun _ => ⟨J, hJL, hJ, g, rfl, rfl, ⟨(cB bs)[J]'(by omega), ?_⟩, O2.out.frozenAt J⟩, fun h => by omega⟩
      · have e : (cB bs).set J (.int .u8 cc) = cB (bs.set J cc) := by unfold cB; rw [← List.map_set]
        rw [← e]; exact hst.1
      · have hb : Below w1.heap.size w2 (w2.setCell ⟨g, J, none⟩ (.int .u8 cc)) := (Below.refl _ _).setCell (p := ⟨g, J, none⟩) hgb _
        exact (SLW.out.below hb).more (by have := hb.size; omega)
      · exact B2.out.setCell (p := ⟨g, J, none⟩) (by simp; omega) _
      · rw [O2.out.cellAt J (by omega), List.getElem?_eq_getElem (by omega)]
    · exact ⟨bs, w2, HL.out.symm, HBB.out, O2.out, SL2.out, B2.out, rfl, fun h => absurd h h0, fun _ => rfl⟩
  obtain ⟨tb, w3, htl, htb, ho3, hsl3, hb3, hsz3, hpos, hzero⟩ := hpre
  have HTL := Lib.hid htl
  have HTB := Lib.hid htb
  have SL3 := Lib.hid hsl3
  have B3 := Lib.hid hb3
  have hsr : Sl .u8 w3 w3.heap.size A2 L tb := by
    obtain ⟨A', c', hv, _, _, _, hs⟩ := own_sl (k := .u8) ho3
    cases hv
    exact hs
  have SR := Lib.hid hsr
  have HPOS := Lib.hid hpos
  have HZERO := Lib.hid hzero
  clear htl htb ho3 hsl3 hb3 hsr hpos hzero
  obtain ⟨KS, hKS⟩ : ∃ KS, KS = us.map V.k := ⟨_, rfl⟩
  have HKS := Lib.hid hKS
  have HKSL := Lib.hid (show KS.length = N by rw [hKS, List.length_map, HNL.out])
  clear hKS
  by_cases h0 : 0 < L
  · obtain ⟨J, hJL, hJ, g, rfl, hw3, ⟨u, hcell⟩, hfro⟩ := HPOS.out h0
    have HJ := Lib.hid hJ
    have HW3 := Lib.hid hw3
    clear hJ hw3 HPOS HZERO
    go_wp2_with fail
    refine (around_any at_ L _ hat0 hat1 (by omega) (by omega)).mono ?_
    rintro e w' ⟨rfl, rfl⟩
    rw [HJ.out]
    go_wp2_with fail
    rw [← HW3.out]
    refine (r_read (some ⟨g, 0, none⟩) L c2 tb _ SR.out hA2 (by omega) HTB.out).mono ?_
    rintro e w4 ⟨p, rfl, hp, hr4, hb4⟩
    have hps := hr4.lt
    have R4 := Lib.hid hr4
    have SL4 := Lib.hid ((SL3.out.below hb4).more hb4.size)
    have T4 := Lib.hid ((SR.out.below hb4).more hb4.size)
    have B4 := Lib.hid (B3.out.trans (hb4.mono B3.out.size))
    have hbase4 : w.heap.size ≤ w4.heap.size := B4.out.size
    have hpb : w.heap.size ≤ p := by have := B3.out.size; omega
    clear hr4 hb4
    go_wp2_with fail
    go_loopw [14, 15] (fun o i wr => ∃ j : Nat, j ≤ N ∧ i = .int .i64 j ∧ OwnV wr w4.heap.size o j (rdVs (KS.take j) ⟨tb, 0⟩).1 ∧ RdW wr p w4.heap.size (rdVs (KS.take j) ⟨tb, 0⟩).2 ∧ SlV wr w4.heap.size A1 N us ∧ Sl .u8 wr w4.heap.size (some ⟨g, 0, none⟩) L tb ∧ Below w.heap.size w wr ∧ w4.heap.size ≤ wr.heap.size) (fun _ i _ => N - (intOf i).toNat)
    case atStart => exact ⟨0, Nat.zero_le _, rfl, OwnV.nil _ _, R4.out, SL4.out, T4.out, B4.out, Nat.le_refl _⟩
    case round =>
      obtain ⟨j, hj, rfl, ⟨cs, hrow, hdesc, hvl⟩, hr, hsl, ht, hbel, hsz⟩ := hrel
      have HDE := Lib.hid hdesc
      have HVL := Lib.hid hvl
      have RR := Lib.hid hr
      have SS := Lib.hid hsl
      have TT := Lib.hid ht
      have BB := Lib.hid hbel
      obtain ⟨Ao, co, rfl, hnco, hcmo⟩ := own_shape hrow
      clear hdesc hvl hr ht hbel
      by_cases hlt : j < N
      · have hjv : j < us.length := by rw [HNL.out]; exact hlt
        obtain ⟨gg, Ab, cb, Al, cl, rfl, hg, hvok, k0, k1, k2, k3, k4⟩ := hsl.at_ j hlt hjv
        have hvg := GD.out us[j] (List.getElem_mem hjv)
        have hkj : j < KS.length := by rw [HKSL.out]; exact hlt
        have hkk : KS[j] = us[j].k := by simp [HKS.out]
        have htk : rdVs (KS.take (j + 1)) ⟨tb, 0⟩ = ((rdVs (KS.take j) ⟨tb, 0⟩).1 ++ [(rdV us[j].k (rdVs (KS.take j) ⟨tb, 0⟩).2).1], (rdV us[j].k (rdVs (KS.take j) ⟨tb, 0⟩).2).2) := by
          rw [List.take_succ_eq_append_getElem hkj, rdVs_snoc, hkk]
        obtain ⟨v, hv⟩ : ∃ v, v = us[j] := ⟨_, rfl⟩
        rw [← hv] at k0 hvg htk
        have HTK := Lib.hid htk
        have VG := Lib.hid hvg
        have hr1 : j + 1 ≤ maxLen := by unfold maxLen; omega
        have hr2 : (j + 1) * 72 ≤ 140737488355328 := by omega
        have hlen := (rdVs_st (KS.take j) ⟨tb, 0⟩ ⟨HTB.out, by simp, .inl rfl⟩).2
        simp only [HTL.out] at hlen
        have HLEN := Lib.hid hlen
        clear hvok hvg hv hsl htk hlen hkj hkk k1 k2 k3 k4
        go_wp2_with fail
        refine (read_any p w4.heap.size _ v.k _ RR.out (can_k VG.out.1) (by have := HLEN.out; omega)).mono ?_
        rintro e w5 ⟨Ab5, cb5, Al5, cl5, rfl, hvok5, hr5, hg5⟩
        have hrow5 := Rd.own RR.out hrow (by decide) hg5
        have hov5 := OwnV.reader (base := w4.heap.size) (v := .slice Ao j co) (n := j) ⟨cs, hrow, HDE.out, HVL.out⟩ RR.out hg5
        have S5 := Lib.hid (SS.out.reader hsz RR.out hg5)
        have T5 := Lib.hid (Rd.sl RR.out TT.out hsz hg5)
        have B5 := Lib.hid (below_grown1 BB.out hg5 BB.out.size hpb)
        have R5 := Lib.hid hr5
        have V5 := Lib.hid hvok5
        have hd5 : Desc w5 w5.heap.size (rdVs (KS.take j) ⟨tb, 0⟩).1 cs := by
          obtain ⟨_, _, _, kk, _⟩ := RR.out
          exact (HDE.out.grownT hg5 kk (by decide) (by decide)).more hg5.size
        have D5 := Lib.hid hd5
        have hsz5 : w4.heap.size ≤ w5.heap.size := Nat.le_trans hsz hg5.size
        have hal : ∀ o, Below w5.heap.size w5 (w5.alloc o) := fun o => (Below.refl _ _).alloc (Nat.le_refl _) _
        have HAL := Lib.hid hal
        simp only [vAgg]
        clear hvok5 hr5 hg5 hov5 hd5 hal k0
        go_wp2_with (at_builtin; refine wpList_append_own _ rfl _ _ _ rfl w4.heap.size 28 i0 _ 5 72 Try.underlying25 hi hz0 hz1 hz2 rfl (by omega) _ j cs rfl (hrow5.alloc _) ⟨w5.heap.size, 0, none⟩ 1 1 [_, _, _, _, _] rfl rfl (cells_five _ _ _ _ _ _ _ _ rfl) (by simp [Value.oneCell']) hr1 hr2 (by simp; omega) ?_; intro v6 w6 hown6 hg6 hnil6; obtain ⟨f1, f2⟩ := got_step (B := 0) (p := 0) (st := bad 2) hrow5 D5.out HVL.out (HAL.out _) V5.out hown6 hg6 hsz5; clear hown6 hg6 hnil6)
        have F1 := Lib.hid f1
        have R6 := Lib.hid (Rd.belowB R5.out hps f2)
        have S6 := Lib.hid (S5.out.below f2)
        have T6 := Lib.hid (T5.out.below f2)
        have B6 := Lib.hid (B5.out.trans (f2.mono hbase4))
        have hsz6 : w4.heap.size ≤ w6.heap.size := Nat.le_trans hsz5 f2.size
        clear f1 f2
        go_wp2_with fail
        first
          | (go_roundw
             case rel => exact ⟨j + 1, by omega, by go_num, by rw [HTK.out]; exact F1.out, by rw [HTK.out]; exact R6.out, S6.out, T6.out, B6.out, hsz6⟩
             case measure => simp [intOf]; omega)
          | exact ⟨⟨j + 1, by omega, by go_num, by rw [HTK.out]; exact F1.out, by rw [HTK.out]; exact R6.out, S6.out, T6.out, B6.out, hsz6⟩, by simp [intOf]; omega⟩
      · obtain rfl : j = N := by omega
        have htake : KS.take j = KS := List.take_of_length_le (by rw [HKSL.out]; omega)
        rw [htake] at HDE HVL RR
        obtain ⟨gv, hgv⟩ : ∃ gv, gv = (rdVs KS ⟨tb, 0⟩).1 := ⟨_, rfl⟩
        obtain ⟨st, hst⟩ : ∃ st, st = (rdVs KS ⟨tb, 0⟩).2 := ⟨_, rfl⟩
        have hstl := (rdVs_st KS ⟨tb, 0⟩ ⟨HTB.out, by simp, .inl rfl⟩).2
        have hsz2 := rdVs_sz KS (fun k hk => by rw [HKS.out] at hk; obtain ⟨v, hv, rfl⟩ := List.mem_map.1 hk; exact can_k (CAN.out v hv)) ⟨tb, 0⟩ ⟨HTB.out, by simp, .inl rfl⟩ (by simp only; rw [HTL.out]; omega)
        have hone := one_encoding KS tb HTB.out
        rw [← hgv] at HDE HVL hsz2 hone
        rw [← hst] at RR hstl hone
        simp only [HTL.out] at hstl
        have HSTL := Lib.hid hstl
        have HSZ := Lib.hid hsz2
        have HONE := Lib.hid hone
        have hovs : OwnV wr w4.heap.size (.slice Ao j co) j gv := ⟨cs, hrow, HDE.out, HVL.out⟩
        obtain ⟨A', c', hv', _, _, hsg⟩ := hovs.slice
        cases hv'
        have SG := Lib.hid hsg
        clear hgv hst hstl hsz2 hone hovs hsg htake hrow
        go_wp2_with fail
        refine (r_end p _ _ _ RR.out (by have := HSTL.out; omega)).mono ?_
        rintro e w5 ⟨rfl, rfl⟩
        obtain ⟨ev, hev⟩ : ∃ ev, ev = endE st := ⟨_, rfl⟩
        rw [← hev]
        have HEV := Lib.hid hev
        clear hev
        by_cases he0 : ev = 0
        · have heq : encVs gv = tb := HONE.out (by rw [← HEV.out]; exact he0)
          have HEQ := Lib.hid heq
          have hE0 : (ev == 0) = true := by simpa using he0
          clear heq
          subst he0
          go_wp2_with fail
          refine (encode_big Ao j co gv _ SG.out (by omega) hnco HSZ.out).mono ?_
          rintro e w6 ⟨v, rfl, hown6, hb6⟩
          rw [HEQ.out, HTL.out] at hown6
          obtain ⟨A6, c6, rfl, _, _, _, hs6⟩ := own_sl (k := .u8) hown6
          have S6 := Lib.hid hs6
          have T6 := Lib.hid ((TT.out.below (hb6.mono hsz)).more (Nat.le_trans hsz hb6.size))
          have B6 := Lib.hid (BB.out.trans (hb6.mono BB.out.size))
          clear hown6 hs6 hb6
          go_wp2_with fail
          refine (sameBytes A6 (some ⟨g, 0, none⟩) L c6 c2 tb tb _ (by unfold maxLen; omega) S6.out T6.out).mono ?_
          rintro e w7 ⟨rfl, qd, rfl⟩
          rw [decide_eq_true (rfl : tb = tb)]
          have B7 := Lib.hid (below_drewN B6.out qd)
          go_wp2_with fail
          refine (few_any D m d 60 ys _ (by omega) hm hd ((S1.out.below B7.out).more B7.out.size) hD).mono ?_
          rintro e x1 ⟨v, rfl, hown1, hb1⟩
          obtain ⟨F, hF⟩ : ∃ F, F = min m 60 := ⟨_, rfl⟩
          obtain ⟨fz, hfz⟩ : ∃ fz, fz = ys.take 60 := ⟨_, rfl⟩
          have hfb : ∀ x ∈ fz, byteI x := fun x hx => by rw [hfz] at hx; exact HY.out x (List.mem_of_mem_take hx)
          rw [← hF, ← hfz] at hown1
          have hF60 : F ≤ 60 := by omega
          obtain ⟨X1, d1, rfl, hnf, hcf, hX1, hsx1⟩ := own_sl (k := .u8) hown1
          have hfl := hsx1.len
          have HFB := Lib.hid hfb
          have HFL := Lib.hid hfl
          have SX1 := Lib.hid hsx1
          have BX1 := Lib.hid (B7.out.trans (hb1.mono B7.out.size))
          clear hown1 hb1 hF hfz hfb hfl hsx1
          go_wp2_with fail
          refine (r_read X1 F d1 fz _ SX1.out hX1 (by omega) HFB.out).mono ?_
          rintro e x2 ⟨p2, rfl, hp2, hr2, hb2⟩
          have hps2 := hr2.lt
          have RX2 := Lib.hid hr2
          have SX2 := Lib.hid ((SX1.out.below hb2).more hb2.size)
          have BX2 := Lib.hid (BX1.out.trans (hb2.mono BX1.out.size))
          have hbx2 : w.heap.size ≤ x2.heap.size := BX2.out.size
          have hpb2 : w.heap.size ≤ p2 := by have := BX1.out.size; omega
          clear hr2 hb2
          go_wp2_with fail
          go_loopw [14, 17] (fun o i wr => ∃ j : Nat, j ≤ q ∧ j ≤ 10 ∧ i = .int .i64 j ∧ OwnV wr x2.heap.size o j (rdVs (kindsI (ks.take j)) ⟨fz, 0⟩).1 ∧ RdW wr p2 x2.heap.size (rdVs (kindsI (ks.take j)) ⟨fz, 0⟩).2 ∧ Sl .u8 wr x2.heap.size X1 F fz ∧ Below w.heap.size w wr ∧ x2.heap.size ≤ wr.heap.size) (fun _ i _ => 10 - (intOf i).toNat)
          case atStart => exact ⟨0, Nat.zero_le _, by omega, rfl, OwnV.nil _ _, RX2.out, SX2.out, BX2.out, Nat.le_refl _⟩
          case round =>
            obtain ⟨j2, hj2, hj10, rfl, ⟨cs2, hrow2, hdesc2, hvl2⟩, hr2, ht2, hbel2, hsz2⟩ := hrel
            have HD2 := Lib.hid hdesc2
            have HV2 := Lib.hid hvl2
            have RR2 := Lib.hid hr2
            have TT2 := Lib.hid ht2
            have BB2 := Lib.hid hbel2
            obtain ⟨Ao2, co2, rfl, hnco2, hcmo2⟩ := own_shape hrow2
            have hl2 := (rdVs_st (kindsI (ks.take j2)) ⟨fz, 0⟩ ⟨HFB.out, by simp, .inl rfl⟩).2
            simp only [HFL.out] at hl2
            have HL2 := Lib.hid hl2
            obtain ⟨st2, hst2⟩ : ∃ st2, st2 = (rdVs (kindsI (ks.take j2)) ⟨fz, 0⟩).2 := ⟨_, rfl⟩
            rw [← hst2] at RR2 HL2
            have HST2 := Lib.hid hst2
            obtain ⟨ev2, hev2⟩ : ∃ ev2, ev2 = endE st2 := ⟨_, rfl⟩
            have HEV2 := Lib.hid hev2
            have hrend : ∀ W, RdW W p2 x2.heap.size st2 → Calls Try.prog 24 #[.pointer (some ⟨p2, 0, none⟩)] W fun e w' => e = .returned (.int .i64 ev2) ∧ W = w' := fun W hW => by
              rw [hev2]; exact r_end p2 _ st2 W hW (by have := HL2.out; omega)
            have HREND := Lib.hid hrend
            clear hdesc2 hvl2 hr2 ht2 hbel2 hl2 hst2 hev2 hrend
            by_cases hgo : j2 < q ∧ j2 < 10 ∧ ev2 ≠ 0
            · obtain ⟨hlt2, hlt10, hne2⟩ := hgo
              have hNE : (ev2 != 0) = true := by simpa using hne2
              obtain ⟨bq, oq, rfl, hbq, hcq⟩ := S3.out.at_ (by omega)
              have hkv : j2 < ks.length := by rw [HKL.out]; exact hlt2
              have hkc := (BB2.out.cell (p := ⟨bq, oq + j2, none⟩) hbq).trans (hcq j2 hlt2)
              obtain ⟨x, hx⟩ : ∃ x, x = ks[j2] := ⟨_, rfl⟩
              have hx2 : ks[j2]?.getD 0 = x := by rw [List.getElem?_eq_getElem hkv, hx]; rfl
              have hxi : i64 x := by rw [hx]; exact HK.out _ (List.getElem_mem hkv)
              rw [hx2] at hkc
              have hx0 := hxi.1
              have hx1 := hxi.2
              have htk2 : rdVs (kindsI (ks.take (j2 + 1))) ⟨fz, 0⟩ = ((rdVs (kindsI (ks.take j2)) ⟨fz, 0⟩).1 ++ [(rdV (aroundI x 6) st2).1], (rdV (aroundI x 6) st2).2) := by
                rw [kindsI_take ks j2 hkv, rdVs_snoc, ← HST2.out, hx]
              have HTK2 := Lib.hid htk2
              have hr1 : j2 + 1 ≤ maxLen := by unfold maxLen; omega
              have hr2 : (j2 + 1) * 72 ≤ 140737488355328 := by omega
              clear hcq hx hx2 hxi htk2 hne2
              go_wp2_with fail
              refine (HREND.out _ RR2.out).mono ?_
              rintro e y1 ⟨rfl, rfl⟩
              go_wp2_with fail
              refine (around_any x 6 _ hx0 hx1 (by omega) (by omega)).mono ?_
              rintro e y1 ⟨rfl, rfl⟩
              go_wp2_with fail
              refine (read_any p2 x2.heap.size st2 (aroundI x 6) _ RR2.out (aroundI_bd x 6 (by omega)) (by have := HL2.out; omega)).mono ?_
              rintro e y2 ⟨Ab5, cb5, Al5, cl5, rfl, hvok5, hr5, hg5⟩
              have hrow5 := Rd.own RR2.out hrow2 (by decide) hg5
              have T5 := Lib.hid (Rd.sl RR2.out TT2.out hsz2 hg5)
              have B5 := Lib.hid (below_grown1 BB2.out hg5 BB2.out.size hpb2)
              have R5 := Lib.hid hr5
              have V5 := Lib.hid hvok5
              have hd5 : Desc y2 y2.heap.size (rdVs (kindsI (ks.take j2)) ⟨fz, 0⟩).1 cs2 := by
                obtain ⟨_, _, _, kk, _⟩ := RR2.out
                exact (HD2.out.grownT hg5 kk (by decide) (by decide)).more hg5.size
              have D5 := Lib.hid hd5
              have hsz5 : x2.heap.size ≤ y2.heap.size := Nat.le_trans hsz2 hg5.size
              have hal : ∀ o, Below y2.heap.size y2 (y2.alloc o) := fun o => (Below.refl _ _).alloc (Nat.le_refl _) _
              have HAL := Lib.hid hal
              simp only [vAgg]
              clear hvok5 hr5 hg5 hd5 hal hkc
              go_wp2_with (at_builtin; refine wpList_append_own _ rfl _ _ _ rfl x2.heap.size 28 i0 _ 5 72 Try.underlying25 hi hz0 hz1 hz2 rfl (by omega) _ j2 cs2 rfl (hrow5.alloc _) ⟨y2.heap.size, 0, none⟩ 1 1 [_, _, _, _, _] rfl rfl (cells_five _ _ _ _ _ _ _ _ rfl) (by simp [Value.oneCell']) hr1 hr2 (by simp; omega) ?_; intro v6 y3 hown6 hg6 hnil6; obtain ⟨f1, f2⟩ := got_step (B := 0) (p := 0) (st := bad 2) hrow5 D5.out HV2.out (HAL.out _) V5.out hown6 hg6 hsz5; clear hown6 hg6 hnil6)
              have F1 := Lib.hid f1
              have R6 := Lib.hid (Rd.belowB R5.out hps2 f2)
              have T6 := Lib.hid (T5.out.below f2)
              have B6 := Lib.hid (B5.out.trans (f2.mono hbx2))
              have hsz6 : x2.heap.size ≤ y3.heap.size := Nat.le_trans hsz5 f2.size
              clear f1 f2
              go_wp2_with fail
              first
                | (go_roundw
                   case rel => exact ⟨j2 + 1, by omega, by omega, by go_num, by rw [HTK2.out]; exact F1.out, by rw [HTK2.out]; exact R6.out, T6.out, B6.out, hsz6⟩
                   case measure => simp [intOf]; omega)
                | exact ⟨⟨j2 + 1, by omega, by omega, by go_num, by rw [HTK2.out]; exact F1.out, by rw [HTK2.out]; exact R6.out, T6.out, B6.out, hsz6⟩, by simp [intOf]; omega⟩
            · obtain ⟨gv2, hgv2⟩ : ∃ gv2, gv2 = (rdVs (kindsI (ks.take j2)) ⟨fz, 0⟩).1 := ⟨_, rfl⟩
              have hszz := rdVs_sz (kindsI (ks.take j2)) (kindsI_ok _) ⟨fz, 0⟩ ⟨HFB.out, by simp, .inl rfl⟩ (by simp only; rw [HFL.out]; omega)
              have hone2 := one_encoding (kindsI (ks.take j2)) fz HFB.out
              rw [← hgv2] at HD2 HV2 hszz hone2
              rw [← HST2.out, ← HEV2.out] at hone2
              have HSZ2 := Lib.hid hszz
              have HONE2 := Lib.hid hone2
              have hovs2 : OwnV wr x2.heap.size (.slice Ao2 j2 co2) j2 gv2 := ⟨cs2, hrow2, HD2.out, HV2.out⟩
              obtain ⟨A', c', hv', _, _, hsg2⟩ := hovs2.slice
              cases hv'
              have SG2 := Lib.hid hsg2
              clear hgv2 hszz hone2 hovs2 hsg2 hrow2
              have hcases : q ≤ j2 ∨ (j2 < q ∧ 10 ≤ j2) ∨ (j2 < q ∧ j2 < 10 ∧ ev2 = 0) := by omega
              clear hgo
              rcases hcases with hx1 | ⟨hx1, hx2⟩ | ⟨hx1, hx2, hx3⟩
              · go_wp2_with fail
                refine (HREND.out _ RR2.out).mono ?_
                rintro e y1 ⟨rfl, rfl⟩
                by_cases he2 : ev2 = 0
                · have heq2 : encVs gv2 = fz := HONE2.out he2
                  have HEQ2 := Lib.hid heq2
                  have hE2 : (ev2 != 0) = false := by simp [he2]
                  clear heq2
                  go_wp2_with fail
                  refine (encode_big Ao2 j2 co2 gv2 _ SG2.out (by omega) hnco2 HSZ2.out).mono ?_
                  rintro e y2 ⟨v, rfl, hown6, hb6⟩
                  rw [HEQ2.out, HFL.out] at hown6
                  obtain ⟨A6, c6, rfl, _, _, _, hs6⟩ := own_sl (k := .u8) hown6
                  have S6 := Lib.hid hs6
                  have T6 := Lib.hid ((TT2.out.below (hb6.mono hsz2)).more (Nat.le_trans hsz2 hb6.size))
                  have B6 := Lib.hid (BB2.out.trans (hb6.mono BB2.out.size))
                  clear hown6 hs6 hb6
                  go_wp2_with fail
                  refine (sameBytes A6 X1 F c6 d1 fz fz _ (by unfold maxLen; omega) S6.out T6.out).mono ?_
                  rintro e y3 ⟨rfl, qd2, rfl⟩
                  rw [decide_eq_true (rfl : fz = fz)]
                  have B8 := Lib.hid (below_drewN B6.out qd2)
                  go_wp2_with fail
                  refine (lives_any _).mono ?_
                  rintro e y4 ⟨rfl, hb9⟩
                  go_wp2_with fail
                  go_ret
                  exact ⟨rfl, B8.out.trans (hb9.mono B8.out.size)⟩
                · have hE2 : (ev2 != 0) = true := by simpa using he2
                  clear he2
                  go_wp2_with fail
                  refine (lives_any _).mono ?_
                  rintro e y4 ⟨rfl, hb9⟩
                  go_wp2_with fail
                  go_ret
                  exact ⟨rfl, BB2.out.trans (hb9.mono BB2.out.size)⟩
              · go_wp2_with fail
                refine (HREND.out _ RR2.out).mono ?_
                rintro e y1 ⟨rfl, rfl⟩
                by_cases he2 : ev2 = 0
                · have heq2 : encVs gv2 = fz := HONE2.out he2
                  have HEQ2 := Lib.hid heq2
                  have hE2 : (ev2 != 0) = false := by simp [he2]
                  clear heq2
                  go_wp2_with fail
                  refine (encode_big Ao2 j2 co2 gv2 _ SG2.out (by omega) hnco2 HSZ2.out).mono ?_
                  rintro e y2 ⟨v, rfl, hown6, hb6⟩
                  rw [HEQ2.out, HFL.out] at hown6
                  obtain ⟨A6, c6, rfl, _, _, _, hs6⟩ := own_sl (k := .u8) hown6
                  have S6 := Lib.hid hs6
                  have T6 := Lib.hid ((TT2.out.below (hb6.mono hsz2)).more (Nat.le_trans hsz2 hb6.size))
                  have B6 := Lib.hid (BB2.out.trans (hb6.mono BB2.out.size))
                  clear hown6 hs6 hb6
                  go_wp2_with fail
                  refine (sameBytes A6 X1 F c6 d1 fz fz _ (by unfold maxLen; omega) S6.out T6.out).mono ?_
                  rintro e y3 ⟨rfl, qd2, rfl⟩
                  rw [decide_eq_true (rfl : fz = fz)]
                  have B8 := Lib.hid (below_drewN B6.out qd2)
                  go_wp2_with fail
                  refine (lives_any _).mono ?_
                  rintro e y4 ⟨rfl, hb9⟩
                  go_wp2_with fail
                  go_ret
                  exact ⟨rfl, B8.out.trans (hb9.mono B8.out.size)⟩
                · have hE2 : (ev2 != 0) = true := by simpa using he2
                  clear he2
                  go_wp2_with fail
                  refine (lives_any _).mono ?_
                  rintro e y4 ⟨rfl, hb9⟩
                  go_wp2_with fail
                  go_ret
                  exact ⟨rfl, BB2.out.trans (hb9.mono BB2.out.size)⟩
              · have hE3 : (ev2 != 0) = false := by simp [hx3]
                go_wp2_with fail
                refine (HREND.out _ RR2.out).mono ?_
                rintro e y1 ⟨rfl, rfl⟩
                go_wp2_with fail
                refine (HREND.out _ RR2.out).mono ?_
                rintro e y1 ⟨rfl, rfl⟩
                by_cases he2 : ev2 = 0
                · have heq2 : encVs gv2 = fz := HONE2.out he2
                  have HEQ2 := Lib.hid heq2
                  have hE2 : (ev2 != 0) = false := by simp [he2]
                  clear heq2
                  go_wp2_with fail
                  refine (encode_big Ao2 j2 co2 gv2 _ SG2.out (by omega) hnco2 HSZ2.out).mono ?_
                  rintro e y2 ⟨v, rfl, hown6, hb6⟩
                  rw [HEQ2.out, HFL.out] at hown6
                  obtain ⟨A6, c6, rfl, _, _, _, hs6⟩ := own_sl (k := .u8) hown6
                  have S6 := Lib.hid hs6
                  have T6 := Lib.hid ((TT2.out.below (hb6.mono hsz2)).more (Nat.le_trans hsz2 hb6.size))
                  have B6 := Lib.hid (BB2.out.trans (hb6.mono BB2.out.size))
                  clear hown6 hs6 hb6
                  go_wp2_with fail
                  refine (sameBytes A6 X1 F c6 d1 fz fz _ (by unfold maxLen; omega) S6.out T6.out).mono ?_
                  rintro e y3 ⟨rfl, qd2, rfl⟩
                  rw [decide_eq_true (rfl : fz = fz)]
                  have B8 := Lib.hid (below_drewN B6.out qd2)
                  go_wp2_with fail
                  refine (lives_any _).mono ?_
                  rintro e y4 ⟨rfl, hb9⟩
                  go_wp2_with fail
                  go_ret
                  exact ⟨rfl, B8.out.trans (hb9.mono B8.out.size)⟩
                · exact absurd hx3 he2
        · have hE0 : (ev == 0) = false := by simpa using he0
          have B7 := BB
          go_wp2_with fail
          refine (few_any D m d 60 ys _ (by omega) hm hd ((S1.out.below B7.out).more B7.out.size) hD).mono ?_
          rintro e x1 ⟨v, rfl, hown1, hb1⟩
          obtain ⟨F, hF⟩ : ∃ F, F = min m 60 := ⟨_, rfl⟩
          obtain ⟨fz, hfz⟩ : ∃ fz, fz = ys.take 60 := ⟨_, rfl⟩
          have hfb : ∀ x ∈ fz, byteI x := fun x hx => by rw [hfz] at hx; exact HY.out x (List.mem_of_mem_take hx)
          rw [← hF, ← hfz] at hown1
          have hF60 : F ≤ 60 := by omega
          obtain ⟨X1, d1, rfl, hnf, hcf, hX1, hsx1⟩ := own_sl (k := .u8) hown1
          have hfl := hsx1.len
          have HFB := Lib.hid hfb
          have HFL := Lib.hid hfl
          have SX1 := Lib.hid hsx1
          have BX1 := Lib.hid (B7.out.trans (hb1.mono B7.out.size))
          clear hown1 hb1 hF hfz hfb hfl hsx1
          go_wp2_with fail
          refine (r_read X1 F d1 fz _ SX1.out hX1 (by omega) HFB.out).mono ?_
          rintro e x2 ⟨p2, rfl, hp2, hr2, hb2⟩
          have hps2 := hr2.lt
          have RX2 := Lib.hid hr2
          have SX2 := Lib.hid ((SX1.out.below hb2).more hb2.size)
          have BX2 := Lib.hid (BX1.out.trans (hb2.mono BX1.out.size))
          have hbx2 : w.heap.size ≤ x2.heap.size := BX2.out.size
          have hpb2 : w.heap.size ≤ p2 := by have := BX1.out.size; omega
          clear hr2 hb2
          go_wp2_with fail
          go_loopw [14, 17] (fun o i wr => ∃ j : Nat, j ≤ q ∧ j ≤ 10 ∧ i = .int .i64 j ∧ OwnV wr x2.heap.size o j (rdVs (kindsI (ks.take j)) ⟨fz, 0⟩).1 ∧ RdW wr p2 x2.heap.size (rdVs (kindsI (ks.take j)) ⟨fz, 0⟩).2 ∧ Sl .u8 wr x2.heap.size X1 F fz ∧ Below w.heap.size w wr ∧ x2.heap.size ≤ wr.heap.size) (fun _ i _ => 10 - (intOf i).toNat)
          case atStart => exact ⟨0, Nat.zero_le _, by omega, rfl, OwnV.nil _ _, RX2.out, SX2.out, BX2.out, Nat.le_refl _⟩
          case round =>
            obtain ⟨j2, hj2, hj10, rfl, ⟨cs2, hrow2, hdesc2, hvl2⟩, hr2, ht2, hbel2, hsz2⟩ := hrel
            have HD2 := Lib.hid hdesc2
            have HV2 := Lib.hid hvl2
            have RR2 := Lib.hid hr2
            have TT2 := Lib.hid ht2
            have BB2 := Lib.hid hbel2
            obtain ⟨Ao2, co2, rfl, hnco2, hcmo2⟩ := own_shape hrow2
            have hl2 := (rdVs_st (kindsI (ks.take j2)) ⟨fz, 0⟩ ⟨HFB.out, by simp, .inl rfl⟩).2
            simp only [HFL.out] at hl2
            have HL2 := Lib.hid hl2
            obtain ⟨st2, hst2⟩ : ∃ st2, st2 = (rdVs (kindsI (ks.take j2)) ⟨fz, 0⟩).2 := ⟨_, rfl⟩
            rw [← hst2] at RR2 HL2
            have HST2 := Lib.hid hst2
            obtain ⟨ev2, hev2⟩ : ∃ ev2, ev2 = endE st2 := ⟨_, rfl⟩
            have HEV2 := Lib.hid hev2
            have hrend : ∀ W, RdW W p2 x2.heap.size st2 → Calls Try.prog 24 #[.pointer (some ⟨p2, 0, none⟩)] W fun e w' => e = .returned (.int .i64 ev2) ∧ W = w' := fun W hW => by
              rw [hev2]; exact r_end p2 _ st2 W hW (by have := HL2.out; omega)
            have HREND := Lib.hid hrend
            clear hdesc2 hvl2 hr2 ht2 hbel2 hl2 hst2 hev2 hrend
            by_cases hgo : j2 < q ∧ j2 < 10 ∧ ev2 ≠ 0
            · obtain ⟨hlt2, hlt10, hne2⟩ := hgo
              have hNE : (ev2 != 0) = true := by simpa using hne2
              obtain ⟨bq, oq, rfl, hbq, hcq⟩ := S3.out.at_ (by omega)
              have hkv : j2 < ks.length := by rw [HKL.out]; exact hlt2
              have hkc := (BB2.out.cell (p := ⟨bq, oq + j2, none⟩) hbq).trans (hcq j2 hlt2)
              obtain ⟨x, hx⟩ : ∃ x, x = ks[j2] := ⟨_, rfl⟩
              have hx2 : ks[j2]?.getD 0 = x := by rw [List.getElem?_eq_getElem hkv, hx]; rfl
              have hxi : i64 x := by rw [hx]; exact HK.out _ (List.getElem_mem hkv)
              rw [hx2] at hkc
              have hx0 := hxi.1
              have hx1 := hxi.2
              have htk2 : rdVs (kindsI (ks.take (j2 + 1))) ⟨fz, 0⟩ = ((rdVs (kindsI (ks.take j2)) ⟨fz, 0⟩).1 ++ [(rdV (aroundI x 6) st2).1], (rdV (aroundI x 6) st2).2) := by
                rw [kindsI_take ks j2 hkv, rdVs_snoc, ← HST2.out, hx]
              have HTK2 := Lib.hid htk2
              have hr1 : j2 + 1 ≤ maxLen := by unfold maxLen; omega
              have hr2 : (j2 + 1) * 72 ≤ 140737488355328 := by omega
              clear hcq hx hx2 hxi htk2 hne2
              go_wp2_with fail
              refine (HREND.out _ RR2.out).mono ?_
              rintro e y1 ⟨rfl, rfl⟩
              go_wp2_with fail
              refine (around_any x 6 _ hx0 hx1 (by omega) (by omega)).mono ?_
              rintro e y1 ⟨rfl, rfl⟩
              go_wp2_with fail
              refine (read_any p2 x2.heap.size st2 (aroundI x 6) _ RR2.out (aroundI_bd x 6 (by omega)) (by have := HL2.out; omega)).mono ?_
              rintro e y2 ⟨Ab5, cb5, Al5, cl5, rfl, hvok5, hr5, hg5⟩
              have hrow5 := Rd.own RR2.out hrow2 (by decide) hg5
              have T5 := Lib.hid (Rd.sl RR2.out TT2.out hsz2 hg5)
              have B5 := Lib.hid (below_grown1 BB2.out hg5 BB2.out.size hpb2)
              have R5 := Lib.hid hr5
              have V5 := Lib.hid hvok5
              have hd5 : Desc y2 y2.heap.size (rdVs (kindsI (ks.take j2)) ⟨fz, 0⟩).1 cs2 := by
                obtain ⟨_, _, _, kk, _⟩ := RR2.out
                exact (HD2.out.grownT hg5 kk (by decide) (by decide)).more hg5.size
              have D5 := Lib.hid hd5
              have hsz5 : x2.heap.size ≤ y2.heap.size := Nat.le_trans hsz2 hg5.size
              have hal : ∀ o, Below y2.heap.size y2 (y2.alloc o) := fun o => (Below.refl _ _).alloc (Nat.le_refl _) _
              have HAL := Lib.hid hal
              simp only [vAgg]
              clear hvok5 hr5 hg5 hd5 hal hkc
              go_wp2_with (at_builtin; refine wpList_append_own _ rfl _ _ _ rfl x2.heap.size 28 i0 _ 5 72 Try.underlying25 hi hz0 hz1 hz2 rfl (by omega) _ j2 cs2 rfl (hrow5.alloc _) ⟨y2.heap.size, 0, none⟩ 1 1 [_, _, _, _, _] rfl rfl (cells_five _ _ _ _ _ _ _ _ rfl) (by simp [Value.oneCell']) hr1 hr2 (by simp; omega) ?_; intro v6 y3 hown6 hg6 hnil6; obtain ⟨f1, f2⟩ := got_step (B := 0) (p := 0) (st := bad 2) hrow5 D5.out HV2.out (HAL.out _) V5.out hown6 hg6 hsz5; clear hown6 hg6 hnil6)
              have F1 := Lib.hid f1
              have R6 := Lib.hid (Rd.belowB R5.out hps2 f2)
              have T6 := Lib.hid (T5.out.below f2)
              have B6 := Lib.hid (B5.out.trans (f2.mono hbx2))
              have hsz6 : x2.heap.size ≤ y3.heap.size := Nat.le_trans hsz5 f2.size
              clear f1 f2
              go_wp2_with fail
              first
                | (go_roundw
                   case rel => exact ⟨j2 + 1, by omega, by omega, by go_num, by rw [HTK2.out]; exact F1.out, by rw [HTK2.out]; exact R6.out, T6.out, B6.out, hsz6⟩
                   case measure => simp [intOf]; omega)
                | exact ⟨⟨j2 + 1, by omega, by omega, by go_num, by rw [HTK2.out]; exact F1.out, by rw [HTK2.out]; exact R6.out, T6.out, B6.out, hsz6⟩, by simp [intOf]; omega⟩
            · obtain ⟨gv2, hgv2⟩ : ∃ gv2, gv2 = (rdVs (kindsI (ks.take j2)) ⟨fz, 0⟩).1 := ⟨_, rfl⟩
              have hszz := rdVs_sz (kindsI (ks.take j2)) (kindsI_ok _) ⟨fz, 0⟩ ⟨HFB.out, by simp, .inl rfl⟩ (by simp only; rw [HFL.out]; omega)
              have hone2 := one_encoding (kindsI (ks.take j2)) fz HFB.out
              rw [← hgv2] at HD2 HV2 hszz hone2
              rw [← HST2.out, ← HEV2.out] at hone2
              have HSZ2 := Lib.hid hszz
              have HONE2 := Lib.hid hone2
              have hovs2 : OwnV wr x2.heap.size (.slice Ao2 j2 co2) j2 gv2 := ⟨cs2, hrow2, HD2.out, HV2.out⟩
              obtain ⟨A', c', hv', _, _, hsg2⟩ := hovs2.slice
              cases hv'
              have SG2 := Lib.hid hsg2
              clear hgv2 hszz hone2 hovs2 hsg2 hrow2
              have hcases : q ≤ j2 ∨ (j2 < q ∧ 10 ≤ j2) ∨ (j2 < q ∧ j2 < 10 ∧ ev2 = 0) := by omega
              clear hgo
              rcases hcases with hx1 | ⟨hx1, hx2⟩ | ⟨hx1, hx2, hx3⟩
              · go_wp2_with fail
                refine (HREND.out _ RR2.out).mono ?_
                rintro e y1 ⟨rfl, rfl⟩
                by_cases he2 : ev2 = 0
                · have heq2 : encVs gv2 = fz := HONE2.out he2
                  have HEQ2 := Lib.hid heq2
                  have hE2 : (ev2 != 0) = false := by simp [he2]
                  clear heq2
                  go_wp2_with fail
                  refine (encode_big Ao2 j2 co2 gv2 _ SG2.out (by omega) hnco2 HSZ2.out).mono ?_
                  rintro e y2 ⟨v, rfl, hown6, hb6⟩
                  rw [HEQ2.out, HFL.out] at hown6
                  obtain ⟨A6, c6, rfl, _, _, _, hs6⟩ := own_sl (k := .u8) hown6
                  have S6 := Lib.hid hs6
                  have T6 := Lib.hid ((TT2.out.below (hb6.mono hsz2)).more (Nat.le_trans hsz2 hb6.size))
                  have B6 := Lib.hid (BB2.out.trans (hb6.mono BB2.out.size))
                  clear hown6 hs6 hb6
                  go_wp2_with fail
                  refine (sameBytes A6 X1 F c6 d1 fz fz _ (by unfold maxLen; omega) S6.out T6.out).mono ?_
                  rintro e y3 ⟨rfl, qd2, rfl⟩
                  rw [decide_eq_true (rfl : fz = fz)]
                  have B8 := Lib.hid (below_drewN B6.out qd2)
                  go_wp2_with fail
                  refine (lives_any _).mono ?_
                  rintro e y4 ⟨rfl, hb9⟩
                  go_wp2_with fail
                  go_ret
                  exact ⟨rfl, B8.out.trans (hb9.mono B8.out.size)⟩
                · have hE2 : (ev2 != 0) = true := by simpa using he2
                  clear he2
                  go_wp2_with fail
                  refine (lives_any _).mono ?_
                  rintro e y4 ⟨rfl, hb9⟩
                  go_wp2_with fail
                  go_ret
                  exact ⟨rfl, BB2.out.trans (hb9.mono BB2.out.size)⟩
              · go_wp2_with fail
                refine (HREND.out _ RR2.out).mono ?_
                rintro e y1 ⟨rfl, rfl⟩
                by_cases he2 : ev2 = 0
                · have heq2 : encVs gv2 = fz := HONE2.out he2
                  have HEQ2 := Lib.hid heq2
                  have hE2 : (ev2 != 0) = false := by simp [he2]
                  clear heq2
                  go_wp2_with fail
                  refine (encode_big Ao2 j2 co2 gv2 _ SG2.out (by omega) hnco2 HSZ2.out).mono ?_
                  rintro e y2 ⟨v, rfl, hown6, hb6⟩
                  rw [HEQ2.out, HFL.out] at hown6
                  obtain ⟨A6, c6, rfl, _, _, _, hs6⟩ := own_sl (k := .u8) hown6
                  have S6 := Lib.hid hs6
                  have T6 := Lib.hid ((TT2.out.below (hb6.mono hsz2)).more (Nat.le_trans hsz2 hb6.size))
                  have B6 := Lib.hid (BB2.out.trans (hb6.mono BB2.out.size))
                  clear hown6 hs6 hb6
                  go_wp2_with fail
                  refine (sameBytes A6 X1 F c6 d1 fz fz _ (by unfold maxLen; omega) S6.out T6.out).mono ?_
                  rintro e y3 ⟨rfl, qd2, rfl⟩
                  rw [decide_eq_true (rfl : fz = fz)]
                  have B8 := Lib.hid (below_drewN B6.out qd2)
                  go_wp2_with fail
                  refine (lives_any _).mono ?_
                  rintro e y4 ⟨rfl, hb9⟩
                  go_wp2_with fail
                  go_ret
                  exact ⟨rfl, B8.out.trans (hb9.mono B8.out.size)⟩
                · have hE2 : (ev2 != 0) = true := by simpa using he2
                  clear he2
                  go_wp2_with fail
                  refine (lives_any _).mono ?_
                  rintro e y4 ⟨rfl, hb9⟩
                  go_wp2_with fail
                  go_ret
                  exact ⟨rfl, BB2.out.trans (hb9.mono BB2.out.size)⟩
              · have hE3 : (ev2 != 0) = false := by simp [hx3]
                go_wp2_with fail
                refine (HREND.out _ RR2.out).mono ?_
                rintro e y1 ⟨rfl, rfl⟩
                go_wp2_with fail
                refine (HREND.out _ RR2.out).mono ?_
                rintro e y1 ⟨rfl, rfl⟩
                by_cases he2 : ev2 = 0
                · have heq2 : encVs gv2 = fz := HONE2.out he2
                  have HEQ2 := Lib.hid heq2
                  have hE2 : (ev2 != 0) = false := by simp [he2]
                  clear heq2
                  go_wp2_with fail
                  refine (encode_big Ao2 j2 co2 gv2 _ SG2.out (by omega) hnco2 HSZ2.out).mono ?_
                  rintro e y2 ⟨v, rfl, hown6, hb6⟩
                  rw [HEQ2.out, HFL.out] at hown6
                  obtain ⟨A6, c6, rfl, _, _, _, hs6⟩ := own_sl (k := .u8) hown6
                  have S6 := Lib.hid hs6
                  have T6 := Lib.hid ((TT2.out.below (hb6.mono hsz2)).more (Nat.le_trans hsz2 hb6.size))
                  have B6 := Lib.hid (BB2.out.trans (hb6.mono BB2.out.size))
                  clear hown6 hs6 hb6
                  go_wp2_with fail
                  refine (sameBytes A6 X1 F c6 d1 fz fz _ (by unfold maxLen; omega) S6.out T6.out).mono ?_
                  rintro e y3 ⟨rfl, qd2, rfl⟩
                  rw [decide_eq_true (rfl : fz = fz)]
                  have B8 := Lib.hid (below_drewN B6.out qd2)
                  go_wp2_with fail
                  refine (lives_any _).mono ?_
                  rintro e y4 ⟨rfl, hb9⟩
                  go_wp2_with fail
                  go_ret
                  exact ⟨rfl, B8.out.trans (hb9.mono B8.out.size)⟩
                · exact absurd hx3 he2
  · have hL0 : L = 0 := by omega
    obtain rfl := HZERO.out hL0
    clear HPOS HZERO hL0
    go_wp2_with fail
    refine (r_read A2 L c2 tb _ SR.out hA2 (by omega) HTB.out).mono ?_
    rintro e w4 ⟨p, rfl, hp, hr4, hb4⟩
    have hps := hr4.lt
    have R4 := Lib.hid hr4
    have SL4 := Lib.hid ((SL3.out.below hb4).more hb4.size)
    have T4 := Lib.hid ((SR.out.below hb4).more hb4.size)
    have B4 := Lib.hid (B3.out.trans (hb4.mono B3.out.size))
    have hbase4 : w.heap.size ≤ w4.heap.size := B4.out.size
    have hpb : w.heap.size ≤ p := by have := B3.out.size; omega
    clear hr4 hb4
    go_wp2_with fail
    go_loopw [14, 15] (fun o i wr => ∃ j : Nat, j ≤ N ∧ i = .int .i64 j ∧ OwnV wr w4.heap.size o j (rdVs (KS.take j) ⟨tb, 0⟩).1 ∧ RdW wr p w4.heap.size (rdVs (KS.take j) ⟨tb, 0⟩).2 ∧ SlV wr w4.heap.size A1 N us ∧ Sl .u8 wr w4.heap.size A2 L tb ∧ Below w.heap.size w wr ∧ w4.heap.size ≤ wr.heap.size) (fun _ i _ => N - (intOf i).toNat)
    case atStart => exact ⟨0, Nat.zero_le _, rfl, OwnV.nil _ _, R4.out, SL4.out, T4.out, B4.out, Nat.le_refl _⟩
    case round =>
      obtain ⟨j, hj, rfl, ⟨cs, hrow, hdesc, hvl⟩, hr, hsl, ht, hbel, hsz⟩ := hrel
      have HDE := Lib.hid hdesc
      have HVL := Lib.hid hvl
      have RR := Lib.hid hr
      have SS := Lib.hid hsl
      have TT := Lib.hid ht
      have BB := Lib.hid hbel
      obtain ⟨Ao, co, rfl, hnco, hcmo⟩ := own_shape hrow
      clear hdesc hvl hr ht hbel
      by_cases hlt : j < N
      · have hjv : j < us.length := by rw [HNL.out]; exact hlt
        obtain ⟨g, Ab, cb, Al, cl, rfl, hg, hvok, k0, k1, k2, k3, k4⟩ := hsl.at_ j hlt hjv
        have hvg := GD.out us[j] (List.getElem_mem hjv)
        have hkj : j < KS.length := by rw [HKSL.out]; exact hlt
        have hkk : KS[j] = us[j].k := by simp [HKS.out]
        have htk : rdVs (KS.take (j + 1)) ⟨tb, 0⟩ = ((rdVs (KS.take j) ⟨tb, 0⟩).1 ++ [(rdV us[j].k (rdVs (KS.take j) ⟨tb, 0⟩).2).1], (rdV us[j].k (rdVs (KS.take j) ⟨tb, 0⟩).2).2) := by
          rw [List.take_succ_eq_append_getElem hkj, rdVs_snoc, hkk]
        obtain ⟨v, hv⟩ : ∃ v, v = us[j] := ⟨_, rfl⟩
        rw [← hv] at k0 hvg htk
        have HTK := Lib.hid htk
        have VG := Lib.hid hvg
        have hr1 : j + 1 ≤ maxLen := by unfold maxLen; omega
        have hr2 : (j + 1) * 72 ≤ 140737488355328 := by omega
        have hlen := (rdVs_st (KS.take j) ⟨tb, 0⟩ ⟨HTB.out, by simp, .inl rfl⟩).2
        simp only [HTL.out] at hlen
        have HLEN := Lib.hid hlen
        clear hvok hvg hv hsl htk hlen hkj hkk k1 k2 k3 k4
        go_wp2_with fail
        refine (read_any p w4.heap.size _ v.k _ RR.out (can_k VG.out.1) (by have := HLEN.out; omega)).mono ?_
        rintro e w5 ⟨Ab5, cb5, Al5, cl5, rfl, hvok5, hr5, hg5⟩
        have hrow5 := Rd.own RR.out hrow (by decide) hg5
        have hov5 := OwnV.reader (base := w4.heap.size) (v := .slice Ao j co) (n := j) ⟨cs, hrow, HDE.out, HVL.out⟩ RR.out hg5
        have S5 := Lib.hid (SS.out.reader hsz RR.out hg5)
        have T5 := Lib.hid (Rd.sl RR.out TT.out hsz hg5)
        have B5 := Lib.hid (below_grown1 BB.out hg5 BB.out.size hpb)
        have R5 := Lib.hid hr5
        have V5 := Lib.hid hvok5
        have hd5 : Desc w5 w5.heap.size (rdVs (KS.take j) ⟨tb, 0⟩).1 cs := by
          obtain ⟨_, _, _, kk, _⟩ := RR.out
          exact (HDE.out.grownT hg5 kk (by decide) (by decide)).more hg5.size
        have D5 := Lib.hid hd5
        have hsz5 : w4.heap.size ≤ w5.heap.size := Nat.le_trans hsz hg5.size
        have hal : ∀ o, Below w5.heap.size w5 (w5.alloc o) := fun o => (Below.refl _ _).alloc (Nat.le_refl _) _
        have HAL := Lib.hid hal
        simp only [vAgg]
        clear hvok5 hr5 hg5 hov5 hd5 hal k0
        go_wp2_with (at_builtin; refine wpList_append_own _ rfl _ _ _ rfl w4.heap.size 28 i0 _ 5 72 Try.underlying25 hi hz0 hz1 hz2 rfl (by omega) _ j cs rfl (hrow5.alloc _) ⟨w5.heap.size, 0, none⟩ 1 1 [_, _, _, _, _] rfl rfl (cells_five _ _ _ _ _ _ _ _ rfl) (by simp [Value.oneCell']) hr1 hr2 (by simp; omega) ?_; intro v6 w6 hown6 hg6 hnil6; obtain ⟨f1, f2⟩ := got_step (B := 0) (p := 0) (st := bad 2) hrow5 D5.out HVL.out (HAL.out _) V5.out hown6 hg6 hsz5; clear hown6 hg6 hnil6)
        have F1 := Lib.hid f1
        have R6 := Lib.hid (Rd.belowB R5.out hps f2)
        have S6 := Lib.hid (S5.out.below f2)
        have T6 := Lib.hid (T5.out.below f2)
        have B6 := Lib.hid (B5.out.trans (f2.mono hbase4))
        have hsz6 : w4.heap.size ≤ w6.heap.size := Nat.le_trans hsz5 f2.size
        clear f1 f2
        go_wp2_with fail
        first
          | (go_roundw
             case rel => exact ⟨j + 1, by omega, by go_num, by rw [HTK.out]; exact F1.out, by rw [HTK.out]; exact R6.out, S6.out, T6.out, B6.out, hsz6⟩
             case measure => simp [intOf]; omega)
          | exact ⟨⟨j + 1, by omega, by go_num, by rw [HTK.out]; exact F1.out, by rw [HTK.out]; exact R6.out, S6.out, T6.out, B6.out, hsz6⟩, by simp [intOf]; omega⟩
      · obtain rfl : j = N := by omega
        have htake : KS.take j = KS := List.take_of_length_le (by rw [HKSL.out]; omega)
        rw [htake] at HDE HVL RR
        obtain ⟨gv, hgv⟩ : ∃ gv, gv = (rdVs KS ⟨tb, 0⟩).1 := ⟨_, rfl⟩
        obtain ⟨st, hst⟩ : ∃ st, st = (rdVs KS ⟨tb, 0⟩).2 := ⟨_, rfl⟩
        have hstl := (rdVs_st KS ⟨tb, 0⟩ ⟨HTB.out, by simp, .inl rfl⟩).2
        have hsz2 := rdVs_sz KS (fun k hk => by rw [HKS.out] at hk; obtain ⟨v, hv, rfl⟩ := List.mem_map.1 hk; exact can_k (CAN.out v hv)) ⟨tb, 0⟩ ⟨HTB.out, by simp, .inl rfl⟩ (by simp only; rw [HTL.out]; omega)
        have hone := one_encoding KS tb HTB.out
        rw [← hgv] at HDE HVL hsz2 hone
        rw [← hst] at RR hstl hone
        simp only [HTL.out] at hstl
        have HSTL := Lib.hid hstl
        have HSZ := Lib.hid hsz2
        have HONE := Lib.hid hone
        have hovs : OwnV wr w4.heap.size (.slice Ao j co) j gv := ⟨cs, hrow, HDE.out, HVL.out⟩
        obtain ⟨A', c', hv', _, _, hsg⟩ := hovs.slice
        cases hv'
        have SG := Lib.hid hsg
        clear hgv hst hstl hsz2 hone hovs hsg htake hrow
        go_wp2_with fail
        refine (r_end p _ _ _ RR.out (by have := HSTL.out; omega)).mono ?_
        rintro e w5 ⟨rfl, rfl⟩
        obtain ⟨ev, hev⟩ : ∃ ev, ev = endE st := ⟨_, rfl⟩
        rw [← hev]
        have HEV := Lib.hid hev
        clear hev
        by_cases he0 : ev = 0
        · have heq : encVs gv = tb := HONE.out (by rw [← HEV.out]; exact he0)
          have HEQ := Lib.hid heq
          have hE0 : (ev == 0) = true := by simpa using he0
          clear heq
          subst he0
          go_wp2_with fail
          refine (encode_big Ao j co gv _ SG.out (by omega) hnco HSZ.out).mono ?_
          rintro e w6 ⟨v, rfl, hown6, hb6⟩
          rw [HEQ.out, HTL.out] at hown6
          obtain ⟨A6, c6, rfl, _, _, _, hs6⟩ := own_sl (k := .u8) hown6
          have S6 := Lib.hid hs6
          have T6 := Lib.hid ((TT.out.below (hb6.mono hsz)).more (Nat.le_trans hsz hb6.size))
          have B6 := Lib.hid (BB.out.trans (hb6.mono BB.out.size))
          clear hown6 hs6 hb6
          go_wp2_with fail
          refine (sameBytes A6 A2 L c6 c2 tb tb _ (by unfold maxLen; omega) S6.out T6.out).mono ?_
          rintro e w7 ⟨rfl, qd, rfl⟩
          rw [decide_eq_true (rfl : tb = tb)]
          have B7 := Lib.hid (below_drewN B6.out qd)
          go_wp2_with fail
          refine (few_any D m d 60 ys _ (by omega) hm hd ((S1.out.below B7.out).more B7.out.size) hD).mono ?_
          rintro e x1 ⟨v, rfl, hown1, hb1⟩
          obtain ⟨F, hF⟩ : ∃ F, F = min m 60 := ⟨_, rfl⟩
          obtain ⟨fz, hfz⟩ : ∃ fz, fz = ys.take 60 := ⟨_, rfl⟩
          have hfb : ∀ x ∈ fz, byteI x := fun x hx => by rw [hfz] at hx; exact HY.out x (List.mem_of_mem_take hx)
          rw [← hF, ← hfz] at hown1
          have hF60 : F ≤ 60 := by omega
          obtain ⟨X1, d1, rfl, hnf, hcf, hX1, hsx1⟩ := own_sl (k := .u8) hown1
          have hfl := hsx1.len
          have HFB := Lib.hid hfb
          have HFL := Lib.hid hfl
          have SX1 := Lib.hid hsx1
          have BX1 := Lib.hid (B7.out.trans (hb1.mono B7.out.size))
          clear hown1 hb1 hF hfz hfb hfl hsx1
          go_wp2_with fail
          refine (r_read X1 F d1 fz _ SX1.out hX1 (by omega) HFB.out).mono ?_
          rintro e x2 ⟨p2, rfl, hp2, hr2, hb2⟩
          have hps2 := hr2.lt
          have RX2 := Lib.hid hr2
          have SX2 := Lib.hid ((SX1.out.below hb2).more hb2.size)
          have BX2 := Lib.hid (BX1.out.trans (hb2.mono BX1.out.size))
          have hbx2 : w.heap.size ≤ x2.heap.size := BX2.out.size
          have hpb2 : w.heap.size ≤ p2 := by have := BX1.out.size; omega
          clear hr2 hb2
          go_wp2_with fail
          go_loopw [14, 17] (fun o i wr => ∃ j : Nat, j ≤ q ∧ j ≤ 10 ∧ i = .int .i64 j ∧ OwnV wr x2.heap.size o j (rdVs (kindsI (ks.take j)) ⟨fz, 0⟩).1 ∧ RdW wr p2 x2.heap.size (rdVs (kindsI (ks.take j)) ⟨fz, 0⟩).2 ∧ Sl .u8 wr x2.heap.size X1 F fz ∧ Below w.heap.size w wr ∧ x2.heap.size ≤ wr.heap.size) (fun _ i _ => 10 - (intOf i).toNat)
          case atStart => exact ⟨0, Nat.zero_le _, by omega, rfl, OwnV.nil _ _, RX2.out, SX2.out, BX2.out, Nat.le_refl _⟩
          case round =>
            obtain ⟨j2, hj2, hj10, rfl, ⟨cs2, hrow2, hdesc2, hvl2⟩, hr2, ht2, hbel2, hsz2⟩ := hrel
            have HD2 := Lib.hid hdesc2
            have HV2 := Lib.hid hvl2
            have RR2 := Lib.hid hr2
            have TT2 := Lib.hid ht2
            have BB2 := Lib.hid hbel2
            obtain ⟨Ao2, co2, rfl, hnco2, hcmo2⟩ := own_shape hrow2
            have hl2 := (rdVs_st (kindsI (ks.take j2)) ⟨fz, 0⟩ ⟨HFB.out, by simp, .inl rfl⟩).2
            simp only [HFL.out] at hl2
            have HL2 := Lib.hid hl2
            obtain ⟨st2, hst2⟩ : ∃ st2, st2 = (rdVs (kindsI (ks.take j2)) ⟨fz, 0⟩).2 := ⟨_, rfl⟩
            rw [← hst2] at RR2 HL2
            have HST2 := Lib.hid hst2
            obtain ⟨ev2, hev2⟩ : ∃ ev2, ev2 = endE st2 := ⟨_, rfl⟩
            have HEV2 := Lib.hid hev2
            have hrend : ∀ W, RdW W p2 x2.heap.size st2 → Calls Try.prog 24 #[.pointer (some ⟨p2, 0, none⟩)] W fun e w' => e = .returned (.int .i64 ev2) ∧ W = w' := fun W hW => by
              rw [hev2]; exact r_end p2 _ st2 W hW (by have := HL2.out; omega)
            have HREND := Lib.hid hrend
            clear hdesc2 hvl2 hr2 ht2 hbel2 hl2 hst2 hev2 hrend
            by_cases hgo : j2 < q ∧ j2 < 10 ∧ ev2 ≠ 0
            · obtain ⟨hlt2, hlt10, hne2⟩ := hgo
              have hNE : (ev2 != 0) = true := by simpa using hne2
              obtain ⟨bq, oq, rfl, hbq, hcq⟩ := S3.out.at_ (by omega)
              have hkv : j2 < ks.length := by rw [HKL.out]; exact hlt2
              have hkc := (BB2.out.cell (p := ⟨bq, oq + j2, none⟩) hbq).trans (hcq j2 hlt2)
              obtain ⟨x, hx⟩ : ∃ x, x = ks[j2] := ⟨_, rfl⟩
              have hx2 : ks[j2]?.getD 0 = x := by rw [List.getElem?_eq_getElem hkv, hx]; rfl
              have hxi : i64 x := by rw [hx]; exact HK.out _ (List.getElem_mem hkv)
              rw [hx2] at hkc
              have hx0 := hxi.1
              have hx1 := hxi.2
              have htk2 : rdVs (kindsI (ks.take (j2 + 1))) ⟨fz, 0⟩ = ((rdVs (kindsI (ks.take j2)) ⟨fz, 0⟩).1 ++ [(rdV (aroundI x 6) st2).1], (rdV (aroundI x 6) st2).2) := by
                rw [kindsI_take ks j2 hkv, rdVs_snoc, ← HST2.out, hx]
              have HTK2 := Lib.hid htk2
              have hr1 : j2 + 1 ≤ maxLen := by unfold maxLen; omega
              have hr2 : (j2 + 1) * 72 ≤ 140737488355328 := by omega
              clear hcq hx hx2 hxi htk2 hne2
              go_wp2_with fail
              refine (HREND.out _ RR2.out).mono ?_
              rintro e y1 ⟨rfl, rfl⟩
              go_wp2_with fail
              refine (around_any x 6 _ hx0 hx1 (by omega) (by omega)).mono ?_
              rintro e y1 ⟨rfl, rfl⟩
              go_wp2_with fail
              refine (read_any p2 x2.heap.size st2 (aroundI x 6) _ RR2.out (aroundI_bd x 6 (by omega)) (by have := HL2.out; omega)).mono ?_
              rintro e y2 ⟨Ab5, cb5, Al5, cl5, rfl, hvok5, hr5, hg5⟩
              have hrow5 := Rd.own RR2.out hrow2 (by decide) hg5
              have T5 := Lib.hid (Rd.sl RR2.out TT2.out hsz2 hg5)
              have B5 := Lib.hid (below_grown1 BB2.out hg5 BB2.out.size hpb2)
              have R5 := Lib.hid hr5
              have V5 := Lib.hid hvok5
              have hd5 : Desc y2 y2.heap.size (rdVs (kindsI (ks.take j2)) ⟨fz, 0⟩).1 cs2 := by
                obtain ⟨_, _, _, kk, _⟩ := RR2.out
                exact (HD2.out.grownT hg5 kk (by decide) (by decide)).more hg5.size
              have D5 := Lib.hid hd5
              have hsz5 : x2.heap.size ≤ y2.heap.size := Nat.le_trans hsz2 hg5.size
              have hal : ∀ o, Below y2.heap.size y2 (y2.alloc o) := fun o => (Below.refl _ _).alloc (Nat.le_refl _) _
              have HAL := Lib.hid hal
              simp only [vAgg]
              clear hvok5 hr5 hg5 hd5 hal hkc
              go_wp2_with (at_builtin; refine wpList_append_own _ rfl _ _ _ rfl x2.heap.size 28 i0 _ 5 72 Try.underlying25 hi hz0 hz1 hz2 rfl (by omega) _ j2 cs2 rfl (hrow5.alloc _) ⟨y2.heap.size, 0, none⟩ 1 1 [_, _, _, _, _] rfl rfl (cells_five _ _ _ _ _ _ _ _ rfl) (by simp [Value.oneCell']) hr1 hr2 (by simp; omega) ?_; intro v6 y3 hown6 hg6 hnil6; obtain ⟨f1, f2⟩ := got_step (B := 0) (p := 0) (st := bad 2) hrow5 D5.out HV2.out (HAL.out _) V5.out hown6 hg6 hsz5; clear hown6 hg6 hnil6)
              have F1 := Lib.hid f1
              have R6 := Lib.hid (Rd.belowB R5.out hps2 f2)
              have T6 := Lib.hid (T5.out.below f2)
              have B6 := Lib.hid (B5.out.trans (f2.mono hbx2))
              have hsz6 : x2.heap.size ≤ y3.heap.size := Nat.le_trans hsz5 f2.size
              clear f1 f2
              go_wp2_with fail
              first
                | (go_roundw
                   case rel => exact ⟨j2 + 1, by omega, by omega, by go_num, by rw [HTK2.out]; exact F1.out, by rw [HTK2.out]; exact R6.out, T6.out, B6.out, hsz6⟩
                   case measure => simp [intOf]; omega)
                | exact ⟨⟨j2 + 1, by omega, by omega, by go_num, by rw [HTK2.out]; exact F1.out, by rw [HTK2.out]; exact R6.out, T6.out, B6.out, hsz6⟩, by simp [intOf]; omega⟩
            · obtain ⟨gv2, hgv2⟩ : ∃ gv2, gv2 = (rdVs (kindsI (ks.take j2)) ⟨fz, 0⟩).1 := ⟨_, rfl⟩
              have hszz := rdVs_sz (kindsI (ks.take j2)) (kindsI_ok _) ⟨fz, 0⟩ ⟨HFB.out, by simp, .inl rfl⟩ (by simp only; rw [HFL.out]; omega)
              have hone2 := one_encoding (kindsI (ks.take j2)) fz HFB.out
              rw [← hgv2] at HD2 HV2 hszz hone2
              rw [← HST2.out, ← HEV2.out] at hone2
              have HSZ2 := Lib.hid hszz
              have HONE2 := Lib.hid hone2
              have hovs2 : OwnV wr x2.heap.size (.slice Ao2 j2 co2) j2 gv2 := ⟨cs2, hrow2, HD2.out, HV2.out⟩
              obtain ⟨A', c', hv', _, _, hsg2⟩ := hovs2.slice
              cases hv'
              have SG2 := Lib.hid hsg2
              clear hgv2 hszz hone2 hovs2 hsg2 hrow2
              have hcases : q ≤ j2 ∨ (j2 < q ∧ 10 ≤ j2) ∨ (j2 < q ∧ j2 < 10 ∧ ev2 = 0) := by omega
              clear hgo
              rcases hcases with hx1 | ⟨hx1, hx2⟩ | ⟨hx1, hx2, hx3⟩
              · go_wp2_with fail
                refine (HREND.out _ RR2.out).mono ?_
                rintro e y1 ⟨rfl, rfl⟩
                by_cases he2 : ev2 = 0
                · have heq2 : encVs gv2 = fz := HONE2.out he2
                  have HEQ2 := Lib.hid heq2
                  have hE2 : (ev2 != 0) = false := by simp [he2]
                  clear heq2
                  go_wp2_with fail
                  refine (encode_big Ao2 j2 co2 gv2 _ SG2.out (by omega) hnco2 HSZ2.out).mono ?_
                  rintro e y2 ⟨v, rfl, hown6, hb6⟩
                  rw [HEQ2.out, HFL.out] at hown6
                  obtain ⟨A6, c6, rfl, _, _, _, hs6⟩ := own_sl (k := .u8) hown6
                  have S6 := Lib.hid hs6
                  have T6 := Lib.hid ((TT2.out.below (hb6.mono hsz2)).more (Nat.le_trans hsz2 hb6.size))
                  have B6 := Lib.hid (BB2.out.trans (hb6.mono BB2.out.size))
                  clear hown6 hs6 hb6
                  go_wp2_with fail
                  refine (sameBytes A6 X1 F c6 d1 fz fz _ (by unfold maxLen; omega) S6.out T6.out).mono ?_
                  rintro e y3 ⟨rfl, qd2, rfl⟩
                  rw [decide_eq_true (rfl : fz = fz)]
                  have B8 := Lib.hid (below_drewN B6.out qd2)
                  go_wp2_with fail
                  refine (lives_any _).mono ?_
                  rintro e y4 ⟨rfl, hb9⟩
                  go_wp2_with fail
                  go_ret
                  exact ⟨rfl, B8.out.trans (hb9.mono B8.out.size)⟩
                · have hE2 : (ev2 != 0) = true := by simpa using he2
                  clear he2
                  go_wp2_with fail
                  refine (lives_any _).mono ?_
                  rintro e y4 ⟨rfl, hb9⟩
                  go_wp2_with fail
                  go_ret
                  exact ⟨rfl, BB2.out.trans (hb9.mono BB2.out.size)⟩
              · go_wp2_with fail
                refine (HREND.out _ RR2.out).mono ?_
                rintro e y1 ⟨rfl, rfl⟩
                by_cases he2 : ev2 = 0
                · have heq2 : encVs gv2 = fz := HONE2.out he2
                  have HEQ2 := Lib.hid heq2
                  have hE2 : (ev2 != 0) = false := by simp [he2]
                  clear heq2
                  go_wp2_with fail
                  refine (encode_big Ao2 j2 co2 gv2 _ SG2.out (by omega) hnco2 HSZ2.out).mono ?_
                  rintro e y2 ⟨v, rfl, hown6, hb6⟩
                  rw [HEQ2.out, HFL.out] at hown6
                  obtain ⟨A6, c6, rfl, _, _, _, hs6⟩ := own_sl (k := .u8) hown6
                  have S6 := Lib.hid hs6
                  have T6 := Lib.hid ((TT2.out.below (hb6.mono hsz2)).more (Nat.le_trans hsz2 hb6.size))
                  have B6 := Lib.hid (BB2.out.trans (hb6.mono BB2.out.size))
                  clear hown6 hs6 hb6
                  go_wp2_with fail
                  refine (sameBytes A6 X1 F c6 d1 fz fz _ (by unfold maxLen; omega) S6.out T6.out).mono ?_
                  rintro e y3 ⟨rfl, qd2, rfl⟩
                  rw [decide_eq_true (rfl : fz = fz)]
                  have B8 := Lib.hid (below_drewN B6.out qd2)
                  go_wp2_with fail
                  refine (lives_any _).mono ?_
                  rintro e y4 ⟨rfl, hb9⟩
                  go_wp2_with fail
                  go_ret
                  exact ⟨rfl, B8.out.trans (hb9.mono B8.out.size)⟩
                · have hE2 : (ev2 != 0) = true := by simpa using he2
                  clear he2
                  go_wp2_with fail
                  refine (lives_any _).mono ?_
                  rintro e y4 ⟨rfl, hb9⟩
                  go_wp2_with fail
                  go_ret
                  exact ⟨rfl, BB2.out.trans (hb9.mono BB2.out.size)⟩
              · have hE3 : (ev2 != 0) = false := by simp [hx3]
                go_wp2_with fail
                refine (HREND.out _ RR2.out).mono ?_
                rintro e y1 ⟨rfl, rfl⟩
                go_wp2_with fail
                refine (HREND.out _ RR2.out).mono ?_
                rintro e y1 ⟨rfl, rfl⟩
                by_cases he2 : ev2 = 0
                · have heq2 : encVs gv2 = fz := HONE2.out he2
                  have HEQ2 := Lib.hid heq2
                  have hE2 : (ev2 != 0) = false := by simp [he2]
                  clear heq2
                  go_wp2_with fail
                  refine (encode_big Ao2 j2 co2 gv2 _ SG2.out (by omega) hnco2 HSZ2.out).mono ?_
                  rintro e y2 ⟨v, rfl, hown6, hb6⟩
                  rw [HEQ2.out, HFL.out] at hown6
                  obtain ⟨A6, c6, rfl, _, _, _, hs6⟩ := own_sl (k := .u8) hown6
                  have S6 := Lib.hid hs6
                  have T6 := Lib.hid ((TT2.out.below (hb6.mono hsz2)).more (Nat.le_trans hsz2 hb6.size))
                  have B6 := Lib.hid (BB2.out.trans (hb6.mono BB2.out.size))
                  clear hown6 hs6 hb6
                  go_wp2_with fail
                  refine (sameBytes A6 X1 F c6 d1 fz fz _ (by unfold maxLen; omega) S6.out T6.out).mono ?_
                  rintro e y3 ⟨rfl, qd2, rfl⟩
                  rw [decide_eq_true (rfl : fz = fz)]
                  have B8 := Lib.hid (below_drewN B6.out qd2)
                  go_wp2_with fail
                  refine (lives_any _).mono ?_
                  rintro e y4 ⟨rfl, hb9⟩
                  go_wp2_with fail
                  go_ret
                  exact ⟨rfl, B8.out.trans (hb9.mono B8.out.size)⟩
                · exact absurd hx3 he2
        · have hE0 : (ev == 0) = false := by simpa using he0
          have B7 := BB
          go_wp2_with fail
          refine (few_any D m d 60 ys _ (by omega) hm hd ((S1.out.below B7.out).more B7.out.size) hD).mono ?_
          rintro e x1 ⟨v, rfl, hown1, hb1⟩
          obtain ⟨F, hF⟩ : ∃ F, F = min m 60 := ⟨_, rfl⟩
          obtain ⟨fz, hfz⟩ : ∃ fz, fz = ys.take 60 := ⟨_, rfl⟩
          have hfb : ∀ x ∈ fz, byteI x := fun x hx => by rw [hfz] at hx; exact HY.out x (List.mem_of_mem_take hx)
          rw [← hF, ← hfz] at hown1
          have hF60 : F ≤ 60 := by omega
          obtain ⟨X1, d1, rfl, hnf, hcf, hX1, hsx1⟩ := own_sl (k := .u8) hown1
          have hfl := hsx1.len
          have HFB := Lib.hid hfb
          have HFL := Lib.hid hfl
          have SX1 := Lib.hid hsx1
          have BX1 := Lib.hid (B7.out.trans (hb1.mono B7.out.size))
          clear hown1 hb1 hF hfz hfb hfl hsx1
          go_wp2_with fail
          refine (r_read X1 F d1 fz _ SX1.out hX1 (by omega) HFB.out).mono ?_
          rintro e x2 ⟨p2, rfl, hp2, hr2, hb2⟩
          have hps2 := hr2.lt
          have RX2 := Lib.hid hr2
          have SX2 := Lib.hid ((SX1.out.below hb2).more hb2.size)
          have BX2 := Lib.hid (BX1.out.trans (hb2.mono BX1.out.size))
          have hbx2 : w.heap.size ≤ x2.heap.size := BX2.out.size
          have hpb2 : w.heap.size ≤ p2 := by have := BX1.out.size; omega
          clear hr2 hb2
          go_wp2_with fail
          go_loopw [14, 17] (fun o i wr => ∃ j : Nat, j ≤ q ∧ j ≤ 10 ∧ i = .int .i64 j ∧ OwnV wr x2.heap.size o j (rdVs (kindsI (ks.take j)) ⟨fz, 0⟩).1 ∧ RdW wr p2 x2.heap.size (rdVs (kindsI (ks.take j)) ⟨fz, 0⟩).2 ∧ Sl .u8 wr x2.heap.size X1 F fz ∧ Below w.heap.size w wr ∧ x2.heap.size ≤ wr.heap.size) (fun _ i _ => 10 - (intOf i).toNat)
          case atStart => exact ⟨0, Nat.zero_le _, by omega, rfl, OwnV.nil _ _, RX2.out, SX2.out, BX2.out, Nat.le_refl _⟩
          case round =>
            obtain ⟨j2, hj2, hj10, rfl, ⟨cs2, hrow2, hdesc2, hvl2⟩, hr2, ht2, hbel2, hsz2⟩ := hrel
            have HD2 := Lib.hid hdesc2
            have HV2 := Lib.hid hvl2
            have RR2 := Lib.hid hr2
            have TT2 := Lib.hid ht2
            have BB2 := Lib.hid hbel2
            obtain ⟨Ao2, co2, rfl, hnco2, hcmo2⟩ := own_shape hrow2
            have hl2 := (rdVs_st (kindsI (ks.take j2)) ⟨fz, 0⟩ ⟨HFB.out, by simp, .inl rfl⟩).2
            simp only [HFL.out] at hl2
            have HL2 := Lib.hid hl2
            obtain ⟨st2, hst2⟩ : ∃ st2, st2 = (rdVs (kindsI (ks.take j2)) ⟨fz, 0⟩).2 := ⟨_, rfl⟩
            rw [← hst2] at RR2 HL2
            have HST2 := Lib.hid hst2
            obtain ⟨ev2, hev2⟩ : ∃ ev2, ev2 = endE st2 := ⟨_, rfl⟩
            have HEV2 := Lib.hid hev2
            have hrend : ∀ W, RdW W p2 x2.heap.size st2 → Calls Try.prog 24 #[.pointer (some ⟨p2, 0, none⟩)] W fun e w' => e = .returned (.int .i64 ev2) ∧ W = w' := fun W hW => by
              rw [hev2]; exact r_end p2 _ st2 W hW (by have := HL2.out; omega)
            have HREND := Lib.hid hrend
            clear hdesc2 hvl2 hr2 ht2 hbel2 hl2 hst2 hev2 hrend
            by_cases hgo : j2 < q ∧ j2 < 10 ∧ ev2 ≠ 0
            · obtain ⟨hlt2, hlt10, hne2⟩ := hgo
              have hNE : (ev2 != 0) = true := by simpa using hne2
              obtain ⟨bq, oq, rfl, hbq, hcq⟩ := S3.out.at_ (by omega)
              have hkv : j2 < ks.length := by rw [HKL.out]; exact hlt2
              have hkc := (BB2.out.cell (p := ⟨bq, oq + j2, none⟩) hbq).trans (hcq j2 hlt2)
              obtain ⟨x, hx⟩ : ∃ x, x = ks[j2] := ⟨_, rfl⟩
              have hx2 : ks[j2]?.getD 0 = x := by rw [List.getElem?_eq_getElem hkv, hx]; rfl
              have hxi : i64 x := by rw [hx]; exact HK.out _ (List.getElem_mem hkv)
              rw [hx2] at hkc
              have hx0 := hxi.1
              have hx1 := hxi.2
              have htk2 : rdVs (kindsI (ks.take (j2 + 1))) ⟨fz, 0⟩ = ((rdVs (kindsI (ks.take j2)) ⟨fz, 0⟩).1 ++ [(rdV (aroundI x 6) st2).1], (rdV (aroundI x 6) st2).2) := by
                rw [kindsI_take ks j2 hkv, rdVs_snoc, ← HST2.out, hx]
              have HTK2 := Lib.hid htk2
              have hr1 : j2 + 1 ≤ maxLen := by unfold maxLen; omega
              have hr2 : (j2 + 1) * 72 ≤ 140737488355328 := by omega
              clear hcq hx hx2 hxi htk2 hne2
              go_wp2_with fail
              refine (HREND.out _ RR2.out).mono ?_
              rintro e y1 ⟨rfl, rfl⟩
              go_wp2_with fail
              refine (around_any x 6 _ hx0 hx1 (by omega) (by omega)).mono ?_
              rintro e y1 ⟨rfl, rfl⟩
              go_wp2_with fail
              refine (read_any p2 x2.heap.size st2 (aroundI x 6) _ RR2.out (aroundI_bd x 6 (by omega)) (by have := HL2.out; omega)).mono ?_
              rintro e y2 ⟨Ab5, cb5, Al5, cl5, rfl, hvok5, hr5, hg5⟩
              have hrow5 := Rd.own RR2.out hrow2 (by decide) hg5
              have T5 := Lib.hid (Rd.sl RR2.out TT2.out hsz2 hg5)
              have B5 := Lib.hid (below_grown1 BB2.out hg5 BB2.out.size hpb2)
              have R5 := Lib.hid hr5
              have V5 := Lib.hid hvok5
              have hd5 : Desc y2 y2.heap.size (rdVs (kindsI (ks.take j2)) ⟨fz, 0⟩).1 cs2 := by
                obtain ⟨_, _, _, kk, _⟩ := RR2.out
                exact (HD2.out.grownT hg5 kk (by decide) (by decide)).more hg5.size
              have D5 := Lib.hid hd5
              have hsz5 : x2.heap.size ≤ y2.heap.size := Nat.le_trans hsz2 hg5.size
              have hal : ∀ o, Below y2.heap.size y2 (y2.alloc o) := fun o => (Below.refl _ _).alloc (Nat.le_refl _) _
              have HAL := Lib.hid hal
              simp only [vAgg]
              clear hvok5 hr5 hg5 hd5 hal hkc
              go_wp2_with (at_builtin; refine wpList_append_own _ rfl _ _ _ rfl x2.heap.size 28 i0 _ 5 72 Try.underlying25 hi hz0 hz1 hz2 rfl (by omega) _ j2 cs2 rfl (hrow5.alloc _) ⟨y2.heap.size, 0, none⟩ 1 1 [_, _, _, _, _] rfl rfl (cells_five _ _ _ _ _ _ _ _ rfl) (by simp [Value.oneCell']) hr1 hr2 (by simp; omega) ?_; intro v6 y3 hown6 hg6 hnil6; obtain ⟨f1, f2⟩ := got_step (B := 0) (p := 0) (st := bad 2) hrow5 D5.out HV2.out (HAL.out _) V5.out hown6 hg6 hsz5; clear hown6 hg6 hnil6)
              have F1 := Lib.hid f1
              have R6 := Lib.hid (Rd.belowB R5.out hps2 f2)
              have T6 := Lib.hid (T5.out.below f2)
              have B6 := Lib.hid (B5.out.trans (f2.mono hbx2))
              have hsz6 : x2.heap.size ≤ y3.heap.size := Nat.le_trans hsz5 f2.size
              clear f1 f2
              go_wp2_with fail
              first
                | (go_roundw
                   case rel => exact ⟨j2 + 1, by omega, by omega, by go_num, by rw [HTK2.out]; exact F1.out, by rw [HTK2.out]; exact R6.out, T6.out, B6.out, hsz6⟩
                   case measure => simp [intOf]; omega)
                | exact ⟨⟨j2 + 1, by omega, by omega, by go_num, by rw [HTK2.out]; exact F1.out, by rw [HTK2.out]; exact R6.out, T6.out, B6.out, hsz6⟩, by simp [intOf]; omega⟩
            · obtain ⟨gv2, hgv2⟩ : ∃ gv2, gv2 = (rdVs (kindsI (ks.take j2)) ⟨fz, 0⟩).1 := ⟨_, rfl⟩
              have hszz := rdVs_sz (kindsI (ks.take j2)) (kindsI_ok _) ⟨fz, 0⟩ ⟨HFB.out, by simp, .inl rfl⟩ (by simp only; rw [HFL.out]; omega)
              have hone2 := one_encoding (kindsI (ks.take j2)) fz HFB.out
              rw [← hgv2] at HD2 HV2 hszz hone2
              rw [← HST2.out, ← HEV2.out] at hone2
              have HSZ2 := Lib.hid hszz
              have HONE2 := Lib.hid hone2
              have hovs2 : OwnV wr x2.heap.size (.slice Ao2 j2 co2) j2 gv2 := ⟨cs2, hrow2, HD2.out, HV2.out⟩
              obtain ⟨A', c', hv', _, _, hsg2⟩ := hovs2.slice
              cases hv'
              have SG2 := Lib.hid hsg2
              clear hgv2 hszz hone2 hovs2 hsg2 hrow2
              have hcases : q ≤ j2 ∨ (j2 < q ∧ 10 ≤ j2) ∨ (j2 < q ∧ j2 < 10 ∧ ev2 = 0) := by omega
              clear hgo
              rcases hcases with hx1 | ⟨hx1, hx2⟩ | ⟨hx1, hx2, hx3⟩
              · go_wp2_with fail
                refine (HREND.out _ RR2.out).mono ?_
                rintro e y1 ⟨rfl, rfl⟩
                by_cases he2 : ev2 = 0
                · have heq2 : encVs gv2 = fz := HONE2.out he2
                  have HEQ2 := Lib.hid heq2
                  have hE2 : (ev2 != 0) = false := by simp [he2]
                  clear heq2
                  go_wp2_with fail
                  refine (encode_big Ao2 j2 co2 gv2 _ SG2.out (by omega) hnco2 HSZ2.out).mono ?_
                  rintro e y2 ⟨v, rfl, hown6, hb6⟩
                  rw [HEQ2.out, HFL.out] at hown6
                  obtain ⟨A6, c6, rfl, _, _, _, hs6⟩ := own_sl (k := .u8) hown6
                  have S6 := Lib.hid hs6
                  have T6 := Lib.hid ((TT2.out.below (hb6.mono hsz2)).more (Nat.le_trans hsz2 hb6.size))
                  have B6 := Lib.hid (BB2.out.trans (hb6.mono BB2.out.size))
                  clear hown6 hs6 hb6
                  go_wp2_with fail
                  refine (sameBytes A6 X1 F c6 d1 fz fz _ (by unfold maxLen; omega) S6.out T6.out).mono ?_
                  rintro e y3 ⟨rfl, qd2, rfl⟩
                  rw [decide_eq_true (rfl : fz = fz)]
                  have B8 := Lib.hid (below_drewN B6.out qd2)
                  go_wp2_with fail
                  refine (lives_any _).mono ?_
                  rintro e y4 ⟨rfl, hb9⟩
                  go_wp2_with fail
                  go_ret
                  exact ⟨rfl, B8.out.trans (hb9.mono B8.out.size)⟩
                · have hE2 : (ev2 != 0) = true := by simpa using he2
                  clear he2
                  go_wp2_with fail
                  refine (lives_any _).mono ?_
                  rintro e y4 ⟨rfl, hb9⟩
                  go_wp2_with fail
                  go_ret
                  exact ⟨rfl, BB2.out.trans (hb9.mono BB2.out.size)⟩
              · go_wp2_with fail
                refine (HREND.out _ RR2.out).mono ?_
                rintro e y1 ⟨rfl, rfl⟩
                by_cases he2 : ev2 = 0
                · have heq2 : encVs gv2 = fz := HONE2.out he2
                  have HEQ2 := Lib.hid heq2
                  have hE2 : (ev2 != 0) = false := by simp [he2]
                  clear heq2
                  go_wp2_with fail
                  refine (encode_big Ao2 j2 co2 gv2 _ SG2.out (by omega) hnco2 HSZ2.out).mono ?_
                  rintro e y2 ⟨v, rfl, hown6, hb6⟩
                  rw [HEQ2.out, HFL.out] at hown6
                  obtain ⟨A6, c6, rfl, _, _, _, hs6⟩ := own_sl (k := .u8) hown6
                  have S6 := Lib.hid hs6
                  have T6 := Lib.hid ((TT2.out.below (hb6.mono hsz2)).more (Nat.le_trans hsz2 hb6.size))
                  have B6 := Lib.hid (BB2.out.trans (hb6.mono BB2.out.size))
                  clear hown6 hs6 hb6
                  go_wp2_with fail
                  refine (sameBytes A6 X1 F c6 d1 fz fz _ (by unfold maxLen; omega) S6.out T6.out).mono ?_
                  rintro e y3 ⟨rfl, qd2, rfl⟩
                  rw [decide_eq_true (rfl : fz = fz)]
                  have B8 := Lib.hid (below_drewN B6.out qd2)
                  go_wp2_with fail
                  refine (lives_any _).mono ?_
                  rintro e y4 ⟨rfl, hb9⟩
                  go_wp2_with fail
                  go_ret
                  exact ⟨rfl, B8.out.trans (hb9.mono B8.out.size)⟩
                · have hE2 : (ev2 != 0) = true := by simpa using he2
                  clear he2
                  go_wp2_with fail
                  refine (lives_any _).mono ?_
                  rintro e y4 ⟨rfl, hb9⟩
                  go_wp2_with fail
                  go_ret
                  exact ⟨rfl, BB2.out.trans (hb9.mono BB2.out.size)⟩
              · have hE3 : (ev2 != 0) = false := by simp [hx3]
                go_wp2_with fail
                refine (HREND.out _ RR2.out).mono ?_
                rintro e y1 ⟨rfl, rfl⟩
                go_wp2_with fail
                refine (HREND.out _ RR2.out).mono ?_
                rintro e y1 ⟨rfl, rfl⟩
                by_cases he2 : ev2 = 0
                · have heq2 : encVs gv2 = fz := HONE2.out he2
                  have HEQ2 := Lib.hid heq2
                  have hE2 : (ev2 != 0) = false := by simp [he2]
                  clear heq2
                  go_wp2_with fail
                  refine (encode_big Ao2 j2 co2 gv2 _ SG2.out (by omega) hnco2 HSZ2.out).mono ?_
                  rintro e y2 ⟨v, rfl, hown6, hb6⟩
                  rw [HEQ2.out, HFL.out] at hown6
                  obtain ⟨A6, c6, rfl, _, _, _, hs6⟩ := own_sl (k := .u8) hown6
                  have S6 := Lib.hid hs6
                  have T6 := Lib.hid ((TT2.out.below (hb6.mono hsz2)).more (Nat.le_trans hsz2 hb6.size))
                  have B6 := Lib.hid (BB2.out.trans (hb6.mono BB2.out.size))
                  clear hown6 hs6 hb6
                  go_wp2_with fail
                  refine (sameBytes A6 X1 F c6 d1 fz fz _ (by unfold maxLen; omega) S6.out T6.out).mono ?_
                  rintro e y3 ⟨rfl, qd2, rfl⟩
                  rw [decide_eq_true (rfl : fz = fz)]
                  have B8 := Lib.hid (below_drewN B6.out qd2)
                  go_wp2_with fail
                  refine (lives_any _).mono ?_
                  rintro e y4 ⟨rfl, hb9⟩
                  go_wp2_with fail
                  go_ret
                  exact ⟨rfl, B8.out.trans (hb9.mono B8.out.size)⟩
                · exact absurd hx3 he2
end Go.Proofs.Ytjnjglkmabnlfaa
