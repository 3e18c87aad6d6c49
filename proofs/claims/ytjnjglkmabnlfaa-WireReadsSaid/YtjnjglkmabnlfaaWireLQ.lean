/- The law WireReads: its walk. -/
import Derived.Test.YtjnjglkmabnlfaaRefP
import Derived.Test.YtjnjglkmabnlfaaWireLZ
import Derived.Test.YtjnjglkmabnlfaaRefN
namespace Go.Proofs.Ytjnjglkmabnlfaa
open Go.RowKit
set_option linter.unusedVariables false

/-- two slices of bytes in a row -/
def ArrOk (w : World) (b B : Nat) : Prop := b < B ∧ B ≤ w.heap.size ∧ ∀ k : Nat, k < 2 → ∃ Q F d qs, w.cell? ⟨b, k, none⟩ = some (.slice Q F d) ∧ Sl .u8 w B Q F qs ∧ F ≤ d ∧ d ≤ maxLen ∧ (Q = none → d = 0) ∧ F ≤ 1000 ∧ ∀ x ∈ qs, byteI x
theorem ArrOk.below {w w' : World} {b B : Nat} (h : ArrOk w b B) (hb : Below B w w') : ArrOk w' b B := by
  obtain ⟨h1, h2, h3⟩ := h
  refine ⟨h1, Nat.le_trans h2 hb.size, fun k hk => ?_⟩
  obtain ⟨Q, F, d, qs, k1, k2, k3⟩ := h3 k hk
  exact ⟨Q, F, d, qs, (hb.cell (p := ⟨b, k, none⟩) h1).trans k1, k2.below hb, k3⟩
theorem ArrOk.new {w : World} {X Y : Option Addr} {F L d c : Nat} {fz tb : List Int} {T : TypeId} (h1 : Sl .u8 w w.heap.size X F fz) (h2 : Sl .u8 w w.heap.size Y L tb) (a1 : F ≤ d) (a2 : d ≤ maxLen) (a3 : X = none → d = 0) (a4 : F ≤ 1000) (a5 : ∀ x ∈ fz, byteI x)
    (b1 : L ≤ c) (b2 : c ≤ maxLen) (b3 : Y = none → c = 0) (b4 : L ≤ 1000) (b5 : ∀ x ∈ tb, byteI x) : ArrOk (w.alloc (.cells #[.slice X F d, .slice Y L c] T)) w.heap.size (w.heap.size + 1) := by
  have hb : Below w.heap.size w (w.alloc (.cells #[.slice X F d, .slice Y L c] T)) := (Below.refl _ _).alloc (Nat.le_refl _) _
  have hn := Blk2.new w T (.slice X F d) (.slice Y L c)
  refine ⟨by omega, by rw [World.size_alloc]; exact Nat.le_refl _, fun k hk => ?_⟩
  have : k = 0 ∨ k = 1 := by omega
  rcases this with rfl | rfl
  · exact ⟨X, F, d, fz, hn.c0, (h1.below hb).more (by omega), a1, a2, a3, a4, a5⟩
  · exact ⟨Y, L, c, tb, hn.c1, (h2.below hb).more (by omega), b1, b2, b3, b4, b5⟩
theorem rdr_new {w : World} {B F d : Nat} {Q : Option Addr} {qs : List Int} (h : Sl .u8 w B Q F qs) (h1 : F ≤ d) (h2 : d ≤ maxLen) (h3 : Q = none → d = 0) (h4 : ∀ x ∈ qs, byteI x) (hB : B ≤ w.heap.size) : RdR (w.alloc (.cells #[.slice Q F d, .int .i64 0] 47)) w.heap.size B ⟨qs, 0⟩ := by
  have hb : Below w.heap.size w (w.alloc (.cells #[.slice Q F d, .int .i64 0] 47)) := (Below.refl _ _).alloc (Nat.le_refl _) _
  exact ⟨Q, F, d, Blk2.new _ _ _ _, h1, h2, h3, fun _ => h.below (hb.mono hB), ⟨h4, fun h => absurd rfl h, .inl rfl⟩, Nat.le_trans hB hb.size⟩
theorem read_as (p B : Nat) (s s' : RS) (k : Int) (v : V) (w : World) (hV : rdV k s = (v, s')) (h : RdW w p B s) (hk : 0 ≤ k ∧ k < 6) (hl : s.bs.length ≤ 1000000) :
    Calls Try.prog 22 #[.pointer (some ⟨p, 0, none⟩), .int .i64 k] w fun e w' => ∃ Ab cb Al cl, e = .returned (vAgg v Ab cb Al cl) ∧ VOk w' w'.heap.size v Ab cb Al cl ∧ RdW w' p B s' ∧ w.grownBy w' (some p) := by
  have := read_any p B s k w h hk hl
  unfold ReadPost at this
  rw [hV] at this
  exact this
theorem rread_as (p B : Nat) (s s' : RS) (k : Int) (v : V) (w : World) (hV : rdV k s = (v, s')) (h : RdR w p B s) (hk : 0 ≤ k ∧ k < 6) (hl : s.bs.length ≤ 1000000) :
    Calls Try.prog 23 #[.pointer (some ⟨p, 0, none⟩), .int .i64 k] w fun e w' => ∃ Ab cb Al cl, e = .returned (vAgg v Ab cb Al cl) ∧ Sl .u8 w' w'.heap.size Ab v.b.length v.b ∧ Sl .i64 w' w'.heap.size Al v.l.length v.l ∧ RdR w' p B s' ∧ w.grownBy w' (some p) := by
  have := rr_read p B s k w h hk hl
  unfold RReadPost at this
  rw [hV] at this
  exact this

set_option maxRecDepth 100000 in
set_option maxHeartbeats 8000000 in
theorem wireReads_law (D A E : Option Addr) (m d n c q f : Nat) (ys zs ks : List Int) (at_ cc : Int) (w : World) (hm : m ≤ d) (hd : d ≤ maxLen) (hD : D = none → m = 0 ∧ d = 0) (hn : n ≤ c) (hc : c ≤ maxLen) (hq : q ≤ f) (hf : f ≤ maxLen)
    (h1 : Sl .u8 w w.heap.size D m ys) (h2 : Sl .i64 w w.heap.size A n zs) (h3 : Sl .i64 w w.heap.size E q ks) (hy : ∀ x ∈ ys, byteI x) (hz : ∀ x ∈ zs, i64 x) (hk : ∀ x ∈ ks, i64 x) (hat : i64 at_) (hcc : byteI cc) :
    Calls Try.prog 4 #[.slice D m d, .slice A n c, .int .i64 at_, .int .u8 cc, .slice E q f] w fun e w' => e = .returned (.bool true) ∧ Below w.heap.size w w' := by
  obtain ⟨hat0, hat1⟩ := hat
  have CC := Lib.hid hcc
  have S1 := Lib.hid h1
  have S2 := Lib.hid h2
  have S3 := Lib.hid h3
  have HY := Lib.hid hy
  have HZ := Lib.hid hz
  have HK := Lib.hid hk
  have HKL := Lib.hid h3.len
  clear h1 h2 h3 hy hz hk hcc
  go_enter Try.func4, Try.ntmps4
  go_wp2_with fail
  refine (vals_any A n c zs _ hn hc S2.out HZ.out).mono ?_
  rintro e w1 ⟨v, N, us, rfl, hN8, hov, hgood, hb1⟩
  obtain ⟨A1, c1, rfl, hnc, hcm, hsl⟩ := hov.slice
  have hcan : ∀ v ∈ us, v.can := fun v hv => (hgood v hv).1
  have SL := Lib.hid hsl
  have GD := Lib.hid hgood
  have CAN := Lib.hid hcan
  have HNL := Lib.hid hsl.len
  have B1 := Lib.hid hb1
  clear hov hsl hgood hcan hb1
  go_wp2_with fail
  refine (ref_encode A1 N c1 49 us _ SL.out (by omega) hnc (by omega) (fun v hv => good_sz49 (GD.out v hv))).mono ?_
  rintro e w2 ⟨v, rfl, hown2, hb2⟩
  have hel := encVs_len 49 us (fun v hv => good_sz49 (GD.out v hv))
  rw [HNL.out] at hel
  obtain ⟨bs, hbs⟩ : ∃ bs, bs = encVs us := ⟨_, rfl⟩
  have hbb := encVs_byte us CAN.out
  rw [← hbs] at hel hown2 hbb
  obtain ⟨L, hL⟩ : ∃ L : Nat, L = bs.length := ⟨_, rfl⟩
  rw [← hL] at hel hown2
  have hL2 : L ≤ 472 := by
    have : N * (49 + 10) ≤ 8 * (49 + 10) := Nat.mul_le_mul (by omega) (Nat.le_refl _)
    omega
  have HL := Lib.hid hL
  have HBB := Lib.hid hbb
  obtain ⟨A2, c2, hv2, hn2, hc2, hA2, hs2⟩ := own_sl (k := .u8) hown2
  subst hv2
  have B2 := Lib.hid (B1.out.trans (hb2.mono B1.out.size))
  have O2 := Lib.hid hown2
  have hsz12 := hb2.size
  have hbase1 := B1.out.size
  clear hown2 hs2 hb2 hL hel hbs hbb
  have hpre : ∃ (tb : List Int) (w3 : World), tb.length = L ∧ (∀ x ∈ tb, byteI x) ∧ w3.ownsRow w1.heap.size 5 1 (.slice A2 L c2) L (cB tb) ∧ Below w.heap.size w w3 ∧ w3.heap.size = w2.heap.size ∧
      (0 < L → ∃ J : Nat, J < L ∧ aroundI at_ (L : Int) = J ∧ ∃ g, A2 = some ⟨g, 0, none⟩ ∧ w3 = w2.setCell ⟨g, J, none⟩ (.int .u8 cc) ∧ (∃ u, w2.cell? ⟨g, J, none⟩ = some u) ∧ w2.frozen? ⟨g, J, none⟩ = false) ∧ (L = 0 → w3 = w2) := by
    by_cases h0 : 0 < L
    · obtain ⟨hj0, hj1⟩ := aroundI_bd at_ L (by omega)
      obtain ⟨J, hJ⟩ : ∃ J : Nat, aroundI at_ (L : Int) = J := ⟨(aroundI at_ (L : Int)).toNat, by omega⟩
      have hJL : J < L := by omega
      obtain ⟨g, c', hv, hgb, hgl⟩ := own_slice O2.out h0
      cases hv
      have hst := O2.out.stored J (.int .u8 cc)
      have hlen : (cB bs).length = L := by rw [cB_len, HL.out]
      refine ⟨bs.set J cc, w2.setCell ⟨g, J, none⟩ (.int .u8 cc), by rw [List.length_set, HL.out], byte_set HBB.out CC.out, ?_, ?_, by simp [World.setCell], fun _ => ⟨J, hJL, hJ, g, rfl, rfl, ⟨(cB bs)[J]'(by omega), ?_⟩, O2.out.frozenAt J⟩, fun h => by omega⟩
      · have e : (cB bs).set J (.int .u8 cc) = cB (bs.set J cc) := by unfold cB; rw [← List.map_set]
        rw [← e]; exact hst.1
      · exact B2.out.setCell (p := ⟨g, J, none⟩) (by simp; omega) _
      · rw [O2.out.cellAt J (by omega), List.getElem?_eq_getElem (by omega)]
    · exact ⟨bs, w2, HL.out.symm, HBB.out, O2.out, B2.out, rfl, fun h => absurd h h0, fun _ => rfl⟩
  obtain ⟨tb, w3, htl, htb, ho3, hb3, hsz3, hpos, hzero⟩ := hpre
  have HTL := Lib.hid htl
  have HTB := Lib.hid htb
  have B3 := Lib.hid hb3
  have hsr : Sl .u8 w3 w3.heap.size A2 L tb := by
    obtain ⟨A', c', hv, _, _, _, hs⟩ := own_sl (k := .u8) ho3
    cases hv
    exact hs
  have SR := Lib.hid hsr
  have HPOS := Lib.hid hpos
  have HZERO := Lib.hid hzero
  clear htl htb ho3 hb3 hsr hpos hzero
  by_cases h0 : 0 < L
  · obtain ⟨J, hJL, hJ, g, rfl, hw3, ⟨u, hcell⟩, hfro⟩ := HPOS.out h0
    have HJ := Lib.hid hJ
    have HW3 := Lib.hid hw3
    clear hJ hw3 HPOS HZERO
    go_wp2_with fail
    refine (around_any at_ L _ hat0 hat1 (by omega) (by omega)).mono ?_
    rintro e w' ⟨rfl, rfl⟩
    rw [HJ.out]
    go_wp2_with fail
    rw [← HW3.out]
    refine (few_any D m d 60 ys _ (by omega) hm hd ((S1.out.below B3.out).more B3.out.size) hD).mono ?_
    rintro e w4 ⟨v, rfl, hown4, hb4⟩
    obtain ⟨F0, hF0⟩ : ∃ F0, F0 = min m 60 := ⟨_, rfl⟩
    obtain ⟨fz, hfz⟩ : ∃ fz, fz = ys.take 60 := ⟨_, rfl⟩
    have hfb : ∀ x ∈ fz, byteI x := fun x hx => by rw [hfz] at hx; exact HY.out x (List.mem_of_mem_take hx)
    rw [← hF0, ← hfz] at hown4
    have hF60 : F0 ≤ 60 := by omega
    obtain ⟨X1, d1, rfl, hnf, hcf, hX1, hsx1⟩ := own_sl (k := .u8) hown4
    have T4 := (SR.out.below hb4).more hb4.size
    have B4 := Lib.hid (B3.out.trans (hb4.mono B3.out.size))
    have hall : ∀ T, ArrOk (w4.alloc (.cells #[.slice X1 F0 d1, .slice (some ⟨g, 0, none⟩) L c2] T)) w4.heap.size (w4.heap.size + 1) := fun T =>
      ArrOk.new hsx1 T4 hnf hcf hX1 (by omega) hfb hn2 hc2 hA2 (by omega) HTB.out
    have AR := Lib.hid hall
    have hbase4 : w.heap.size ≤ w4.heap.size := B4.out.size
    have hal4 : ∀ o, Below w4.heap.size w4 (w4.alloc o) := fun o => (Below.refl _ _).alloc (Nat.le_refl _) _
    have HAL4 := Lib.hid hal4
    clear hown4 hb4 hF0 hfz hfb hsx1 T4 hall hal4
    go_wp2_with fail
    go_loopw [13] (fun i wr => ∃ k : Nat, k ≤ 2 ∧ i = .int .i64 k ∧ ArrOk wr w4.heap.size (w4.heap.size + 1) ∧ Below w.heap.size w wr) (fun i _ => 2 - (intOf i).toNat)
    case atStart => exact ⟨0, by omega, rfl, AR.out _, B4.out.trans ((HAL4.out _).mono hbase4)⟩
    case round =>
      obtain ⟨k, hk, rfl, har, hbel⟩ := hrel
      have ARR := Lib.hid har
      have BB := Lib.hid hbel
      by_cases hlt : k < 2
      · obtain ⟨Q, F, dq, qs, hcell0, hsq, hnd, hcd, hQ, hFm, hqb⟩ := har.2.2 k hlt
        have hbw : w4.heap.size + 1 ≤ wr.heap.size := har.2.1
        have SQ := Lib.hid hsq
        have HQB := Lib.hid hqb
        have hbr := hbel.size
        have HQL := Lib.hid hsq.len
        clear har hbel hsq hqb
        go_wp2_with fail
        refine (r_read Q F dq qs _ (SQ.out.more hbw) hQ (by omega) HQB.out).mono ?_
        rintro e w5 ⟨p, rfl, hp, hr5, hb5⟩
        have hcell5 := (hb5.cell (p := ⟨w4.heap.size, k, none⟩) (by show w4.heap.size < wr.heap.size; omega)).trans hcell0
        have hsz5 := hb5.size
        have hps := hr5.lt
        have B5 := Lib.hid (hb5.mono hbw)
        have NR := Lib.hid (rdr_new (SQ.out.below (hb5.mono hbw)) hnd hcd hQ HQB.out (by omega))
        have NW := Lib.hid (Rd.below hr5 ((Below.refl w5.heap.size w5).alloc (Nat.le_refl _) (.cells #[.slice Q F dq, .int .i64 0] 47)))
        have HAL5 := Lib.hid ((Below.refl w5.heap.size w5).alloc (Nat.le_refl _) (.cells #[.slice Q F dq, .int .i64 0] 47))
        clear hcell0 hr5 hb5
        go_wp2_with fail
        go_loopw [16] (fun i wi => ∃ j : Nat, j ≤ q ∧ j ≤ 10 ∧ i = .int .i64 j ∧ RdW wi p w5.heap.size (rdVs (kindsI (ks.take j)) ⟨qs, 0⟩).2 ∧ RdR wi w5.heap.size (w4.heap.size + 1) (rdVs (kindsI (ks.take j)) ⟨qs, 0⟩).2 ∧ Below (w4.heap.size + 1) wr wi) (fun i _ => 10 - (intOf i).toNat)
        case atStart => exact ⟨0, Nat.zero_le _, by omega, rfl, NW.out, NR.out, B5.out.trans (HAL5.out.mono (by omega))⟩
        case round =>
          obtain ⟨j, hjq, hj10, rfl, hr, hrr, hbi⟩ := hrel
          rename World => wi
          have RW := Lib.hid hr
          have RR := Lib.hid hrr
          have BI := Lib.hid hbi
          clear hr hrr hbi
          by_cases hgo : j < q ∧ j < 10
          · obtain ⟨hltq, hlt10⟩ := hgo
            obtain ⟨bq, oq, rfl, hbq, hcq⟩ := S3.out.at_ (by omega)
            have hkv : j < ks.length := by rw [HKL.out]; exact hltq
            have hkc := ((BB.out.trans (BI.out.mono (by omega))).cell (p := ⟨bq, oq + j, none⟩) hbq).trans (hcq j hltq)
            obtain ⟨x, hx⟩ : ∃ x, x = ks[j] := ⟨_, rfl⟩
            have hx2 : ks[j]?.getD 0 = x := by rw [List.getElem?_eq_getElem hkv, hx]; rfl
            have hxi : i64 x := by rw [hx]; exact HK.out _ (List.getElem_mem hkv)
            rw [hx2] at hkc
            have hx0 := hxi.1
            have hx1 := hxi.2
            have hl2 := (rdVs_st (kindsI (ks.take j)) ⟨qs, 0⟩ ⟨HQB.out, by simp, .inl rfl⟩).2
            simp only [HQL.out] at hl2
            obtain ⟨st, hst⟩ : ∃ st, st = (rdVs (kindsI (ks.take j)) ⟨qs, 0⟩).2 := ⟨_, rfl⟩
            have htk : (rdVs (kindsI (ks.take (j + 1))) ⟨qs, 0⟩).2 = (rdV (aroundI x 6) st).2 := by
              rw [kindsI_take ks j hkv, rdVs_snoc, ← hst, hx]
            rw [← hst] at RW RR hl2
            obtain ⟨h60, h61⟩ := aroundI_bd x 6 (by omega)
            obtain ⟨K, hK⟩ : ∃ K, K = aroundI x 6 := ⟨_, rfl⟩
            rw [← hK] at h60 h61 htk
            have HKK := Lib.hid hK
            obtain ⟨v, s', hv⟩ : ∃ v s', rdV K st = (v, s') := ⟨_, _, rfl⟩
            rw [hv] at htk
            have HV := Lib.hid hv
            have HTK := Lib.hid (show (rdVs (kindsI (ks.take (j + 1))) ⟨qs, 0⟩).2 = s' from htk)
            have hvc := rdV_can K st ⟨h60, h61⟩ RW.out.ok (by omega)
            have hst' := (rdV_st K st RW.out.ok).2
            rw [hv] at hvc hst'
            simp only at hvc hst'
            have hvb : v.b.length ≤ 1000000 := by omega
            have hvl : v.l.length ≤ 1000000 := by omega
            have HST := Lib.hid (show s'.bs.length ≤ 1000000 by omega)
            have HSL := Lib.hid (show st.bs.length ≤ 1000000 by omega)
            have hpne : p ≠ w5.heap.size := by omega
            clear hcq hx hx2 hxi hl2 hst htk hK hv hvc hst'
            go_wp2_with fail
            refine (around_any x 6 _ hx0 hx1 (by omega) (by omega)).mono ?_
            rintro e y1 ⟨rfl, rfl⟩
            rw [← HKK.out]
            go_wp2_with fail
            refine (read_as p w5.heap.size st s' K v _ HV.out RW.out ⟨h60, h61⟩ HSL.out).mono ?_
            rintro e y2 ⟨Ab, cb, Al, cl, rfl, hvok2, hr2, hg2⟩
            have R2 := Lib.hid (Rd.other RR.out RW.out hpne.symm hg2)
            have W2 := Lib.hid hr2
            have V2 := Lib.hid hvok2
            have BI2 := Lib.hid (below_grown1 BI.out hg2 (Nat.le_trans hbw BI.out.size) (by omega))
            clear hvok2 hr2 hg2 hkc
            go_wp2_with fail
            refine (rread_as w5.heap.size (w4.heap.size + 1) st s' K v _ HV.out R2.out ⟨h60, h61⟩ HSL.out).mono ?_
            rintro e y3 ⟨Ab3, cb3, Al3, cl3, rfl, hsb3, hsl3, hr3, hg3⟩
            have hvok3 : VOk y3 y2.heap.size v Ab cb Al cl := by
              obtain ⟨_, _, _, kk, _⟩ := R2.out
              exact V2.out.grown hg3 kk (by decide) (by decide)
            have hsz3' := hg3.size
            have V3 := Lib.hid (hvok3.more hsz3')
            have W3 := Lib.hid (Rd.other W2.out R2.out hpne hg3)
            have R3 := Lib.hid hr3
            have SB3 := Lib.hid hsb3
            have SL3 := Lib.hid hsl3
            have BI3 := Lib.hid (below_grown1 BI2.out hg3 (Nat.le_trans hbw BI2.out.size) (by omega))
            clear hvok3 hr3 hg3 hsb3 hsl3
            go_wp2_with fail
            refine (same_eq v Ab Al Ab3 Al3 cb cl cb3 cl3 _ V3.out.1.1 V3.out.2.1 SB3.out SL3.out hvb hvl).mono ?_
            rintro e y4 ⟨rfl, hb4⟩
            have W4 := Lib.hid (Rd.below W3.out hb4)
            have R4 := Lib.hid (Rd.below R3.out hb4)
            have BI4 := Lib.hid (BI3.out.trans (hb4.mono (Nat.le_trans hbw BI3.out.size)))
            obtain ⟨ev, hev⟩ : ∃ ev, ev = endE s' := ⟨_, rfl⟩
            have HEV := Lib.hid hev
            have hnn : (ev != ev) = false := by simp
            clear hb4 hev
            go_wp2_with fail
            refine (r_end p _ _ _ W4.out HST.out).mono ?_
            rintro e y5 ⟨rfl, rfl⟩
            rw [← HEV.out]
            go_wp2_with fail
            refine (rr_end _ _ _ _ R4.out HST.out).mono ?_
            rintro e y5 ⟨rfl, rfl⟩
            rw [← HEV.out]
            go_wp2_with fail
            first
              | (go_roundw
                 case rel => exact ⟨j + 1, by omega, by omega, by go_num, by rw [HTK.out]; exact W4.out, by rw [HTK.out]; exact R4.out, BI4.out⟩
                 case measure => simp [intOf]; omega)
              | exact ⟨⟨j + 1, by omega, by omega, by go_num, by rw [HTK.out]; exact W4.out, by rw [HTK.out]; exact R4.out, BI4.out⟩, by simp [intOf]; omega⟩
          · have hcases : q ≤ j ∨ (j < q ∧ 10 ≤ j) := by omega
            clear hgo
            have FIN := Lib.hid (show ArrOk wi w4.heap.size (w4.heap.size + 1) ∧ Below w.heap.size w wi from ⟨ARR.out.below BI.out, BB.out.trans (BI.out.mono (by omega))⟩)
            rcases hcases with hx1 | ⟨hx1, hx2⟩
            all_goals
              go_wp2_with fail
              first
                | (go_roundw
                   case rel => exact ⟨k + 1, by omega, by go_num, FIN.out.1, FIN.out.2⟩
                   case measure => simp [intOf]; omega)
                | exact ⟨⟨k + 1, by omega, by go_num, FIN.out.1, FIN.out.2⟩, by simp [intOf]; omega⟩
      · obtain rfl : k = 2 := by omega
        clear har hbel
        go_wp2_with fail
        refine (lives_any _).mono ?_
        rintro e y4 ⟨rfl, hb9⟩
        go_wp2_with fail
        go_ret
        exact ⟨rfl, BB.out.trans (hb9.mono BB.out.size)⟩
  · obtain rfl : L = 0 := by omega
    have hw3 := HZERO.out rfl
    subst hw3
    clear HPOS HZERO h0
    go_wp2_with fail
    refine (few_any D m d 60 ys _ (by omega) hm hd ((S1.out.below B3.out).more B3.out.size) hD).mono ?_
    rintro e w4 ⟨v, rfl, hown4, hb4⟩
    obtain ⟨F0, hF0⟩ : ∃ F0, F0 = min m 60 := ⟨_, rfl⟩
    obtain ⟨fz, hfz⟩ : ∃ fz, fz = ys.take 60 := ⟨_, rfl⟩
    have hfb : ∀ x ∈ fz, byteI x := fun x hx => by rw [hfz] at hx; exact HY.out x (List.mem_of_mem_take hx)
    rw [← hF0, ← hfz] at hown4
    have hF60 : F0 ≤ 60 := by omega
    obtain ⟨X1, d1, rfl, hnf, hcf, hX1, hsx1⟩ := own_sl (k := .u8) hown4
    have T4 := (SR.out.below hb4).more hb4.size
    have B4 := Lib.hid (B3.out.trans (hb4.mono B3.out.size))
    have hall : ∀ T, ArrOk (w4.alloc (.cells #[.slice X1 F0 d1, .slice A2 0 c2] T)) w4.heap.size (w4.heap.size + 1) := fun T =>
      ArrOk.new hsx1 T4 hnf hcf hX1 (by omega) hfb hn2 hc2 hA2 (by omega) HTB.out
    have AR := Lib.hid hall
    have hbase4 : w.heap.size ≤ w4.heap.size := B4.out.size
    have hal4 : ∀ o, Below w4.heap.size w4 (w4.alloc o) := fun o => (Below.refl _ _).alloc (Nat.le_refl _) _
    have HAL4 := Lib.hid hal4
    clear hown4 hb4 hF0 hfz hfb hsx1 T4 hall hal4
    go_wp2_with fail
    go_loopw [13] (fun i wr => ∃ k : Nat, k ≤ 2 ∧ i = .int .i64 k ∧ ArrOk wr w4.heap.size (w4.heap.size + 1) ∧ Below w.heap.size w wr) (fun i _ => 2 - (intOf i).toNat)
    case atStart => exact ⟨0, by omega, rfl, AR.out _, B4.out.trans ((HAL4.out _).mono hbase4)⟩
    case round =>
      obtain ⟨k, hk, rfl, har, hbel⟩ := hrel
      have ARR := Lib.hid har
      have BB := Lib.hid hbel
      by_cases hlt : k < 2
      · obtain ⟨Q, F, dq, qs, hcell0, hsq, hnd, hcd, hQ, hFm, hqb⟩ := har.2.2 k hlt
        have hbw : w4.heap.size + 1 ≤ wr.heap.size := har.2.1
        have SQ := Lib.hid hsq
        have HQB := Lib.hid hqb
        have hbr := hbel.size
        have HQL := Lib.hid hsq.len
        clear har hbel hsq hqb
        go_wp2_with fail
        refine (r_read Q F dq qs _ (SQ.out.more hbw) hQ (by omega) HQB.out).mono ?_
        rintro e w5 ⟨p, rfl, hp, hr5, hb5⟩
        have hcell5 := (hb5.cell (p := ⟨w4.heap.size, k, none⟩) (by show w4.heap.size < wr.heap.size; omega)).trans hcell0
        have hsz5 := hb5.size
        have hps := hr5.lt
        have B5 := Lib.hid (hb5.mono hbw)
        have NR := Lib.hid (rdr_new (SQ.out.below (hb5.mono hbw)) hnd hcd hQ HQB.out (by omega))
        have NW := Lib.hid (Rd.below hr5 ((Below.refl w5.heap.size w5).alloc (Nat.le_refl _) (.cells #[.slice Q F dq, .int .i64 0] 47)))
        have HAL5 := Lib.hid ((Below.refl w5.heap.size w5).alloc (Nat.le_refl _) (.cells #[.slice Q F dq, .int .i64 0] 47))
        clear hcell0 hr5 hb5
        go_wp2_with fail
        go_loopw [16] (fun i wi => ∃ j : Nat, j ≤ q ∧ j ≤ 10 ∧ i = .int .i64 j ∧ RdW wi p w5.heap.size (rdVs (kindsI (ks.take j)) ⟨qs, 0⟩).2 ∧ RdR wi w5.heap.size (w4.heap.size + 1) (rdVs (kindsI (ks.take j)) ⟨qs, 0⟩).2 ∧ Below (w4.heap.size + 1) wr wi) (fun i _ => 10 - (intOf i).toNat)
        case atStart => exact ⟨0, Nat.zero_le _, by omega, rfl, NW.out, NR.out, B5.out.trans (HAL5.out.mono (by omega))⟩
        case round =>
          obtain ⟨j, hjq, hj10, rfl, hr, hrr, hbi⟩ := hrel
          rename World => wi
          have RW := Lib.hid hr
          have RR := Lib.hid hrr
          have BI := Lib.hid hbi
          clear hr hrr hbi
          by_cases hgo : j < q ∧ j < 10
          · obtain ⟨hltq, hlt10⟩ := hgo
            obtain ⟨bq, oq, rfl, hbq, hcq⟩ := S3.out.at_ (by omega)
            have hkv : j < ks.length := by rw [HKL.out]; exact hltq
            have hkc := ((BB.out.trans (BI.out.mono (by omega))).cell (p := ⟨bq, oq + j, none⟩) hbq).trans (hcq j hltq)
            obtain ⟨x, hx⟩ : ∃ x, x = ks[j] := ⟨_, rfl⟩
            have hx2 : ks[j]?.getD 0 = x := by rw [List.getElem?_eq_getElem hkv, hx]; rfl
            have hxi : i64 x := by rw [hx]; exact HK.out _ (List.getElem_mem hkv)
            rw [hx2] at hkc
            have hx0 := hxi.1
            have hx1 := hxi.2
            have hl2 := (rdVs_st (kindsI (ks.take j)) ⟨qs, 0⟩ ⟨HQB.out, by simp, .inl rfl⟩).2
            simp only [HQL.out] at hl2
            obtain ⟨st, hst⟩ : ∃ st, st = (rdVs (kindsI (ks.take j)) ⟨qs, 0⟩).2 := ⟨_, rfl⟩
            have htk : (rdVs (kindsI (ks.take (j + 1))) ⟨qs, 0⟩).2 = (rdV (aroundI x 6) st).2 := by
              rw [kindsI_take ks j hkv, rdVs_snoc, ← hst, hx]
            rw [← hst] at RW RR hl2
            obtain ⟨h60, h61⟩ := aroundI_bd x 6 (by omega)
            obtain ⟨K, hK⟩ : ∃ K, K = aroundI x 6 := ⟨_, rfl⟩
            rw [← hK] at h60 h61 htk
            have HKK := Lib.hid hK
            obtain ⟨v, s', hv⟩ : ∃ v s', rdV K st = (v, s') := ⟨_, _, rfl⟩
            rw [hv] at htk
            have HV := Lib.hid hv
            have HTK := Lib.hid (show (rdVs (kindsI (ks.take (j + 1))) ⟨qs, 0⟩).2 = s' from htk)
            have hvc := rdV_can K st ⟨h60, h61⟩ RW.out.ok (by omega)
            have hst' := (rdV_st K st RW.out.ok).2
            rw [hv] at hvc hst'
            simp only at hvc hst'
            have hvb : v.b.length ≤ 1000000 := by omega
            have hvl : v.l.length ≤ 1000000 := by omega
            have HST := Lib.hid (show s'.bs.length ≤ 1000000 by omega)
            have HSL := Lib.hid (show st.bs.length ≤ 1000000 by omega)
            have hpne : p ≠ w5.heap.size := by omega
            clear hcq hx hx2 hxi hl2 hst htk hK hv hvc hst'
            go_wp2_with fail
            refine (around_any x 6 _ hx0 hx1 (by omega) (by omega)).mono ?_
            rintro e y1 ⟨rfl, rfl⟩
            rw [← HKK.out]
            go_wp2_with fail
            refine (read_as p w5.heap.size st s' K v _ HV.out RW.out ⟨h60, h61⟩ HSL.out).mono ?_
            rintro e y2 ⟨Ab, cb, Al, cl, rfl, hvok2, hr2, hg2⟩
            have R2 := Lib.hid (Rd.other RR.out RW.out hpne.symm hg2)
            have W2 := Lib.hid hr2
            have V2 := Lib.hid hvok2
            have BI2 := Lib.hid (below_grown1 BI.out hg2 (Nat.le_trans hbw BI.out.size) (by omega))
            clear hvok2 hr2 hg2 hkc
            go_wp2_with fail
            refine (rread_as w5.heap.size (w4.heap.size + 1) st s' K v _ HV.out R2.out ⟨h60, h61⟩ HSL.out).mono ?_
            rintro e y3 ⟨Ab3, cb3, Al3, cl3, rfl, hsb3, hsl3, hr3, hg3⟩
            have hvok3 : VOk y3 y2.heap.size v Ab cb Al cl := by
              obtain ⟨_, _, _, kk, _⟩ := R2.out
              exact V2.out.grown hg3 kk (by decide) (by decide)
            have hsz3' := hg3.size
            have V3 := Lib.hid (hvok3.more hsz3')
            have W3 := Lib.hid (Rd.other W2.out R2.out hpne hg3)
            have R3 := Lib.hid hr3
            have SB3 := Lib.hid hsb3
            have SL3 := Lib.hid hsl3
            have BI3 := Lib.hid (below_grown1 BI2.out hg3 (Nat.le_trans hbw BI2.out.size) (by omega))
            clear hvok3 hr3 hg3 hsb3 hsl3
            go_wp2_with fail
            refine (same_eq v Ab Al Ab3 Al3 cb cl cb3 cl3 _ V3.out.1.1 V3.out.2.1 SB3.out SL3.out hvb hvl).mono ?_
            rintro e y4 ⟨rfl, hb4⟩
            have W4 := Lib.hid (Rd.below W3.out hb4)
            have R4 := Lib.hid (Rd.below R3.out hb4)
            have BI4 := Lib.hid (BI3.out.trans (hb4.mono (Nat.le_trans hbw BI3.out.size)))
            obtain ⟨ev, hev⟩ : ∃ ev, ev = endE s' := ⟨_, rfl⟩
            have HEV := Lib.hid hev
            have hnn : (ev != ev) = false := by simp
            clear hb4 hev
            go_wp2_with fail
            refine (r_end p _ _ _ W4.out HST.out).mono ?_
            rintro e y5 ⟨rfl, rfl⟩
            rw [← HEV.out]
            go_wp2_with fail
            refine (rr_end _ _ _ _ R4.out HST.out).mono ?_
            rintro e y5 ⟨rfl, rfl⟩
            rw [← HEV.out]
            go_wp2_with fail
            first
              | (go_roundw
                 case rel => exact ⟨j + 1, by omega, by omega, by go_num, by rw [HTK.out]; exact W4.out, by rw [HTK.out]; exact R4.out, BI4.out⟩
                 case measure => simp [intOf]; omega)
              | exact ⟨⟨j + 1, by omega, by omega, by go_num, by rw [HTK.out]; exact W4.out, by rw [HTK.out]; exact R4.out, BI4.out⟩, by simp [intOf]; omega⟩
          · have hcases : q ≤ j ∨ (j < q ∧ 10 ≤ j) := by omega
            clear hgo
            have FIN := Lib.hid (show ArrOk wi w4.heap.size (w4.heap.size + 1) ∧ Below w.heap.size w wi from ⟨ARR.out.below BI.out, BB.out.trans (BI.out.mono (by omega))⟩)
            rcases hcases with hx1 | ⟨hx1, hx2⟩
            all_goals
              go_wp2_with fail
              first
                | (go_roundw
                   case rel => exact ⟨k + 1, by omega, by go_num, FIN.out.1, FIN.out.2⟩
                   case measure => simp [intOf]; omega)
                | exact ⟨⟨k + 1, by omega, by go_num, FIN.out.1, FIN.out.2⟩, by simp [intOf]; omega⟩
      · obtain rfl : k = 2 := by omega
        clear har hbel
        go_wp2_with fail
        refine (lives_any _).mono ?_
        rintro e y4 ⟨rfl, hb9⟩
        go_wp2_with fail
        go_ret
        exact ⟨rfl, BB.out.trans (hb9.mono BB.out.size)⟩
end Go.Proofs.Ytjnjglkmabnlfaa
