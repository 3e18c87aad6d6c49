/- The law WireOwn: its walk, second part. -/
import Derived.Test.YtjnjglkmabnlfaaWireLO
namespace Go.Proofs.Ytjnjglkmabnlfaa
open Go.RowKit
set_option linter.unusedVariables false

theorem own_lo {w : World} {base n : Nat} {e : TypeId} {v : Value} {xs : List Value} (h : w.ownsRow base e 1 v n xs) : ∀ g, v.ownBlock = some g → base ≤ g := fun g hg => (h.lt g hg).1
theorem own_hi {w : World} {base n : Nat} {e : TypeId} {v : Value} {xs : List Value} (h : w.ownsRow base e 1 v n xs) : ∀ g, v.ownBlock = some g → g < w.heap.size := fun g hg => (h.lt g hg).2

set_option maxHeartbeats 4000000 in
theorem wireOwn_law (A B : Option Addr) (n c m d : Nat) (zs ys : List Int) (w : World) (hn : n ≤ c) (hc : c ≤ maxLen) (hm : m ≤ d) (hd : d ≤ maxLen) (h : Sl .u8 w w.heap.size A n zs) (hA : A = none → n = 0 ∧ c = 0)
    (h2 : Sl .i64 w w.heap.size B m ys) (hB : B = none → m = 0 ∧ d = 0) (hz : ∀ b ∈ zs, byteI b) (hy : ∀ b ∈ ys, i64 b) :
    Calls Try.prog 9 #[.slice A n c, .slice B m d] w fun e w' => e = .returned (.bool true) ∧ Below w.heap.size w w' := by
  obtain ⟨i0, hi, hz0, hz1, hz2⟩ := info_parts u8_info
  have HS := Lib.hid h
  have HT := Lib.hid h2
  have hxb : ∀ b ∈ zs.take 30, byteI b := fun b hb => hz b (List.mem_of_mem_take hb)
  have hnb : ∀ b ∈ ys.take 10, i64 b := fun b hb => hy b (List.mem_of_mem_take hb)
  have hxl : (zs.take 30).length = min n 30 := by rw [List.length_take, h.len]; omega
  have hnl : (ys.take 10).length = min m 10 := by rw [List.length_take, h2.len]; omega
  clear h h2 hz hy
  go_enter Try.func9, Try.ntmps9
  go_wp2_with fail
  refine (few_any A n c 30 zs _ (by omega) hn hc HS.out hA).mono ?_
  rintro e w1 ⟨v, rfl, hown1, hb1⟩
  obtain ⟨A1, c1, rfl, hn1, hc1, hA1, hsl1⟩ := own_sl (k := .u8) hown1
  obtain ⟨xs, hxs⟩ : ∃ xs, xs = zs.take 30 := ⟨_, rfl⟩
  obtain ⟨N1, hN1⟩ : ∃ N, N = min n 30 := ⟨_, rfl⟩
  rw [← hxs] at hown1 hsl1 hxb hxl
  rw [← hN1] at hown1 hsl1 hn1 hxl ⊢
  have hN30 : N1 ≤ 30 := by omega
  have O1 := Lib.hid hown1
  have S1 := Lib.hid hsl1
  have XB := Lib.hid hxb
  have XL := Lib.hid hxl
  have B1 := Lib.hid hb1
  clear hown1 hsl1 hxb hxl hb1 hxs hN1
  go_wp2_with fail
  refine (ints_any B m d 10 ys _ (by omega) hm hd ((HT.out.below B1.out).more B1.out.size) hB).mono ?_
  rintro e w2 ⟨v, rfl, hown2, hb2⟩
  obtain ⟨A2, c2, rfl, hn2, hc2, hA2, hsl2⟩ := own_sl (k := .i64) hown2
  obtain ⟨ns, hns⟩ : ∃ ns, ns = ys.take 10 := ⟨_, rfl⟩
  obtain ⟨N2, hN2⟩ : ∃ N, N = min m 10 := ⟨_, rfl⟩
  rw [← hns] at hown2 hsl2 hnb hnl
  rw [← hN2] at hown2 hsl2 hn2 hnl ⊢
  have hN10 : N2 ≤ 10 := by omega
  have hsz12 : w1.heap.size ≤ w2.heap.size := hb2.size
  have O2 := Lib.hid hown2
  have O12 := Lib.hid (ownsRow_below' O1.out hb2)
  have S12 := Lib.hid ((S1.out.below hb2).more hb2.size)
  have S2 := Lib.hid hsl2
  have NB := Lib.hid hnb
  have NL := Lib.hid hnl
  have B2 := Lib.hid (B1.out.trans (hb2.mono B1.out.size))
  have HNS := Lib.hid hns
  have HN2 := Lib.hid hN2
  clear hown2 hsl2 hnb hnl hb2 hns hN2
  -- the writer
  have hal : Below w2.heap.size w2 (w2.alloc (.cells #[.slice none 0 0] 32)) := (Below.refl _ _).alloc (Nat.le_refl _) _
  go_wp2_with fail
  refine (w_raw w2.heap.size [] A1 N1 c1 xs _ (Wr.new w2) (S12.out.below hal) hA1 (by simp; omega)).mono ?_
  rintro e w3 ⟨rfl, h3, hb3⟩
  have Q3 := Lib.hid (hal.trans hb3)
  have W3 := Lib.hid h3
  have hrl := encR_len xs (by rw [XL.out]; omega)
  rw [XL.out] at hrl
  clear h3 hb3 hal
  go_wp2_with fail
  refine (w_ints w2.heap.size _ A2 N2 c2 ns _ W3.out (S2.out.below Q3.out) NB.out (by rw [List.nil_append]; omega)).mono ?_
  rintro e w4 ⟨rfl, h4, hb4⟩
  obtain ⟨bs, hbs⟩ : ∃ bs, bs = [] ++ encR xs ++ encL ns := ⟨_, rfl⟩
  have hll := encL_len ns (by rw [NL.out]; omega) NB.out
  rw [NL.out] at hll
  have hbl : bs.length ≤ 1000 := by rw [hbs, List.nil_append, List.length_append]; omega
  have hbb : ∀ b ∈ bs, byteI b := by
    intro b hb
    rw [hbs, List.nil_append] at hb
    rcases List.mem_append.1 hb with hb | hb
    · exact encR_byte xs XB.out b hb
    · exact encL_byte ns NB.out b hb
  rw [← hbs] at h4
  have HBS := Lib.hid hbs
  have HBB := Lib.hid hbb
  have Q4 := Lib.hid (Q3.out.trans hb4)
  have W4 := Lib.hid h4.bound
  obtain ⟨L, hL⟩ : ∃ L, L = bs.length := ⟨_, rfl⟩
  have HL := Lib.hid hL
  rw [← hL] at hbl
  clear h4 hb4 hbs hbb hll hrl hL
  go_wp2_with fail
  refine (w_done w2.heap.size bs _ W4.out.wr (by rw [← HL.out]; omega)).mono ?_
  rintro e w5 ⟨v, rfl, hown5, hb5⟩
  rw [← HL.out] at hown5
  obtain ⟨A5, c5, rfl, hn5, hc5, hA5, hsl5⟩ := own_sl (k := .u8) hown5
  have O5 := Lib.hid hown5
  have S5 := Lib.hid hsl5
  have W5 := Lib.hid (W4.out.below hb5)
  have Q5 := Lib.hid (Q4.out.trans (hb5.mono Q4.out.size))
  have hsz24 := Q4.out.size
  have hsz45 := hb5.size
  clear hown5 hsl5 hb5
  have hal5 : Below w5.heap.size w5 (w5.alloc (.cells #[] 5)) := (Below.refl _ _).alloc (Nat.le_refl _) _
  have hr1 : 0 + L ≤ maxLen := by unfold maxLen; omega
  have hr2 : (0 + L) * 1 ≤ 140737488355328 := by omega
  have E1 := Lib.hid (show [] ++ bs.map (Value.int .u8) = cB bs from rfl)
  go_wp2_with (at_builtin; refine wpList_append_sl rfl _ _ _ rfl w5.heap.size 5 i0 _ 1 Try.underlying24 hi hz0 hz1 hz2 rfl _ 0 [] rfl (World.ownsRow_made w5 #[] 0 (Nat.le_refl _) (Nat.zero_le _) rfl) .u8 w5.heap.size A5 L c5 bs rfl (S5.out.below hal5) hA5 hr1 hr2 (by simp) ?_; intro v6 w6 hown6 hg6; rw [E1.out, Nat.zero_add] at hown6; have hb6 := hal5.grown hg6 (by simp) (by intro k hk; have hk' : some w5.heap.size = some k := hk; injection hk' with hk'; omega); clear hg6; obtain ⟨A6, c6, rfl, hn6, hc6, hA6, hsl6⟩ := own_sl (k := .u8) hown6)
  have O6 := Lib.hid hown6
  have O56 := Lib.hid (ownsRow_below' O5.out hb6)
  have W6 := Lib.hid (W5.out.below hb6)
  have Q6 := Lib.hid (Q5.out.trans (hb6.mono Q5.out.size))
  have O26 := Lib.hid (ownsRow_below' O2.out Q6.out)
  have O16 := Lib.hid (ownsRow_below' O12.out Q6.out)
  have B6 := Lib.hid (B2.out.trans (Q6.out.mono B2.out.size))
  have hsz56 := hb6.size
  have hw01 := B1.out.size
  have LO1 := Lib.hid (own_lo O1.out)
  have HI1 := Lib.hid (own_hi O1.out)
  have LO2 := Lib.hid (own_lo O2.out)
  have HI2 := Lib.hid (own_hi O2.out)
  have LO5 := Lib.hid (own_lo O5.out)
  have HI5 := Lib.hid (own_hi O5.out)
  have LO6 := Lib.hid (own_lo O6.out)
  clear hown6 hsl6 hb6 hal5
  -- loop 1
  go_loopw [10] (fun i wr => ∃ k : Nat, k ≤ N1 ∧ i = .int .i64 k ∧ StoreRel w6 wr w.heap.size 5 A1 N1 c1) (fun i _ => N1 - (intOf i).toNat)
  case atStart => exact ⟨0, Nat.zero_le _, rfl, _, O16.out, World.grownBy.refl _ _⟩
  case round =>
    obtain ⟨k, hk, rfl, hst⟩ := hrel
    by_cases hlt : k < N1
    · obtain ⟨g, u, rfl, hcell, hfro, hnext⟩ := store_step hst hlt (.int .u8 7)
      have HX := Lib.hid hnext
      clear hnext hst
      go_wp2_with fail
      go_roundw
      case rel => exact ⟨k + 1, by omega, by go_num, HX.out⟩
      case measure => simp [intOf]; omega
    obtain rfl : k = N1 := by omega
    obtain ⟨xs7, hown7, hg7⟩ := hst
    rename World => w7
    have O27 := Lib.hid (own_apart O26.out hg7 (fun g hg => HI1.out g hg))
    have O57 := Lib.hid (own_apart O56.out hg7 (fun g hg => by have := HI1.out g hg; omega))
    have O67 := Lib.hid (own_apart O6.out hg7 (fun g hg => by have := HI1.out g hg; omega))
    have W7 := Lib.hid (W6.out.kept hg7 (fun g hg => by have := HI1.out g hg; omega))
    have B7 := Lib.hid (below_row B6.out hg7 B6.out.size (fun g hg => LO1.out g hg))
    have hsz67 := hg7.size
    clear hown7 hg7
    go_wp2_with fail
    -- loop 2
    go_loopw [11] (fun i wr => ∃ k : Nat, k ≤ N2 ∧ i = .int .i64 k ∧ StoreRel w7 wr w1.heap.size 3 A2 N2 c2) (fun i _ => N2 - (intOf i).toNat)
    case atStart => exact ⟨0, Nat.zero_le _, rfl, _, O27.out, World.grownBy.refl _ _⟩
    case round =>
      obtain ⟨k, hk, rfl, hst⟩ := hrel
      by_cases hlt : k < N2
      · obtain ⟨g, u, rfl, hcell, hfro, hnext⟩ := store_step hst hlt (.int .i64 7)
        have HX := Lib.hid hnext
        clear hnext hst
        go_wp2_with fail
        go_roundw
        case rel => exact ⟨k + 1, by omega, by go_num, HX.out⟩
        case measure => simp [intOf]; omega
      obtain rfl : k = N2 := by omega
      obtain ⟨xs8, hown8, hg8⟩ := hst
      rename World => w8
      have O58 := Lib.hid (own_apart O57.out hg8 (fun g hg => by have := HI2.out g hg; omega))
      have O68 := Lib.hid (own_apart O67.out hg8 (fun g hg => by have := HI2.out g hg; omega))
      have W8 := Lib.hid (W7.out.kept hg8 (fun g hg => by have := HI2.out g hg; omega))
      have B8 := Lib.hid (below_row B7.out hg8 B7.out.size (fun g hg => by have := LO2.out g hg; omega))
      have hsz78 := hg8.size
      clear hown8 hg8
      go_wp2_with fail
      -- loop 3
      go_loopw [12] (fun i wr => ∃ k : Nat, k ≤ L ∧ i = .int .i64 k ∧ StoreRel w8 wr w4.heap.size 5 A5 L c5) (fun i _ => L - (intOf i).toNat)
      case atStart => exact ⟨0, Nat.zero_le _, rfl, _, O58.out, World.grownBy.refl _ _⟩
      case round =>
        obtain ⟨k, hk, rfl, hst⟩ := hrel
        by_cases hlt : k < L
        · obtain ⟨g, u, rfl, hcell, hfro, hnext⟩ := store_step hst hlt (.int .u8 9)
          have HX := Lib.hid hnext
          clear hnext hst
          go_wp2_with fail
          go_roundw
          case rel => exact ⟨k + 1, by omega, by go_num, HX.out⟩
          case measure => simp [intOf]; omega
        obtain rfl : k = L := by omega
        obtain ⟨xs9, hown9, hg9⟩ := hst
        rename World => w9
        have O69 := Lib.hid (own_apart O68.out hg9 (fun g hg => HI5.out g hg))
        have W9 := Lib.hid (W8.out.kept hg9 (fun g hg => .inr (LO5.out g hg)))
        have B9 := Lib.hid (below_row B8.out hg9 B8.out.size (fun g hg => by have := LO5.out g hg; omega))
        have hsz89 := hg9.size
        clear hown9 hg9
        go_wp2_with fail
        refine (w_done w2.heap.size bs _ W9.out.wr (by rw [← HL.out]; omega)).mono ?_
        rintro e w10 ⟨v, rfl, hown10, hb10⟩
        rw [← HL.out] at hown10
        obtain ⟨A10, c10, rfl, _, _, _, hsl10⟩ := own_sl (k := .u8) hown10
        have O610 := Lib.hid (ownsRow_below' O69.out hb10)
        have B10 := Lib.hid (B9.out.trans (hb10.mono B9.out.size))
        have S10 := Lib.hid hsl10
        have hs6 : Sl .u8 w10 w10.heap.size A6 k bs := by
          obtain ⟨A', c', hv, _, _, _, hs⟩ := own_sl (k := .u8) O610.out
          cases hv
          exact hs
        have S610 := Lib.hid hs6
        have hsz910 := hb10.size
        clear hown10 hsl10 hb10 hs6
        go_wp2_with fail
        refine (sameBytes A10 A6 k c10 c6 bs bs _ (by unfold maxLen; omega) S10.out S610.out).mono ?_
        rintro e w11 ⟨rfl, qd, rfl⟩
        have hdt : decide (bs = bs) = true := by simp
        rw [hdt]
        clear hdt
        have hal11 : Below (w10.drewN qd).heap.size (w10.drewN qd) ((w10.drewN qd).alloc (.cells #[] 5)) := (Below.refl _ _).alloc (Nat.le_refl _) _
        have S11 := Lib.hid (S610.out.drewN qd)
        have B11 := Lib.hid (below_drewN B10.out qd)
        have hq : (w10.drewN qd).heap.size = w10.heap.size := rfl
        have HQ := Lib.hid hq
        clear hq
        go_wp2_with (at_builtin; refine wpList_append_sl rfl _ _ _ rfl w10.heap.size 5 i0 _ 1 Try.underlying24 hi hz0 hz1 hz2 rfl _ 0 [] rfl (World.ownsRow_made (w10.drewN qd) #[] 0 (Nat.le_refl _) (Nat.zero_le _) rfl) .u8 w10.heap.size A6 k c6 bs rfl (S11.out.below hal11) hA6 hr1 hr2 (by simp) ?_; intro v12 w12 hown12 hg12; rw [E1.out, Nat.zero_add] at hown12; have hb12 := hal11.grown hg12 (by simp) (by intro k' hk; have hk' : some w10.heap.size = some k' := hk; injection hk' with hk'; have := HQ.out; omega); clear hg12; obtain ⟨A12, c12, rfl, hn12, hc12, hA12, hsl12⟩ := own_sl (k := .u8) hown12)
        have O12' := Lib.hid hown12
        have S12' := Lib.hid hsl12
        have B12 := Lib.hid (B11.out.trans (hb12.mono B11.out.size))
        have hsz1012 : w10.heap.size ≤ w12.heap.size := hb12.size
        clear hown12 hsl12 hb12 hal11
        go_wp2_with fail
        refine (r_read' A12 k c12 bs _ S12'.out hA12 (by omega)).mono ?_
        rintro e w13 ⟨p2, A13, c13, rfl, hp2, hblk13, hown13, hb13⟩
        have K13 := Lib.hid hblk13
        have O13 := Lib.hid hown13
        have O1213 := Lib.hid (ownsRow_below' O12'.out hb13)
        have B13 := Lib.hid (B12.out.trans (hb13.mono B12.out.size))
        have LO12 := Lib.hid (own_lo O12'.out)
        have HI12 := Lib.hid (own_hi O12'.out)
        have hsz1213 := hb13.size
        clear hblk13 hown13 hb13
        go_wp2_with fail
        -- loop 4
        go_loopw [15] (fun i wr => ∃ j : Nat, j ≤ k ∧ i = .int .i64 j ∧ StoreRel w13 wr w10.heap.size 5 A12 k c12) (fun i _ => k - (intOf i).toNat)
        case atStart => exact ⟨0, Nat.zero_le _, rfl, _, O1213.out, World.grownBy.refl _ _⟩
        case round =>
          obtain ⟨j, hj, rfl, hst⟩ := hrel
          by_cases hlt : j < k
          · obtain ⟨g, u, rfl, hcell, hfro, hnext⟩ := store_step hst hlt (.int .u8 255)
            have HX := Lib.hid hnext
            clear hnext hst
            go_wp2_with fail
            go_roundw
            case rel => exact ⟨j + 1, by omega, by go_num, HX.out⟩
            case measure => simp [intOf]; omega
          obtain rfl : j = k := by omega
          obtain ⟨xs14, hown14, hg14⟩ := hst
          rename World => w14
          have O14 := Lib.hid (own_apart O13.out hg14 (fun g hg => HI12.out g hg))
          have K14 := Lib.hid (K13.out.grown hg14 (fun e => by have := HI12.out p2 e.symm; omega))
          have B14 := Lib.hid (below_row B13.out hg14 B13.out.size (fun g hg => by have := LO12.out g hg; omega))
          have R14 := Lib.hid (rd_of K14.out O14.out HBB.out)
          have hp14 := R14.out.lt
          clear hown14 hg14
          go_wp2_with fail
          refine (r_raw p2 _ _ _ R14.out (by simp only; rw [← HL.out]; omega)).mono ?_
          rw [HBS.out, List.nil_append, rdL_O xs (encL ns) (by rw [XL.out]; omega)]
          rintro e w15 ⟨v, rfl, hown15, R15', hg15⟩
          obtain ⟨A15, c15, rfl, _, _, _, _⟩ := own_sl (k := .u8) hown15
          obtain ⟨M, hM⟩ : ∃ M, M = xs.length := ⟨_, rfl⟩
          have hM30 : M ≤ 30 := by rw [hM, XL.out]; omega
          have O15 := Lib.hid hown15
          have R15 := Lib.hid R15'
          have B15 := Lib.hid (below_grown1 B14.out hg15 B14.out.size (by have := B13.out.size; omega))
          have LO15 := Lib.hid (own_lo hown15)
          simp only at hown15
          rw [← hM] at O15 LO15 ⊢
          have hsz1415 := hg15.size
          clear hown15 R15' hg15 hM
          go_wp2_with fail
          -- loop 5
          go_loopw [17] (fun i wr => ∃ j : Nat, j ≤ M ∧ i = .int .i64 j ∧ StoreRel w15 wr w14.heap.size 5 A15 M c15) (fun i _ => M - (intOf i).toNat)
          case atStart => exact ⟨0, Nat.zero_le _, rfl, _, O15.out, World.grownBy.refl _ _⟩
          case round =>
            obtain ⟨q, hq', rfl, hst⟩ := hrel
            by_cases hlt : q < M
            · obtain ⟨g, u, rfl, hcell, hfro, hnext⟩ := store_step hst hlt (.int .u8 1)
              have HX := Lib.hid hnext
              clear hnext hst
              go_wp2_with fail
              go_roundw
              case rel => exact ⟨q + 1, by omega, by go_num, HX.out⟩
              case measure => simp [intOf]; omega
            obtain rfl : q = M := by omega
            obtain ⟨xs16, hown16, hg16⟩ := hst
            rename World => w16
            have R16 := Lib.hid (Rd.apart R15.out hg16 hp14 (fun g hg => LO15.out g hg))
            have B16 := Lib.hid (below_row B15.out hg16 B15.out.size (fun g hg => by have := LO15.out g hg; have := B14.out.size; omega))
            clear hown16 hg16
            go_wp2_with fail
            refine (r_ints p2 _ _ _ R16.out (by simp only; have := encL_len ns (by rw [NL.out]; omega) NB.out; rw [NL.out] at this; omega)).mono ?_
            have hrt := rdL_I ns [] (by rw [NL.out]; omega) NB.out
            rw [List.append_nil] at hrt
            rw [hrt]
            clear hrt
            rintro e w17 ⟨v, rfl, hown17, R17', hg17⟩
            simp only at hown17 R17'
            rw [NL.out] at hown17
            obtain ⟨A17, c17, rfl, _, _, _, hsl17⟩ := own_sl (k := .i64) hown17
            have S17 := Lib.hid hsl17
            have R17 := Lib.hid R17'
            have B17 := Lib.hid (below_grown1 B16.out hg17 B16.out.size (by have := B13.out.size; omega))
            clear hown17 hsl17 R17' hg17
            go_wp2_with fail
            refine (ints_any B m d 10 ys _ (by omega) hm hd ((HT.out.below B17.out).more B17.out.size) hB).mono ?_
            rintro e w18 ⟨v, rfl, hown18, hb18⟩
            rw [← HNS.out, ← HN2.out] at hown18
            obtain ⟨A18, c18, rfl, _, _, _, hsl18⟩ := own_sl (k := .i64) hown18
            have S18 := Lib.hid hsl18
            have S178 := Lib.hid ((S17.out.below hb18).more hb18.size)
            have R18 := Lib.hid (Rd.below R17.out hb18)
            have B18 := Lib.hid (B17.out.trans (hb18.mono B17.out.size))
            clear hown18 hsl18 hb18
            go_wp2_with fail
            refine (sameInts A17 A18 _ c17 c18 ns ns _ (by unfold maxLen; omega) S178.out S18.out).mono ?_
            rintro e w19 ⟨rfl, qe, rfl⟩
            have hdt : decide (ns = ns) = true := by simp
            rw [hdt]
            clear hdt
            have R19 := Lib.hid (Rd.drewN R18.out qe)
            have B19 := Lib.hid (below_drewN B18.out qe)
            go_wp2_with fail
            refine (r_end p2 _ _ _ R19.out (by simp)).mono ?_
            rintro e w20 ⟨rfl, rfl⟩
            go_wp2_with fail
            refine (lives_any _).mono ?_
            rintro e w21 ⟨rfl, hb21⟩
            go_wp2_with fail
            go_ret
            exact ⟨rfl, B19.out.trans (hb21.mono B19.out.size)⟩
end Go.Proofs.Ytjnjglkmabnlfaa
