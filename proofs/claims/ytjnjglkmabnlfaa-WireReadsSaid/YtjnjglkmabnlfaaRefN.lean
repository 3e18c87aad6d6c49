/- The reference's Encode. -/
import Derived.Test.YtjnjglkmabnlfaaRefE
namespace Go.Proofs.Ytjnjglkmabnlfaa
open Go.RowKit
set_option linter.unusedVariables false

set_option maxHeartbeats 4000000 in
theorem ref_encode (A : Option Addr) (n c m : Nat) (vs : List V) (w : World) (h : SlV w w.heap.size A n vs) (hn : n ≤ 20) (hc : n ≤ c) (hm : m ≤ 10000) (hz : ∀ v ∈ vs, Vsz m v) :
    Calls Try.prog 17 #[.slice A n c] w fun e w' => OwnB w w' e (encVs vs) := by
  obtain ⟨i0, hi, hz0, hz1, hz2⟩ := info_parts u8_info
  have HS := Lib.hid h
  have HL := Lib.hid h.len
  have HZ := Lib.hid hz
  clear h hz
  go_enter Try.func17, Try.ntmps17
  go_wp2_with fail
  go_loopw [3, 4] (fun o i wr => ∃ (k : Nat) (xs : List Int), k ≤ n ∧ i = .int .i64 k ∧ Hid (xs = encVs (vs.take k)) ∧ wr.ownsRow w.heap.size 5 1 o xs.length (cB xs) ∧ Below w.heap.size w wr) (fun _ i _ => n - (intOf i).toNat)
  case atStart => exact ⟨0, [], Nat.zero_le _, rfl, rfl, World.ownsRow_nil _ _ _ _, Below.refl _ _⟩
  case round =>
    obtain ⟨k, xs, hk, rfl, HX, hown, hbel⟩ := hrel
    obtain ⟨A1, c1, rfl, hnc, hcm⟩ := own_shape hown
    have BB := Lib.hid hbel
    have hsz := hbel.size
    by_cases hlt : k < n
    · have hkv : k < vs.length := by rw [HL.out]; exact hlt
      obtain ⟨g, Ab, cb, Al, cl, rfl, hg, hvok, k0, k1, k2, k3, k4⟩ := (HS.out.below hbel).at_ k hlt hkv
      have hvz := HZ.out vs[k] (List.getElem_mem hkv)
      have htk := encVs_take vs k hkv
      have hxl : xs.length ≤ k * (m + 10) := by
        have := encVs_take_len m vs k HZ.out
        rw [← HX.out] at this; exact this
      have hxl2 : k * (m + 10) ≤ 20 * 10010 := Nat.mul_le_mul (by omega) (by omega)
      obtain ⟨v, hv⟩ : ∃ v, v = vs[k] := ⟨_, rfl⟩
      rw [← hv] at hvok k0 k1 k2 k3 k4 hvz htk
      have hel := encV_len v hvz.1
      have hvl := hvz.2
      obtain ⟨M, hM⟩ : ∃ M : Nat, M = (encV v).length := ⟨_, rfl⟩
      rw [← hM] at hel
      have hM2 : M ≤ 10010 := by omega
      have HM := Lib.hid hM
      have HTK := Lib.hid htk
      have VO := Lib.hid (hvok.more hsz)
      have hr1 : xs.length + M ≤ maxLen := by unfold maxLen; omega
      have hr2 : (xs.length + M) * 1 ≤ 140737488355328 := by omega
      have hcan := hvz.1
      have hbl : v.b.length ≤ 10000 := by omega
      have hll : v.l.length ≤ 10000 := by omega
      have E1 := Lib.hid (show cB xs ++ (encV v).map (Value.int .u8) = cB (xs ++ encV v) from cB_app _ _)
      have HL1 := Lib.hid (show xs.length + M = (xs ++ encV v).length by rw [List.length_append, HM.out])
      have hgs : g < wr.heap.size := Nat.lt_of_lt_of_le hg hsz
      clear hv htk hvok hvz hbel hxl hxl2 hel hvl hM hkv
      obtain ⟨kk, u, nn, b, l⟩ := v
      rcases hcan with ⟨h1, h2, h3, h4, h5⟩ | ⟨h1, h2, h3, h4, h5⟩ | ⟨h1, h2, h3, h4, h5⟩ | ⟨h1, h2, h3, h4, h6, h5⟩ | ⟨h1, h2, h3, h4, h5, h6⟩
      all_goals simp only at h1 h2 h3 h4 h5 k0 k1 k2 k3 k4
      · have HE := Lib.hid (show encV ⟨kk, u, nn, b, l⟩ = encU u by simp [encV, h1])
        subst h1
        have H2 := Lib.hid h2
        clear h2 h3 h4 h5
        go_wp2_with fail
        refine (ref_uint u _ H2.out).mono ?_
        rintro e w2 ⟨v2, rfl, hown2, hb2⟩
        rw [← HE.out, ← HM.out] at hown2
        obtain ⟨A2, c2, rfl, hn2, hc2, hA2, hs2⟩ := own_sl (k := .u8) hown2
        have hown' := ownsRow_below' hown hb2
        have hlo := fun g hg => (hown'.lt g hg).1
        have HLO := Lib.hid hlo
        have B2 := Lib.hid (BB.out.trans (hb2.mono hsz))
        have hsz2 := B2.out.size
        have S2 := Lib.hid hs2
        clear hlo hown2 hb2 hown hs2 k0 k1 k2 k3 k4
        go_wp2_with (at_builtin; refine wpList_append_sl rfl _ _ _ rfl w.heap.size 5 i0 _ 1 Try.underlying24 hi hz0 hz1 hz2 rfl _ xs.length (cB xs) rfl hown' .u8 w2.heap.size A2 M c2 (encV ⟨0, u, nn, b, l⟩) rfl S2.out hA2 hr1 hr2 (by omega) ?_; intro v3 w3 hown3 hg3; rw [E1.out, HL1.out] at hown3; have hb3 := below_row B2.out hg3 hsz2 HLO.out; have HO3 := Lib.hid hown3; have HB3 := Lib.hid hb3; clear hown3 hg3 hb3)
        first
          | (go_roundw
             case rel => exact ⟨k + 1, xs ++ encV ⟨0, u, nn, b, l⟩, by omega, by go_num, (by show _ = _; rw [HX.out, HTK.out]), HO3.out, HB3.out⟩
             case measure => simp [intOf]; omega)
          | exact ⟨⟨k + 1, xs ++ encV ⟨0, u, nn, b, l⟩, by omega, by go_num, (by show _ = _; rw [HX.out, HTK.out]), HO3.out, HB3.out⟩, by simp [intOf]; omega⟩
      · have HE := Lib.hid (show encV ⟨kk, u, nn, b, l⟩ = encU (zig nn) by simp [encV, h1])
        subst h1
        have H3 := Lib.hid h3
        clear h2 h3 h4 h5
        go_wp2_with fail
        refine (ref_int nn _ H3.out).mono ?_
        rintro e w2 ⟨v2, rfl, hown2, hb2⟩
        rw [← HE.out, ← HM.out] at hown2
        obtain ⟨A2, c2, rfl, hn2, hc2, hA2, hs2⟩ := own_sl (k := .u8) hown2
        have hown' := ownsRow_below' hown hb2
        have hlo := fun g hg => (hown'.lt g hg).1
        have HLO := Lib.hid hlo
        have B2 := Lib.hid (BB.out.trans (hb2.mono hsz))
        have hsz2 := B2.out.size
        have S2 := Lib.hid hs2
        clear hlo hown2 hb2 hown hs2 k0 k1 k2 k3 k4
        go_wp2_with (at_builtin; refine wpList_append_sl rfl _ _ _ rfl w.heap.size 5 i0 _ 1 Try.underlying24 hi hz0 hz1 hz2 rfl _ xs.length (cB xs) rfl hown' .u8 w2.heap.size A2 M c2 (encV ⟨1, u, nn, b, l⟩) rfl S2.out hA2 hr1 hr2 (by omega) ?_; intro v3 w3 hown3 hg3; rw [E1.out, HL1.out] at hown3; have hb3 := below_row B2.out hg3 hsz2 HLO.out; have HO3 := Lib.hid hown3; have HB3 := Lib.hid hb3; clear hown3 hg3 hb3)
        first
          | (go_roundw
             case rel => exact ⟨k + 1, xs ++ encV ⟨1, u, nn, b, l⟩, by omega, by go_num, (by show _ = _; rw [HX.out, HTK.out]), HO3.out, HB3.out⟩
             case measure => simp [intOf]; omega)
          | exact ⟨⟨k + 1, xs ++ encV ⟨1, u, nn, b, l⟩, by omega, by go_num, (by show _ = _; rw [HX.out, HTK.out]), HO3.out, HB3.out⟩, by simp [intOf]; omega⟩
      · have HE := Lib.hid (show encV ⟨kk, u, nn, b, l⟩ = [bitI (nn == 1)] by rcases h3 with rfl | rfl <;> simp [encV, h1, bitI])
        subst h1
        clear h2 h3 h4 h5
        go_wp2_with fail
        refine (ref_bool _ _).mono ?_
        rintro e w2 ⟨v2, rfl, hown2, hb2⟩
        rw [← HE.out, ← HM.out] at hown2
        obtain ⟨A2, c2, rfl, hn2, hc2, hA2, hs2⟩ := own_sl (k := .u8) hown2
        have hown' := ownsRow_below' hown hb2
        have hlo := fun g hg => (hown'.lt g hg).1
        have HLO := Lib.hid hlo
        have B2 := Lib.hid (BB.out.trans (hb2.mono hsz))
        have hsz2 := B2.out.size
        have S2 := Lib.hid hs2
        clear hlo hown2 hb2 hown hs2 k0 k1 k2 k3 k4
        go_wp2_with (at_builtin; refine wpList_append_sl rfl _ _ _ rfl w.heap.size 5 i0 _ 1 Try.underlying24 hi hz0 hz1 hz2 rfl _ xs.length (cB xs) rfl hown' .u8 w2.heap.size A2 M c2 (encV ⟨2, u, nn, b, l⟩) rfl S2.out hA2 hr1 hr2 (by omega) ?_; intro v3 w3 hown3 hg3; rw [E1.out, HL1.out] at hown3; have hb3 := below_row B2.out hg3 hsz2 HLO.out; have HO3 := Lib.hid hown3; have HB3 := Lib.hid hb3; clear hown3 hg3 hb3)
        first
          | (go_roundw
             case rel => exact ⟨k + 1, xs ++ encV ⟨2, u, nn, b, l⟩, by omega, by go_num, (by show _ = _; rw [HX.out, HTK.out]), HO3.out, HB3.out⟩
             case measure => simp [intOf]; omega)
          | exact ⟨⟨k + 1, xs ++ encV ⟨2, u, nn, b, l⟩, by omega, by go_num, (by show _ = _; rw [HX.out, HTK.out]), HO3.out, HB3.out⟩, by simp [intOf]; omega⟩
      · have HE := Lib.hid (show encV ⟨kk, u, nn, b, l⟩ = encR b by rcases h1 with rfl | rfl <;> simp [encV])
        clear h2 h3 h4 h5 h6
        rcases h1 with rfl | rfl
        · go_wp2_with fail
          refine (ref_raw Ab b.length cb b _ VO.out.1.1 VO.out.1.2.2.2.1 (by omega)).mono ?_
          rintro e w2 ⟨v2, rfl, hown2, hb2⟩
          rw [← HE.out, ← HM.out] at hown2
          obtain ⟨A2, c2, rfl, hn2, hc2, hA2, hs2⟩ := own_sl (k := .u8) hown2
          have hown' := ownsRow_below' hown hb2
          have hlo := fun g hg => (hown'.lt g hg).1
          have HLO := Lib.hid hlo
          have B2 := Lib.hid (BB.out.trans (hb2.mono hsz))
          have hsz2 := B2.out.size
          have S2 := Lib.hid hs2
          clear hlo hown2 hb2 hown hs2 k0 k1 k2 k3 k4
          go_wp2_with (at_builtin; refine wpList_append_sl rfl _ _ _ rfl w.heap.size 5 i0 _ 1 Try.underlying24 hi hz0 hz1 hz2 rfl _ xs.length (cB xs) rfl hown' .u8 w2.heap.size A2 M c2 (encV ⟨3, u, nn, b, l⟩) rfl S2.out hA2 hr1 hr2 (by omega) ?_; intro v3 w3 hown3 hg3; rw [E1.out, HL1.out] at hown3; have hb3 := below_row B2.out hg3 hsz2 HLO.out; have HO3 := Lib.hid hown3; have HB3 := Lib.hid hb3; clear hown3 hg3 hb3)
          first
            | (go_roundw
               case rel => exact ⟨k + 1, xs ++ encV ⟨3, u, nn, b, l⟩, by omega, by go_num, (by show _ = _; rw [HX.out, HTK.out]), HO3.out, HB3.out⟩
               case measure => simp [intOf]; omega)
            | exact ⟨⟨k + 1, xs ++ encV ⟨3, u, nn, b, l⟩, by omega, by go_num, (by show _ = _; rw [HX.out, HTK.out]), HO3.out, HB3.out⟩, by simp [intOf]; omega⟩
        · go_wp2_with fail
          refine (ref_raw Ab b.length cb b _ VO.out.1.1 VO.out.1.2.2.2.1 (by omega)).mono ?_
          rintro e w2 ⟨v2, rfl, hown2, hb2⟩
          rw [← HE.out, ← HM.out] at hown2
          obtain ⟨A2, c2, rfl, hn2, hc2, hA2, hs2⟩ := own_sl (k := .u8) hown2
          have hown' := ownsRow_below' hown hb2
          have hlo := fun g hg => (hown'.lt g hg).1
          have HLO := Lib.hid hlo
          have B2 := Lib.hid (BB.out.trans (hb2.mono hsz))
          have hsz2 := B2.out.size
          have S2 := Lib.hid hs2
          clear hlo hown2 hb2 hown hs2 k0 k1 k2 k3 k4
          go_wp2_with (at_builtin; refine wpList_append_sl rfl _ _ _ rfl w.heap.size 5 i0 _ 1 Try.underlying24 hi hz0 hz1 hz2 rfl _ xs.length (cB xs) rfl hown' .u8 w2.heap.size A2 M c2 (encV ⟨4, u, nn, b, l⟩) rfl S2.out hA2 hr1 hr2 (by omega) ?_; intro v3 w3 hown3 hg3; rw [E1.out, HL1.out] at hown3; have hb3 := below_row B2.out hg3 hsz2 HLO.out; have HO3 := Lib.hid hown3; have HB3 := Lib.hid hb3; clear hown3 hg3 hb3)
          first
            | (go_roundw
               case rel => exact ⟨k + 1, xs ++ encV ⟨4, u, nn, b, l⟩, by omega, by go_num, (by show _ = _; rw [HX.out, HTK.out]), HO3.out, HB3.out⟩
               case measure => simp [intOf]; omega)
            | exact ⟨⟨k + 1, xs ++ encV ⟨4, u, nn, b, l⟩, by omega, by go_num, (by show _ = _; rw [HX.out, HTK.out]), HO3.out, HB3.out⟩, by simp [intOf]; omega⟩
      · have HE := Lib.hid (show encV ⟨kk, u, nn, b, l⟩ = encL l by simp [encV, h1])
        subst h1
        have H6 := Lib.hid h6
        clear h2 h3 h4 h5 h6
        go_wp2_with fail
        refine (ref_ints Al l.length cl l _ VO.out.2.1 H6.out (by omega)).mono ?_
        rintro e w2 ⟨v2, rfl, hown2, hb2⟩
        rw [← HE.out, ← HM.out] at hown2
        obtain ⟨A2, c2, rfl, hn2, hc2, hA2, hs2⟩ := own_sl (k := .u8) hown2
        have hown' := ownsRow_below' hown hb2
        have hlo := fun g hg => (hown'.lt g hg).1
        have HLO := Lib.hid hlo
        have B2 := Lib.hid (BB.out.trans (hb2.mono hsz))
        have hsz2 := B2.out.size
        have S2 := Lib.hid hs2
        clear hlo hown2 hb2 hown hs2 k0 k1 k2 k3 k4
        go_wp2_with (at_builtin; refine wpList_append_sl rfl _ _ _ rfl w.heap.size 5 i0 _ 1 Try.underlying24 hi hz0 hz1 hz2 rfl _ xs.length (cB xs) rfl hown' .u8 w2.heap.size A2 M c2 (encV ⟨5, u, nn, b, l⟩) rfl S2.out hA2 hr1 hr2 (by omega) ?_; intro v3 w3 hown3 hg3; rw [E1.out, HL1.out] at hown3; have hb3 := below_row B2.out hg3 hsz2 HLO.out; have HO3 := Lib.hid hown3; have HB3 := Lib.hid hb3; clear hown3 hg3 hb3)
        first
          | (go_roundw
             case rel => exact ⟨k + 1, xs ++ encV ⟨5, u, nn, b, l⟩, by omega, by go_num, (by show _ = _; rw [HX.out, HTK.out]), HO3.out, HB3.out⟩
             case measure => simp [intOf]; omega)
          | exact ⟨⟨k + 1, xs ++ encV ⟨5, u, nn, b, l⟩, by omega, by go_num, (by show _ = _; rw [HX.out, HTK.out]), HO3.out, HB3.out⟩, by simp [intOf]; omega⟩
    · obtain rfl : k = n := by omega
      have HO2 := Lib.hid hown
      clear hown hbel
      go_wp2_with fail
      go_ret
      have e : encVs vs = xs := by rw [HX.out, List.take_of_length_le (by rw [HL.out]; omega)]
      exact ⟨_, rfl, by rw [e]; exact HO2.out, BB.out⟩
end Go.Proofs.Ytjnjglkmabnlfaa
