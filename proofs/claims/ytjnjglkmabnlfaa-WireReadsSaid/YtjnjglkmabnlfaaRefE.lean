/- The reference's encodings: Raw, Ints, Encode. -/
import Derived.Test.YtjnjglkmabnlfaaRefU
namespace Go.Proofs.Ytjnjglkmabnlfaa
open Go.RowKit
set_option linter.unusedVariables false

set_option maxHeartbeats 1000000 in
theorem ref_raw (A : Option Addr) (m c : Nat) (zs : List Int) (w : World) (h : Sl .u8 w w.heap.size A m zs) (hA : A = none → c = 0) (hm : m ≤ 1000000) :
    Calls Try.prog 43 #[.slice A m c] w fun e w' => OwnB w w' e (encR zs) := by
  obtain ⟨i0, hi, hz0, hz1, hz2⟩ := info_parts u8_info
  have hu : u64 (m : Int) := by unfold u64; omega
  have hlm := encU_len (m : Int) hu
  obtain ⟨L, hL⟩ : ∃ L : Nat, L = (encU (m : Int)).length := ⟨_, rfl⟩
  rw [← hL] at hlm
  have HL := Lib.hid hL
  have HE := Lib.hid (show encR zs = encU (m : Int) ++ zs by rw [encR, h.len])
  have HZ := Lib.hid h.len
  have HS := Lib.hid h
  clear h hL
  go_enter Try.func43, Try.ntmps43
  go_wp2_with fail
  refine (ref_uint (m : Int) _ hu).mono ?_
  rintro e w1 ⟨v, rfl, hown, hb⟩
  rw [← HL.out] at hown
  obtain ⟨A1, c1, rfl, hnc, hcm⟩ := own_shape hown
  have hs1 := HS.out.below hb
  have hr1 : L + m ≤ maxLen := by unfold maxLen; omega
  have hr2 : (L + m) * 1 ≤ 140737488355328 := by omega
  have hsz := hb.size
  have hlo := fun g hg => (hown.lt g hg).1
  have HLO := Lib.hid hlo
  have BB := Lib.hid hb
  have E1 := Lib.hid (show cB (encU (m : Int)) ++ zs.map (Value.int .u8) = cB (encU (m : Int) ++ zs) from cB_app _ _)
  clear hlo hb
  go_wp2_with (at_builtin; refine wpList_append_sl rfl _ _ _ rfl w.heap.size 5 i0 _ 1 Try.underlying24 hi hz0 hz1 hz2 rfl _ L (cB (encU (m : Int))) rfl hown .u8 w.heap.size A m c zs rfl hs1 hA hr1 hr2 (by omega) ?_; intro v2 w2 hown2 hg2; rw [E1.out] at hown2; have hb2 := below_row BB.out hg2 hsz HLO.out; have HO := Lib.hid hown2; have HB := Lib.hid hb2; clear hown2 hg2 hb2)
  go_ret
  refine ⟨_, rfl, ?_, HB.out⟩
  rw [HE.out, List.length_append, ← HL.out, HZ.out]; exact HO.out

theorem take_flat' (zs : List Int) (k : Nat) (h : k < zs.length) : (zs.take (k + 1)).flatMap (fun n => encU (zig n)) = (zs.take k).flatMap (fun n => encU (zig n)) ++ encU (zig zs[k]) := take_flat _ zs k h

set_option maxHeartbeats 2000000 in
theorem ref_ints (A : Option Addr) (m c : Nat) (zs : List Int) (w : World) (h : Sl .i64 w w.heap.size A m zs) (hz : ∀ n ∈ zs, i64 n) (hm : m ≤ 10000) :
    Calls Try.prog 44 #[.slice A m c] w fun e w' => OwnB w w' e (encL zs) := by
  obtain ⟨i0, hi, hz0, hz1, hz2⟩ := info_parts u8_info
  have hu : u64 (m : Int) := by unfold u64; omega
  have hlm := encU_len (m : Int) hu
  have HE := Lib.hid (show encL zs = encU (m : Int) ++ zs.flatMap (fun n => encU (zig n)) by rw [encL, h.len])
  have HZ := Lib.hid h.len
  have HS := Lib.hid h
  have HI := Lib.hid hz
  have HLM := Lib.hid hlm
  clear h hz hlm
  go_enter Try.func44, Try.ntmps44
  go_wp2_with fail
  refine (ref_uint (m : Int) _ hu).mono ?_
  rintro e w1 ⟨v, rfl, hown, hb⟩
  have HO := Lib.hid hown
  have HB := Lib.hid hb
  clear hown hb
  go_wp2_with fail
  go_loopw [3, 4] (fun o i wr => ∃ (k : Nat) (xs : List Int), k ≤ m ∧ i = .int .i64 k ∧ Hid (xs = encU (m : Int) ++ (zs.take k).flatMap (fun n => encU (zig n))) ∧ wr.ownsRow w.heap.size 5 1 o xs.length (cB xs) ∧ Below w.heap.size w wr) (fun _ i _ => m - (intOf i).toNat)
  case atStart => exact ⟨0, encU (m : Int), Nat.zero_le _, rfl, by show _ = _; simp, HO.out, HB.out⟩
  case round =>
    obtain ⟨k, xs, hk, rfl, HX, hown, hbel⟩ := hrel
    obtain ⟨A1, c1, rfl, hnc, hcm⟩ := own_shape hown
    have BB := Lib.hid hbel
    have hsz := hbel.size
    by_cases hlt : k < m
    · have hkz : k < zs.length := by rw [HZ.out]; exact hlt
      obtain ⟨b, off, rfl, hb, hcl⟩ := HS.out.at_ (by omega)
      have hcell := (hbel.cell (p := ⟨b, off + k, none⟩) hb).trans (hcl k hlt)
      obtain ⟨x, hx⟩ : ∃ x, x = zs[k] := ⟨_, rfl⟩
      have hx2 : zs[k]?.getD 0 = x := by rw [List.getElem?_eq_getElem hkz, hx]; rfl
      rw [hx2] at hcell
      have hxi : i64 x := by rw [hx]; exact HI.out _ (List.getElem_mem hkz)
      have HXI := Lib.hid hxi
      have HTF := Lib.hid (show (zs.take (k + 1)).flatMap (fun n => encU (zig n)) = (zs.take k).flatMap (fun n => encU (zig n)) ++ encU (zig x) by rw [take_flat' zs k hkz, hx])
      have hxl : xs.length ≤ 10 + 10 * k := by
        have h1 := encL_nil_len (zs.take k) (fun n hn => HI.out n (List.mem_of_mem_take hn))
        have h2 : (zs.take k).length ≤ k := List.length_take_le _ _
        have h3 := HLM.out
        rw [HX.out, List.length_append]; omega
      have hel := encU_len (zig x) (zig_u64 x hxi)
      obtain ⟨M, hM⟩ : ∃ M : Nat, M = (encU (zig x)).length := ⟨_, rfl⟩
      rw [← hM] at hel
      have HM := Lib.hid hM
      clear hcl hx hx2 hxi hkz hbel hM
      go_wp2_with fail
      refine (ref_int x _ HXI.out).mono ?_
      rintro e w2 ⟨v, rfl, hown2, hb2⟩
      rw [← HM.out] at hown2
      obtain ⟨A2, c2, rfl, hn2, hc2, hA2, hs2⟩ := own_sl (k := .u8) hown2
      have hown' := ownsRow_below' hown hb2
      have hr1 : xs.length + M ≤ maxLen := by unfold maxLen; omega
      have hr2 : (xs.length + M) * 1 ≤ 140737488355328 := by omega
      have hlo := fun g hg => (hown'.lt g hg).1
      have HLO := Lib.hid hlo
      have B2 := Lib.hid (BB.out.trans (hb2.mono hsz))
      have hsz2 := B2.out.size
      have E1 := Lib.hid (show cB xs ++ (encU (zig x)).map (Value.int .u8) = cB (xs ++ encU (zig x)) from cB_app _ _)
      have HL1 := Lib.hid (show xs.length + M = (xs ++ encU (zig x)).length by rw [List.length_append, HM.out])
      have S2 := Lib.hid hs2
      clear hlo hown2 hb2 hown hs2 hcell
      go_wp2_with (at_builtin; refine wpList_append_sl rfl _ _ _ rfl w.heap.size 5 i0 _ 1 Try.underlying24 hi hz0 hz1 hz2 rfl _ xs.length (cB xs) rfl hown' .u8 w2.heap.size A2 M c2 (encU (zig x)) rfl S2.out hA2 hr1 hr2 (by omega) ?_; intro v3 w3 hown3 hg3; rw [E1.out, HL1.out] at hown3; have hb3 := below_row B2.out hg3 hsz2 HLO.out; have HO3 := Lib.hid hown3; have HB3 := Lib.hid hb3; clear hown3 hg3 hb3)
      first
        | (go_roundw
           case rel => exact ⟨k + 1, xs ++ encU (zig x), by omega, by go_num, (by show _ = _; rw [HX.out, HTF.out, List.append_assoc]), HO3.out, HB3.out⟩
           case measure => simp [intOf]; omega)
        | exact ⟨⟨k + 1, xs ++ encU (zig x), by omega, by go_num, (by show _ = _; rw [HX.out, HTF.out, List.append_assoc]), HO3.out, HB3.out⟩, by simp [intOf]; omega⟩
    · obtain rfl : k = m := by omega
      have HO2 := Lib.hid hown
      clear hown hbel
      go_wp2_with fail
      go_ret
      have e : encL zs = xs := by rw [HE.out, HX.out, List.take_of_length_le (by rw [HZ.out]; omega)]
      exact ⟨_, rfl, by rw [e]; exact HO2.out, BB.out⟩
end Go.Proofs.Ytjnjglkmabnlfaa
