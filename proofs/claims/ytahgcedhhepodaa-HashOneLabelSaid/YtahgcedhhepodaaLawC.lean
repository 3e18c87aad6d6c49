/- The law HashOneGroup: its walk. -/
import Derived.Test.YtahgcedhhepodaaLawA
import Derived.Test.YtahgcedhhepodaaInjB
import Derived.Laws.BitsAllLaws
namespace Go.Proofs.Ytahgcedhhepodaa
open Go.RowKit
set_option linter.unusedVariables false

theorem xor_byte (a b : Int) (ha : byteI a) (hb : byteI b) : byteI (bits BinOp.xor IntKind.u8 a b) := by
  unfold byteI at *
  rw [u8_xor a b (by omega) (by omega) (by omega) (by omega)]
  have : a.toNat ^^^ b.toNat < 2 ^ 8 := Nat.xor_lt_two_pow (by omega) (by omega)
  omega

set_option maxHeartbeats 1000000 in
theorem hashOneGroup_law (s : ByteArray) (A : Option Addr) (n c : Nat) (zs : List Int) (at_ one two : Int) (w : World) (hs : s.size ≤ maxLen) (hn : n ≤ c) (hc : c ≤ maxLen) (h : Sl .u8 w w.heap.size A n zs) (hA : A = none → n = 0 ∧ c = 0)
    (hz : ∀ x ∈ zs, byteI x) (hat : -9223372036854775808 ≤ at_ ∧ at_ ≤ 9223372036854775807) (hone : byteI one) (htwo : byteI two) :
    Calls Try.prog 6 #[.string s, .slice A n c, .int .i64 at_, .int .u8 one, .int .u8 two] w fun e w' => e = .returned (.bool true) ∧ Below w.heap.size w w' := by
  have HS := Lib.hid h
  have HZ := Lib.hid hz
  clear h hz
  have hss := shortB_size s 20
  obtain ⟨i0, hi, hz0, hz1, hz2⟩ := info_parts u8_info
  go_enter Try.func6, Try.ntmps6
  go_wp2_with fail
  refine (short_any s 20 _ hs).mono ?_
  rintro e w' ⟨rfl, rfl⟩
  obtain ⟨t, ht⟩ : ∃ t, t = shortB s 20 := ⟨_, rfl⟩
  rw [← ht] at hss ⊢
  clear ht
  go_wp2_with fail
  refine (few_any A n c 39 zs _ (by omega) hn hc HS.out hA).mono ?_
  rintro e w1 ⟨v1, rfl, hown, hb1⟩
  obtain ⟨k, hk⟩ : ∃ k, k = min n 39 := ⟨_, rfl⟩
  have hk9 : k ≤ 39 := by omega
  rw [← hk] at hown
  have HB1 := Lib.hid hb1
  clear hk hb1
  have e1 : (zs.take 39).map (Value.int .u8) ++ [Value.int .u8 65] = (zs.take 39 ++ [65]).map (Value.int .u8) := by rw [List.map_append]; rfl
  have E1 := Lib.hid e1
  clear e1
  go_wp2_with (at_builtin; refine wpList_append_own _ rfl _ _ _ rfl w.heap.size 5 i0 _ 1 1 Try.underlying30 hi hz0 hz1 hz2 rfl (by omega) _ k ((zs.take 39).map (Value.int .u8)) rfl (hown.alloc _) ⟨w1.heap.size, 0, none⟩ 1 1 [Value.int .u8 65] rfl rfl (cell_one_new _ _ _) (by simp [Value.oneCell']) (by unfold maxLen; omega) (by omega) (by have := HB1.out.size; simp; omega) ?_; intro v2 w2 hown2 hg2 hnil2; rw [E1.out] at hown2; have HB2 := Lib.hid ((HB1.out.alloc HB1.out.size _).trans (below_of_grown hg2 (by have := HB1.out.size; simp; omega) (fun g hg' => (hown.lt g hg').1))); obtain ⟨A2, c2, rfl, hn2, hc2, hsl2⟩ := Sl.of_own hown2; have S2 := Lib.hid hsl2; have hA2 : A2 = none → k + 1 = 0 ∧ c2 = 0 := (by intro hA2; obtain ⟨b, off, hb, _⟩ := hsl2.at_ (by omega); rw [hA2] at hb; cases hb); clear hown hown2 hg2 hnil2 hsl2)
  obtain ⟨xs, hxs⟩ : ∃ xs, xs = zs.take 39 ++ [65] := ⟨_, rfl⟩
  rw [← hxs] at S2
  have hxl : xs.length = k + 1 := S2.out.len
  have hxb : ∀ x ∈ xs, byteI x := by
    intro x hx
    rw [hxs] at hx
    rcases List.mem_append.1 hx with h | h
    · exact HZ.out x (List.mem_of_mem_take h)
    · have : x = 65 := by simpa using h
      subst this; unfold byteI; omega
  have HXL := Lib.hid hxl
  have HXB := Lib.hid hxb
  clear hxs hxl hxb
  refine (few_any A2 (k + 1) c2 40 xs _ (by omega) hn2 hc2 S2.out hA2).mono ?_
  rintro e w3 ⟨v3, rfl, hown3, hb3⟩
  rw [List.take_of_length_le (by rw [HXL.out]; omega), show min (k + 1) 40 = k + 1 from by omega] at hown3
  obtain ⟨g3, c3, rfl, hg3, hg3'⟩ := own_slice hown3 (by omega)
  have H3 := Lib.hid hown3
  have HB3 := Lib.hid (HB2.out.trans (hb3.mono HB2.out.size))
  have S23 := Lib.hid (S2.out.below hb3)
  have hc3 : k + 1 ≤ c3 := (Sl.of_own hown3).elim (fun A h => by obtain ⟨c, h1, h2, _⟩ := h; cases h1; exact h2)
  clear hown3 hb3
  go_wp2_with fail
  refine (around_any at_ _ _ hat.1 hat.2 (by omega) (by omega)).mono ?_
  rintro e w' ⟨rfl, rfl⟩
  obtain ⟨q, hq, hq1⟩ : ∃ q : Nat, aroundI at_ ((k : Int) + 1) = (q : Int) ∧ q < k + 1 := by
    have := aroundI_bd at_ ((k : Int) + 1) (by omega)
    exact ⟨(aroundI at_ ((k : Int) + 1)).toNat, by omega, by omega⟩
  rw [hq]
  clear hq
  have hcell : w3.cell? ⟨g3, q, none⟩ = some (.int .u8 (xs[q]?.getD 0)) := by
    rw [H3.out.cellAt q (by omega), List.getElem?_map, List.getElem?_eq_getElem (by rw [HXL.out]; omega)]; rfl
  have hfz : w3.frozen? ⟨g3, q, none⟩ = false := H3.out.frozenAt q
  have hb0 := getD_bd xs HXB.out q (by rw [HXL.out]; omega)
  obtain ⟨Z1, hZ1⟩ : ∃ Z1, Z1 = bits BinOp.xor IntKind.u8 (xs[q]?.getD 0) one := ⟨_, rfl⟩
  have hZb : byteI Z1 := by rw [hZ1]; exact xor_byte _ _ hb0 hone
  have hst := H3.out.stored q (.int .u8 (bits BinOp.xor IntKind.u8 (xs[q]?.getD 0) one))
  rw [← List.map_set] at hst
  rw [hZ1] at hZb
  clear hZ1
  by_cases hif : q < k
  · by_cases hmod : (q + 1) % 8 = 0
    · have h1 : (q : Int) + 1 < (k : Int) + 1 := by omega
      have h2 : (((q : Int) + 1) % 8 != 0) = false := by simp; omega
      have h3 : (((q : Int) + 1) % 8 == 0) = true := by simp; omega
      go_wp2_with fail
      obtain ⟨A4, c4, hv4, hn4, _, hsl4⟩ := Sl.of_own hst.1
      cases hv4
      obtain ⟨ys, hys⟩ : ∃ ys, ys = xs.set q (bits BinOp.xor IntKind.u8 (xs[q]?.getD 0) one) := ⟨_, rfl⟩
      rw [← hys] at hsl4
      have hyl : ys.length = xs.length := by rw [hys]; simp
      have hyb : ∀ b ∈ ys, byteI b := by rw [hys]; exact fun b hb => (List.mem_or_eq_of_mem_set hb).elim (fun h => HXB.out b h) (fun h => by rw [h]; exact hZb)
      have hag : ∀ i, i / 8 ≠ q / 8 → xs[i]? = ys[i]? := by
        intro i hi
        rw [hys]; rw [List.getElem?_set_ne (by intro e; subst e; exact hi rfl)]
      have hdec : ∃ b : Bool, (bytesI (sB t) xs == bytesI (sB t) ys) = b ∧ decide (xs = ys) = b := by
        have hiff := bytesI_group (sB t) xs ys hyl.symm HXB.out hyb (q / 8) (by rw [HXL.out]; omega) hag
        by_cases he : xs = ys
        · exact ⟨true, by simp [he], by simp [he]⟩
        · refine ⟨false, ?_, by simp [he]⟩
          simp only [beq_eq_false_iff_ne]; exact fun e => he (hiff.1 e)
      obtain ⟨bb, hd1, hd2⟩ := hdec
      have HD2 := Lib.hid hd2
      have HYB := Lib.hid hyb
      obtain ⟨W, hW⟩ : ∃ W, W = w3.setCell ⟨g3, q, none⟩ (.int .u8 (bits BinOp.xor IntKind.u8 (xs[q]?.getD 0) one)) := ⟨_, rfl⟩
      have hbw : Below w2.heap.size w3 W := by
        rw [hW]
        exact (Below.refl _ w3).setCell (p := ⟨g3, q, none⟩) hg3 _
      rw [← hW] at hsl4 ⊢
      have B4 := Lib.hid (HB3.out.trans (hbw.mono HB2.out.size))
      have S24 := Lib.hid ((S23.out.below hbw).more (B' := W.heap.size) (Nat.le_trans (by omega) hbw.size))
      have S44 := Lib.hid hsl4
      clear hW hst hsl4 hbw hcell hfz hys hyl hyb hag hd2 
      refine (hash_bytes t A2 (k + 1) c2 _ _ (by omega) (by omega) hn2 S24.out HXB.out).mono ?_
      rintro e w5 ⟨rfl, hb5⟩
      have S25 := Lib.hid ((S24.out.below hb5).more hb5.size)
      have S45 := Lib.hid ((S44.out.below hb5).more hb5.size)
      have B5 := Lib.hid (B4.out.trans (hb5.mono B4.out.size))
      clear hb5
      go_wp2_with fail
      refine (hash_bytes t _ (k + 1) c3 _ _ (by omega) (by omega) hc3 S45.out HYB.out).mono ?_
      rintro e w6 ⟨rfl, hb6⟩
      have S26 := Lib.hid ((S25.out.below hb6).more hb6.size)
      have S46 := Lib.hid ((S45.out.below hb6).more hb6.size)
      have B6 := Lib.hid (B5.out.trans (hb6.mono B5.out.size))
      clear hb6
      cases bb <;>
      · go_wp2_with fail
        refine (sameBytes _ _ (k + 1) c2 c3 _ _ _ (by unfold maxLen; omega) S26.out S46.out).mono ?_
        rintro e w7 ⟨rfl, q7, rfl⟩
        rw [HD2.out]
        have B7 := Lib.hid (below_drewN B6.out q7)
        go_wp2_with fail
        refine (lives_any _).mono ?_
        rintro e w8 ⟨rfl, hb8⟩
        have B8 := Lib.hid (B7.out.trans (hb8.mono B7.out.size))
        clear hb8
        go_wp2
        go_ret
        exact ⟨rfl, B8.out⟩
    · have h1 : (q : Int) + 1 < (k : Int) + 1 := by omega
      have h2 : (((q : Int) + 1) % 8 != 0) = true := by simp; omega
      have h3 : (((q : Int) + 1) % 8 == 0) = false := by simp; omega
      have hcell2 : w3.cell? ⟨g3, q + 1, none⟩ = some (.int .u8 (xs[q + 1]?.getD 0)) := by
        rw [H3.out.cellAt (q + 1) (by omega), List.getElem?_map, List.getElem?_eq_getElem (by rw [HXL.out]; omega)]; rfl
      have hfz2 : w3.frozen? ⟨g3, q + 1, none⟩ = false := H3.out.frozenAt (q + 1)
      have hYb : byteI (bits BinOp.xor IntKind.u8 (xs[q + 1]?.getD 0) two) := xor_byte _ _ (getD_bd xs HXB.out (q + 1) (by rw [HXL.out]; omega)) htwo
      have hst2 := hst.1.stored (q + 1) (.int .u8 (bits BinOp.xor IntKind.u8 (xs[q + 1]?.getD 0) two))
      rw [← List.map_set] at hst2
      go_wp2_with fail
      obtain ⟨A4, c4, hv4, hn4, _, hsl4⟩ := Sl.of_own hst2.1
      cases hv4
      obtain ⟨ys, hys⟩ : ∃ ys, ys = (xs.set q (bits BinOp.xor IntKind.u8 (xs[q]?.getD 0) one)).set (q + 1) (bits BinOp.xor IntKind.u8 (xs[q + 1]?.getD 0) two) := ⟨_, rfl⟩
      rw [← hys] at hsl4
      have hyl : ys.length = xs.length := by rw [hys]; simp
      have hyb : ∀ b ∈ ys, byteI b := by rw [hys]; exact fun b hb => (List.mem_or_eq_of_mem_set hb).elim (fun h => (List.mem_or_eq_of_mem_set h).elim (fun h => HXB.out b h) (fun h => by rw [h]; exact hZb)) (fun h => by rw [h]; exact hYb)
      have hag : ∀ i, i / 8 ≠ q / 8 → xs[i]? = ys[i]? := by
        intro i hi
        rw [hys]; rw [List.getElem?_set_ne (by intro e; subst e; omega), List.getElem?_set_ne (by intro e; subst e; exact hi rfl)]
      have hdec : ∃ b : Bool, (bytesI (sB t) xs == bytesI (sB t) ys) = b ∧ decide (xs = ys) = b := by
        have hiff := bytesI_group (sB t) xs ys hyl.symm HXB.out hyb (q / 8) (by rw [HXL.out]; omega) hag
        by_cases he : xs = ys
        · exact ⟨true, by simp [he], by simp [he]⟩
        · refine ⟨false, ?_, by simp [he]⟩
          simp only [beq_eq_false_iff_ne]; exact fun e => he (hiff.1 e)
      obtain ⟨bb, hd1, hd2⟩ := hdec
      have HD2 := Lib.hid hd2
      have HYB := Lib.hid hyb
      obtain ⟨W, hW⟩ : ∃ W, W = (w3.setCell ⟨g3, q, none⟩ (.int .u8 (bits BinOp.xor IntKind.u8 (xs[q]?.getD 0) one))).setCell ⟨g3, q + 1, none⟩ (.int .u8 (bits BinOp.xor IntKind.u8 (xs[q + 1]?.getD 0) two)) := ⟨_, rfl⟩
      have hbw : Below w2.heap.size w3 W := by
        rw [hW]
        exact ((Below.refl _ w3).setCell (p := ⟨g3, q, none⟩) hg3 _).setCell (p := ⟨g3, q + 1, none⟩) hg3 _
      rw [← hW] at hsl4 ⊢
      have B4 := Lib.hid (HB3.out.trans (hbw.mono HB2.out.size))
      have S24 := Lib.hid ((S23.out.below hbw).more (B' := W.heap.size) (Nat.le_trans (by omega) hbw.size))
      have S44 := Lib.hid hsl4
      clear hW hst hsl4 hbw hcell hfz hys hyl hyb hag hd2 hst2 hcell2 hfz2
      refine (hash_bytes t A2 (k + 1) c2 _ _ (by omega) (by omega) hn2 S24.out HXB.out).mono ?_
      rintro e w5 ⟨rfl, hb5⟩
      have S25 := Lib.hid ((S24.out.below hb5).more hb5.size)
      have S45 := Lib.hid ((S44.out.below hb5).more hb5.size)
      have B5 := Lib.hid (B4.out.trans (hb5.mono B4.out.size))
      clear hb5
      go_wp2_with fail
      refine (hash_bytes t _ (k + 1) c3 _ _ (by omega) (by omega) hc3 S45.out HYB.out).mono ?_
      rintro e w6 ⟨rfl, hb6⟩
      have S26 := Lib.hid ((S25.out.below hb6).more hb6.size)
      have S46 := Lib.hid ((S45.out.below hb6).more hb6.size)
      have B6 := Lib.hid (B5.out.trans (hb6.mono B5.out.size))
      clear hb6
      cases bb <;>
      · go_wp2_with fail
        refine (sameBytes _ _ (k + 1) c2 c3 _ _ _ (by unfold maxLen; omega) S26.out S46.out).mono ?_
        rintro e w7 ⟨rfl, q7, rfl⟩
        rw [HD2.out]
        have B7 := Lib.hid (below_drewN B6.out q7)
        go_wp2_with fail
        refine (lives_any _).mono ?_
        rintro e w8 ⟨rfl, hb8⟩
        have B8 := Lib.hid (B7.out.trans (hb8.mono B7.out.size))
        clear hb8
        go_wp2
        go_ret
        exact ⟨rfl, B8.out⟩
  · have h1 : ¬ (q : Int) + 1 < (k : Int) + 1 := by omega
    go_wp2_with fail
    obtain ⟨A4, c4, hv4, hn4, _, hsl4⟩ := Sl.of_own hst.1
    cases hv4
    obtain ⟨ys, hys⟩ : ∃ ys, ys = xs.set q (bits BinOp.xor IntKind.u8 (xs[q]?.getD 0) one) := ⟨_, rfl⟩
    rw [← hys] at hsl4
    have hyl : ys.length = xs.length := by rw [hys]; simp
    have hyb : ∀ b ∈ ys, byteI b := by rw [hys]; exact fun b hb => (List.mem_or_eq_of_mem_set hb).elim (fun h => HXB.out b h) (fun h => by rw [h]; exact hZb)
    have hag : ∀ i, i / 8 ≠ q / 8 → xs[i]? = ys[i]? := by
      intro i hi
      rw [hys]; rw [List.getElem?_set_ne (by intro e; subst e; exact hi rfl)]
    have hdec : ∃ b : Bool, (bytesI (sB t) xs == bytesI (sB t) ys) = b ∧ decide (xs = ys) = b := by
      have hiff := bytesI_group (sB t) xs ys hyl.symm HXB.out hyb (q / 8) (by rw [HXL.out]; omega) hag
      by_cases he : xs = ys
      · exact ⟨true, by simp [he], by simp [he]⟩
      · refine ⟨false, ?_, by simp [he]⟩
        simp only [beq_eq_false_iff_ne]; exact fun e => he (hiff.1 e)
    obtain ⟨bb, hd1, hd2⟩ := hdec
    have HD2 := Lib.hid hd2
    have HYB := Lib.hid hyb
    obtain ⟨W, hW⟩ : ∃ W, W = w3.setCell ⟨g3, q, none⟩ (.int .u8 (bits BinOp.xor IntKind.u8 (xs[q]?.getD 0) one)) := ⟨_, rfl⟩
    have hbw : Below w2.heap.size w3 W := by
      rw [hW]
      exact (Below.refl _ w3).setCell (p := ⟨g3, q, none⟩) hg3 _
    rw [← hW] at hsl4 ⊢
    have B4 := Lib.hid (HB3.out.trans (hbw.mono HB2.out.size))
    have S24 := Lib.hid ((S23.out.below hbw).more (B' := W.heap.size) (Nat.le_trans (by omega) hbw.size))
    have S44 := Lib.hid hsl4
    clear hW hst hsl4 hbw hcell hfz hys hyl hyb hag hd2 
    refine (hash_bytes t A2 (k + 1) c2 _ _ (by omega) (by omega) hn2 S24.out HXB.out).mono ?_
    rintro e w5 ⟨rfl, hb5⟩
    have S25 := Lib.hid ((S24.out.below hb5).more hb5.size)
    have S45 := Lib.hid ((S44.out.below hb5).more hb5.size)
    have B5 := Lib.hid (B4.out.trans (hb5.mono B4.out.size))
    clear hb5
    go_wp2_with fail
    refine (hash_bytes t _ (k + 1) c3 _ _ (by omega) (by omega) hc3 S45.out HYB.out).mono ?_
    rintro e w6 ⟨rfl, hb6⟩
    have S26 := Lib.hid ((S25.out.below hb6).more hb6.size)
    have S46 := Lib.hid ((S45.out.below hb6).more hb6.size)
    have B6 := Lib.hid (B5.out.trans (hb6.mono B5.out.size))
    clear hb6
    cases bb <;>
    · go_wp2_with fail
      refine (sameBytes _ _ (k + 1) c2 c3 _ _ _ (by unfold maxLen; omega) S26.out S46.out).mono ?_
      rintro e w7 ⟨rfl, q7, rfl⟩
      rw [HD2.out]
      have B7 := Lib.hid (below_drewN B6.out q7)
      go_wp2_with fail
      refine (lives_any _).mono ?_
      rintro e w8 ⟨rfl, hb8⟩
      have B8 := Lib.hid (B7.out.trans (hb8.mono B7.out.size))
      clear hb8
      go_wp2
      go_ret
      exact ⟨rfl, B8.out⟩
end Go.Proofs.Ytahgcedhhepodaa
