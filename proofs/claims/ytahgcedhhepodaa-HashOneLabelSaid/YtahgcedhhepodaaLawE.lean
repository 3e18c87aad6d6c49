/- The law HashOneLabel: its walk. -/
import Derived.Test.YtahgcedhhepodaaLawA
import Derived.Test.YtahgcedhhepodaaLawC
import Derived.Laws.IdiomStrings
import Derived.Deep.RegionHeld3
namespace Go.Proofs.Ytahgcedhhepodaa
open Go.RowKit
set_option linter.unusedVariables false

/-- bytes as a string -/
def strOf (zs : List Int) : ByteArray := ⟨(zs.map fun z => UInt8.ofNat z.toNat).toArray⟩
theorem sB_strOf (zs : List Int) (h : ∀ b ∈ zs, byteI b) : sB (strOf zs) = zs := by
  unfold sB strOf
  simp only [List.map_map]
  have : ∀ b ∈ zs, ((fun b : UInt8 => (b.toNat : Int)) ∘ fun z => UInt8.ofNat z.toNat) b = b := by
    intro b hb
    have hb' := h b hb
    unfold byteI at hb'
    simp; omega
  rw [List.map_congr_left this]; simp
theorem strOf_size (zs : List Int) : (strOf zs).size = zs.length := by simp [strOf, ByteArray.size]
theorem conv_back {P : Program} (w : World) (src dst e : TypeId) (b off n c B : Nat) (zs : List Int) (hs : P.underlying src = some (.slice e)) (he : P.underlying e = some (.int .u8)) (hd : P.underlying dst = some .string)
    (h : Sl .u8 w B (some ⟨b, off, none⟩) n zs) (hz : ∀ x ∈ zs, byteI x) : (convert src dst (.slice (some ⟨b, off, none⟩) n c)).run P w = .ok (.string (strOf zs)) w := by
  have hl := h.len
  have hr := run_convert_bytes_back (P := P) w src dst e ⟨b, off, none⟩ c (zs.map fun z => UInt8.ofNat z.toNat) hs he hd (fun j hj => by
    have hj' : j < n := by simpa [hl] using hj
    obtain ⟨b', off', hA, _, hc⟩ := h.at_ (by omega)
    cases hA
    rw [add_lit, hc j hj', List.getElem?_eq_getElem (by omega), List.getElem_map]
    have hb := hz zs[j] (List.getElem_mem _)
    unfold byteI at hb
    simp; omega)
  rw [List.length_map, hl] at hr
  exact hr

theorem xor_self_iff (x b : Int) (hx : byteI x) (hb : byteI b) : bits BinOp.xor IntKind.u8 x b = x ↔ b = 0 := by
  unfold byteI at *
  rw [u8_xor x b (by omega) (by omega) (by omega) (by omega)]
  obtain ⟨a, rfl⟩ := Int.eq_ofNat_of_zero_le hx.1
  obtain ⟨c, rfl⟩ := Int.eq_ofNat_of_zero_le hb.1
  simp only [Int.toNat_natCast]
  constructor
  · intro h
    have h1 : a ^^^ c = a := by omega
    have h2 : a ^^^ (a ^^^ c) = a ^^^ a := by rw [h1]
    rw [← Nat.xor_assoc, Nat.xor_self, Nat.zero_xor] at h2
    omega
  · intro h
    have : c = 0 := by omega
    subst this; simp

/-- what is kept over the region that draws its order: the two slices of bytes, the words, and all that lay before -/
def ThreeSl (w0 : World) (A B C : Option Addr) (n m l : Nat) (xs ys ws : List Int) (w : World) : Prop :=
  Sl .u8 w w.heap.size A n xs ∧ Sl .u8 w w.heap.size B m ys ∧ Sl .i64 w w.heap.size C l ws ∧ Below w0.heap.size w0 w
theorem ThreeSl.drew {w0 : World} {A B C : Option Addr} {n m l : Nat} {xs ys ws : List Int} {w : World} (h : ThreeSl w0 A B C n m l xs ys ws w) : ThreeSl w0 A B C n m l xs ys ws w.drew :=
  ⟨h.1, h.2.1, h.2.2.1, h.2.2.2.drew⟩
theorem ThreeSl.below {w0 : World} {A B C : Option Addr} {n m l : Nat} {xs ys ws : List Int} {w w' : World} (h : ThreeSl w0 A B C n m l xs ys ws w) (hb : Below w.heap.size w w') : ThreeSl w0 A B C n m l xs ys ws w' :=
  ⟨(h.1.below hb).more hb.size, (h.2.1.below hb).more hb.size, (h.2.2.1.below hb).more hb.size, h.2.2.2.trans (hb.mono h.2.2.2.size)⟩
theorem held_3 {P Q : Prop} {w0 : World} {A B C : Option Addr} {n m l : Nat} {xs ys ws : List Int} {w : World} (h : P ∧ Q ∧ ThreeSl w0 A B C n m l xs ys ws w) : ThreeSl w0 A B C n m l xs ys ws w := h.2.2
theorem held_w {P Q : Prop} {w0 : World} {A B C : Option Addr} {n m l : Nat} {xs ys ws : List Int} {w : World} (h : P ∧ Q ∧ ThreeSl w0 A B C n m l xs ys ws w) : Sl .i64 w w.heap.size C l ws := h.2.2.2.2.1

set_option maxHeartbeats 1000000 in
theorem hashOneLabel_law (s : ByteArray) (A : Option Addr) (n c : Nat) (zs : List Int) (at_ by_ : Int) (w : World) (hs : s.size ≤ maxLen) (hn : n ≤ c) (hc : c ≤ maxLen) (h : Sl .i64 w w.heap.size A n zs) (hA : A = none → n = 0 ∧ c = 0)
    (hat : -9223372036854775808 ≤ at_ ∧ at_ ≤ 9223372036854775807) (hby : byteI by_) :
    Calls Try.prog 7 #[.string s, .slice A n c, .int .i64 at_, .int .u8 by_] w fun e w' => e = .returned (.bool true) ∧ Below w.heap.size w w' := by
  have HS := Lib.hid h
  clear h
  have hss := shortB_size s 29
  go_enter Try.func7, Try.ntmps7
  go_wp2_with fail
  refine (ints_any A n c 6 zs _ (by omega) hn hc HS.out hA).mono ?_
  rintro e w1 ⟨v, rfl, hown, hb1⟩
  obtain ⟨A1, c1, rfl, hn1, hc1, hsl1⟩ := Sl.of_own hown
  have B1 := Lib.hid hb1
  have S1 := Lib.hid hsl1
  have hm : min n 6 ≤ 6 := by omega
  generalize min n 6 = m at hm hn1 S1 hsl1 ⊢
  clear hown hb1 hsl1 hn1 hc1
  go_wp2_with fail
  refine (short_any s 29 _ hs).mono ?_
  rintro e w' ⟨rfl, rfl⟩
  obtain ⟨t, ht⟩ : ∃ t, t = shortB s 29 := ⟨_, rfl⟩
  rw [← ht] at hss ⊢
  clear ht
  have hus : (t ++ (⟨#[120]⟩ : ByteArray)).size = t.size + 1 := by rw [ByteArray.size_append]; rfl
  obtain ⟨cap, w2, hconv, hb2, hsz2, hsl2, hcap1, hcap2⟩ := conv_bytes (P := Try.prog) w1 9 30 5 (t ++ ⟨#[120]⟩) (by unfold maxLen; omega) Try.underlying9 Try.underlying30 Try.underlying5
  obtain ⟨xs, hxs⟩ : ∃ xs, xs = sB (t ++ (⟨#[120]⟩ : ByteArray)) := ⟨_, rfl⟩
  have hxb : ∀ b ∈ xs, byteI b := by rw [hxs]; exact sB_byte _
  rw [← hxs] at hsl2
  obtain ⟨L, hL⟩ : ∃ L, L = (t ++ (⟨#[120]⟩ : ByteArray)).size := ⟨_, rfl⟩
  rw [← hL] at hsl2 hcap1 hconv
  have hL1 : 1 ≤ L := by omega
  have hL30 : L ≤ 30 := by omega
  have HXB := Lib.hid hxb
  have HXL := Lib.hid hsl2.len
  have B2 := Lib.hid (B1.out.trans (hb2.mono B1.out.size))
  have S2 := Lib.hid hsl2
  have S12 := Lib.hid ((S1.out.below hb2).more hb2.size)
  obtain ⟨bl, hbl⟩ : ∃ bl, bl = w1.heap.size := ⟨_, rfl⟩
  rw [← hbl] at S2 hconv
  clear hus hxs hxb hL hb2 hsl2 hsz2 hbl
  go_wp2_with fail
  clear hconv
  refine (few_any _ L cap 30 xs _ (by omega) hcap1 hcap2 S2.out (by intro h; cases h)).mono ?_
  rintro e w3 ⟨v3, rfl, hown3, hb3⟩
  rw [List.take_of_length_le (by rw [HXL.out]; omega), show min L 30 = L from by omega] at hown3
  obtain ⟨g3, c3, rfl, hg3, hg3'⟩ := own_slice hown3 (by omega)
  have H3 := Lib.hid hown3
  have HB3 := Lib.hid (B2.out.trans (hb3.mono B2.out.size))
  have S23 := Lib.hid (S2.out.below hb3)
  have S13 := Lib.hid (S12.out.below hb3)
  have hw23 : w2.heap.size ≤ w3.heap.size := hb3.size
  clear hown3 hb3
  go_wp2_with fail
  refine (around_any at_ _ _ hat.1 hat.2 (by omega) (by omega)).mono ?_
  rintro e w' ⟨rfl, rfl⟩
  obtain ⟨q, hq, hq1⟩ : ∃ q : Nat, aroundI at_ (L : Int) = (q : Int) ∧ q < L := by
    have := aroundI_bd at_ (L : Int) (by omega)
    exact ⟨(aroundI at_ (L : Int)).toNat, by omega, by omega⟩
  rw [hq]
  clear hq
  have hcell : w3.cell? ⟨g3, q, none⟩ = some (.int .u8 (xs[q]?.getD 0)) := by
    rw [H3.out.cellAt q (by omega), List.getElem?_map, List.getElem?_eq_getElem (by rw [HXL.out]; omega)]; rfl
  have hfz : w3.frozen? ⟨g3, q, none⟩ = false := H3.out.frozenAt q
  have hb0 := getD_bd xs HXB.out q (by rw [HXL.out]; omega)
  have HZb := Lib.hid (xor_byte _ _ hb0 hby)
  have hst := H3.out.stored q (.int .u8 (bits BinOp.xor IntKind.u8 (xs[q]?.getD 0) by_))
  rw [← List.map_set] at hst
  have HST := Lib.hid hst
  clear hst
  go_wp2_with fail
  obtain ⟨A4, c4, hv4, hn4, _, hsl4⟩ := Sl.of_own HST.out.1
  cases hv4
  obtain ⟨ys, hys⟩ : ∃ ys, ys = xs.set q (bits BinOp.xor IntKind.u8 (xs[q]?.getD 0) by_) := ⟨_, rfl⟩
  rw [← hys] at hsl4
  have hyl : ys.length = xs.length := by rw [hys]; simp
  have hyb : ∀ b ∈ ys, byteI b := by rw [hys]; exact fun b hb => (List.mem_or_eq_of_mem_set hb).elim (fun h => HXB.out b h) (fun h => by rw [h]; exact HZb.out)
  have hag : ∀ i, i / 8 ≠ q / 8 → xs[i]? = ys[i]? := by
    intro i hi
    rw [hys, List.getElem?_set_ne (by intro e; subst e; exact hi rfl)]
  have hxy : xs = ys ↔ by_ = 0 := by
    have hql : q < xs.length := by rw [HXL.out]; exact hq1
    have hq' : xs[q]?.getD 0 = xs[q] := by rw [List.getElem?_eq_getElem hql]; rfl
    constructor
    · intro e
      have e2 : xs[q]? = ys[q]? := by rw [← e]
      rw [hys, List.getElem?_set_self hql, List.getElem?_eq_getElem hql] at e2
      have e3 : xs[q] = bits BinOp.xor IntKind.u8 xs[q] by_ := Option.some.inj e2
      rw [hq'] at hb0
      exact (xor_self_iff _ _ hb0 hby).1 e3.symm
    · intro e
      have e3 := (xor_self_iff _ _ hb0 hby).2 e
      rw [hys, e3, hq', List.set_getElem_self]
  have hdec : ∃ b : Bool, (sumI (sB (strOf xs)) (zs.take 6) == sumI (sB (strOf ys)) (zs.take 6)) = b ∧ (by_ == 0) = b := by
    rw [sB_strOf xs HXB.out, sB_strOf ys hyb]
    have hiff := sumI_label xs ys (zs.take 6) hyl.symm HXB.out hyb (q / 8) (by rw [HXL.out]; omega) hag
    by_cases he : by_ = 0
    · exact ⟨true, by simpa using hiff.2 (hxy.2 he), by simpa using he⟩
    · refine ⟨false, ?_, by simpa using he⟩
      simp only [beq_eq_false_iff_ne]; exact fun e => he (hxy.1 (hiff.1 e))
  obtain ⟨bb, hd1, hd2⟩ := hdec
  have HYB := Lib.hid hyb
  have sz1 : (strOf xs).size ≤ 1000000 := by rw [strOf_size, HXL.out]; omega
  have sz2 : (strOf ys).size ≤ 1000000 := by rw [strOf_size, hyl, HXL.out]; omega
  have SZ1 := Lib.hid sz1
  have SZ2 := Lib.hid sz2
  obtain ⟨W, hW⟩ : ∃ W, W = w3.setCell ⟨g3, q, none⟩ (.int .u8 (bits BinOp.xor IntKind.u8 (xs[q]?.getD 0) by_)) := ⟨_, rfl⟩
  have hbw : Below w2.heap.size w3 W := by
    rw [hW]
    exact (Below.refl _ w3).setCell (p := ⟨g3, q, none⟩) hg3 _
  rw [← hW] at hsl4 ⊢
  have hT0 : ThreeSl w (some ⟨bl, 0, none⟩) (some ⟨g3, 0, none⟩) A1 L L m xs ys (zs.take 6) W :=
    ⟨(S23.out.below hbw).more (Nat.le_trans hw23 hbw.size), hsl4, (S13.out.below hbw).more (Nat.le_trans hw23 hbw.size), HB3.out.trans (hbw.mono B2.out.size)⟩
  have hc1 := fun (w' : World) (h : ThreeSl w (some ⟨bl, 0, none⟩) (some ⟨g3, 0, none⟩) A1 L L m xs ys (zs.take 6) w') => conv_back (P := Try.prog) w' 30 9 5 bl 0 L cap w'.heap.size xs Try.underlying30 Try.underlying5 Try.underlying9 h.1 HXB.out
  have hc2 := fun (w' : World) (h : ThreeSl w (some ⟨bl, 0, none⟩) (some ⟨g3, 0, none⟩) A1 L L m xs ys (zs.take 6) w') => conv_back (P := Try.prog) w' 30 9 5 g3 0 L c3 w'.heap.size ys Try.underlying30 Try.underlying5 Try.underlying9 h.2.1 HYB.out
  have hk1 := hc1 W hT0
  have hk2 := hc2 W hT0
  have HC1 := Lib.hid hc1
  have HC2 := Lib.hid hc2
  clear hsl4 hbw hcell hfz hys hyl hyb hag hW hxy hb0 sz1 sz2 hc1 hc2
  cases bb <;>
  · go_region_held3 (fun w' => (convert 30 9 (.slice (some ⟨bl, 0, none⟩) L cap)).run Try.prog w' = .ok (.string (strOf xs)) w' ∧ (convert 30 9 (.slice (some ⟨g3, 0, none⟩) L c3)).run Try.prog w' = .ok (.string (strOf ys)) w' ∧ ThreeSl w (some ⟨bl, 0, none⟩) (some ⟨g3, 0, none⟩) A1 L L m xs ys (zs.take 6) w')
      (first
        | (refine ⟨?_, ?_, ?_⟩ <;> assumption)
        | (refine ⟨HC1.out _ ?_, HC2.out _ ?_, ?_⟩ <;> (first | assumption | exact ThreeSl.drew (by assumption))))
      (first
        | (go_at_call 13; refine (hash_sum _ A1 m c1 (zs.take 6) _ (by first | exact SZ1.out | exact SZ2.out) (by omega) (held_w (by assumption))).mono ?_
           rintro e wn ⟨rfl, hbn⟩
           have htn := (held_3 (by assumption)).below hbn)
        | (go_at_call 15; refine (lives_any _).mono ?_
           rintro e wn ⟨rfl, hbn⟩
           have htn := (held_3 (by assumption)).below hbn))
    go_wp2
    go_ret
    exact ⟨rfl, (held_3 (by assumption)).2.2.2⟩
end Go.Proofs.Ytahgcedhhepodaa
