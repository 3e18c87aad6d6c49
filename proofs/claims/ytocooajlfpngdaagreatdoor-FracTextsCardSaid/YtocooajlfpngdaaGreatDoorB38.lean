/- Contracts of package frac: Parse. -/
import Derived.Test.YtocooajlfpngdaaGreatDoorB37
namespace Go.Proofs.YtocooajlfpngdaaGreatDoor
open Go.RowKit
set_option linter.unusedVariables false

theorem parse_in {l : List UInt8} {p : Int} {e : Nat} (h : parseT l = (p, e)) : (p.natAbs : Int) < lim := parse_lt h
theorem fstring_as (x : Rat) (u : Value) (w : World) (ha : RepF w w.heap.size x u) (ia : InF x) (T : ByteArray) (hT : strB (textQ x) = T) : Calls Tryz.prog 51 #[u] w (StrU T w) := hT ▸ fstring_any x u w ha ia
theorem max3_run (W : World) (a b c m : Int) (hm : max (max a b) c = m) : (Builtin.max_ #[37, 37, 37] 37 #[.int .i64 a, .int .i64 b, .int .i64 c]).run Tryz.prog W = .ok (.int .i64 m) W := by
  subst hm
  simp [Builtin.max_, Builtin.max2]
  repeat' split
  all_goals omega
set_option maxRecDepth 100000 in
set_option maxHeartbeats 4000000 in
theorem parse_bad_ (s : ByteArray) (w : World) (hs : s.size ≤ maxLen) (p q : Int) (e1 e2 : Nat) (x : Rat) (hp : parseT (aboveT s.data.toList) = (p, e1)) (hq : parseT (belowT s.data.toList) = (q, e2)) (hx : Rat.divInt p q = x) (E1 E2 E3 : Int) (hE1 : (e1 : Int) = E1) (hE2 : (e2 : Int) = E2) (hE3 : makeE q = E3) (M : Int) (hM : max (max E1 E2) E3 = M) (hz : M ≠ 0) :
    Calls Tryz.prog 50 #[.string s] w (NewFE 0 2 w) := by
  obtain ⟨U, hU⟩ : ∃ U, strB (aboveT s.data.toList) = U := ⟨_, rfl⟩
  obtain ⟨D, hD⟩ : ∃ D, strB (belowT s.data.toList) = D := ⟨_, rfl⟩
  have hUl : U.data.toList = aboveT s.data.toList := by rw [← hU]; exact strB_list _
  have hDl : D.data.toList = belowT s.data.toList := by rw [← hD]; exact strB_list _
  have HP := Lib.hid hp
  have HQ := Lib.hid hq
  have HU := Lib.hid hU
  have HD := Lib.hid hD
  have HUL := Lib.hid hUl
  have HDL := Lib.hid hDl
  have LP := Lib.hid (parse_in hp)
  have LQ := Lib.hid (parse_in hq)
  have HX := Lib.hid hx
  have HE1 := Lib.hid hE1
  have HE2 := Lib.hid hE2
  have HE3 := Lib.hid hE3
  have HS := Lib.hid hs
  have HMX := Lib.hid hM
  have hz2 : (M == 0) = false := by simp [hz]
  have hz3 : decide (M = 0) = false := by simp [hz]
  clear hM
  clear hp hq hU hD hUl hDl hx hs hE1 hE2 hE3
  have HB := Lib.hid (Below.refl w.heap.size w)
  go_enter Tryz.func50, Tryz.ntmps50
  have h := Blk4.new w 36 (.bool false) (.slice none 0 0) (.bool false) (.slice none 0 0)
  have b := al_below w (.cells #[.bool false, .slice none 0 0, .bool false, .slice none 0 0] 36)
  replace HB := Lib.hid (bstep HB.out b)
  clear b
  have R0 := Lib.hid (show Blk4 _ (w.heap.size) 36 (.bool false) (.slice none 0 0) (.bool false) (.slice none 0 0) from h)
  clear h
  go_wp2_with fail
  refine (cut_any s _ HS.out).mono ?_
  rintro e w51 ⟨⟨f, t, rfl, hft⟩, b⟩
  rw [HU.out]
  rw [HD.out] at hft
  have z51 := b.size
  simp only [World.size_alloc] at z51
  replace z51 := Lib.hid z51
  replace HB := Lib.hid (bstep HB.out b)
  replace R0 := Lib.hid (R0.out.below b)
  clear b
  rcases Bool.eq_false_or_eq_true f with rfl | rfl
  · have hft' : t = D := hft
    subst hft'
    clear hft
    go_wp2_with fail
    have HMP := iparse_as U _ HUL.out w51 p e1 HP.out
    rw [HE1.out] at HMP
    refine (HMP).mono ?_
    rintro e w52 ⟨v, rfl, h, b⟩
    obtain ⟨d52, A52, n52, c52, rfl⟩ := h.shape
    have z52 := b.size
    replace z52 := Lib.hid z52
    replace HB := Lib.hid (bstep HB.out b)
    replace R0 := Lib.hid (R0.out.below b)
    have V52 := Lib.hid h
    clear h b
    clear HMP
    have h := HoldI.new V52.out
    have b := al_below w52 (.cells #[.bool d52, .slice A52 n52 c52] 34)
    replace HB := Lib.hid (bstep HB.out b)
    replace R0 := Lib.hid (R0.out.below b)
    clear b
    have H52 := Lib.hid h
    clear h V52
    go_wp2_with fail
    have HMP := iparse_as t _ HDL.out (w52.alloc (.cells #[.bool d52, .slice A52 n52 c52] 34)) q e2 HQ.out
    rw [HE2.out] at HMP
    refine (HMP).mono ?_
    rintro e w53 ⟨v, rfl, h, b⟩
    obtain ⟨d53, A53, n53, c53, rfl⟩ := h.shape
    have z53 := b.size
    simp only [World.size_alloc] at z53
    replace z53 := Lib.hid z53
    replace HB := Lib.hid (bstep HB.out b)
    replace R0 := Lib.hid (R0.out.below b)
    replace H52 := Lib.hid (H52.out.below b)
    have V53 := Lib.hid h
    clear h b
    clear HMP
    have h := HoldI.new V53.out
    have b := al_below w53 (.cells #[.bool d53, .slice A53 n53 c53] 34)
    replace HB := Lib.hid (bstep HB.out b)
    replace R0 := Lib.hid (R0.out.below b)
    replace H52 := Lib.hid (H52.out.below b)
    clear b
    have H53 := Lib.hid h
    clear h V53
    have gH520 := H52.out.c0
    have gH521 := H52.out.c1
    have gH530 := H53.out.c0
    have gH531 := H53.out.c1
    go_wp2_with fail
    have HMP := make_any p q _ _ _ H52.out.2 H53.out.2 LP.out LQ.out
    rw [HX.out, HE3.out] at HMP
    refine (HMP).mono ?_
    rintro e w54 ⟨v, rfl, h, b⟩
    obtain ⟨d54, A54, n54, c54, e54, E54, m54, f54, rfl⟩ := h.shape
    clear gH520 gH521 gH530 gH531
    have z54 := b.size
    simp only [World.size_alloc] at z54
    replace z54 := Lib.hid z54
    replace HB := Lib.hid (bstep HB.out b)
    replace R0 := Lib.hid (R0.out.below b)
    replace H52 := Lib.hid (H52.out.below b)
    replace H53 := Lib.hid (H53.out.below b)
    have V54 := Lib.hid h
    clear h b
    clear HMP
    have h := HoldQ.new V54.out
    have b := al_below w54 (.cells #[.bool d54, .slice A54 n54 c54, .bool e54, .slice E54 m54 f54] 36)
    replace HB := Lib.hid (bstep HB.out b)
    replace R0 := Lib.hid (R0.out.below b)
    replace H52 := Lib.hid (H52.out.below b)
    replace H53 := Lib.hid (H53.out.below b)
    clear b
    have H54 := Lib.hid h
    clear h V54
    have mx := fun W => max3_run W E1 E2 E3 M HMX.out
    have gR00 := R0.out.c0
    have yR00 := R0.out.f0
    have gR01 := R0.out.c1
    have yR01 := R0.out.f1
    have gR02 := R0.out.c2
    have yR02 := R0.out.f2
    have gR03 := R0.out.c3
    have yR03 := R0.out.f3
    have HF := Lib.hid (retQ (RepF.zero _ _) R0.out HB.out (by omega))
    clear HB R0 H52 H53 H54
    clear HMX HP HQ HE1 HE2 HE3 HU HD HUL HDL LP LQ HX HS
    go_wp2_with fail
    exact bodyPost_ret (v := .tuple #[.agg #[.bool false, .slice none 0 0, .bool false, .slice none 0 0], .int .i64 2]) (by simp [results, Tryz.results50, go_sem, gR00, gR01, gR02, gR03]) rfl ⟨_, rfl, HF.out.1, HF.out.2.1⟩
  · have hft' : (⟨#[49]⟩ : ByteArray) = D := hft
    subst hft'
    clear hft
    go_wp2_with fail
    have HMP := iparse_as U _ HUL.out w51 p e1 HP.out
    rw [HE1.out] at HMP
    refine (HMP).mono ?_
    rintro e w52 ⟨v, rfl, h, b⟩
    obtain ⟨d52, A52, n52, c52, rfl⟩ := h.shape
    have z52 := b.size
    replace z52 := Lib.hid z52
    replace HB := Lib.hid (bstep HB.out b)
    replace R0 := Lib.hid (R0.out.below b)
    have V52 := Lib.hid h
    clear h b
    clear HMP
    have h := HoldI.new V52.out
    have b := al_below w52 (.cells #[.bool d52, .slice A52 n52 c52] 34)
    replace HB := Lib.hid (bstep HB.out b)
    replace R0 := Lib.hid (R0.out.below b)
    clear b
    have H52 := Lib.hid h
    clear h V52
    go_wp2_with fail
    have HMP := iparse_as ⟨#[49]⟩ _ HDL.out (w52.alloc (.cells #[.bool d52, .slice A52 n52 c52] 34)) q e2 HQ.out
    rw [HE2.out] at HMP
    refine (HMP).mono ?_
    rintro e w53 ⟨v, rfl, h, b⟩
    obtain ⟨d53, A53, n53, c53, rfl⟩ := h.shape
    have z53 := b.size
    simp only [World.size_alloc] at z53
    replace z53 := Lib.hid z53
    replace HB := Lib.hid (bstep HB.out b)
    replace R0 := Lib.hid (R0.out.below b)
    replace H52 := Lib.hid (H52.out.below b)
    have V53 := Lib.hid h
    clear h b
    clear HMP
    have h := HoldI.new V53.out
    have b := al_below w53 (.cells #[.bool d53, .slice A53 n53 c53] 34)
    replace HB := Lib.hid (bstep HB.out b)
    replace R0 := Lib.hid (R0.out.below b)
    replace H52 := Lib.hid (H52.out.below b)
    clear b
    have H53 := Lib.hid h
    clear h V53
    have gH520 := H52.out.c0
    have gH521 := H52.out.c1
    have gH530 := H53.out.c0
    have gH531 := H53.out.c1
    go_wp2_with fail
    have HMP := make_any p q _ _ _ H52.out.2 H53.out.2 LP.out LQ.out
    rw [HX.out, HE3.out] at HMP
    refine (HMP).mono ?_
    rintro e w54 ⟨v, rfl, h, b⟩
    obtain ⟨d54, A54, n54, c54, e54, E54, m54, f54, rfl⟩ := h.shape
    clear gH520 gH521 gH530 gH531
    have z54 := b.size
    simp only [World.size_alloc] at z54
    replace z54 := Lib.hid z54
    replace HB := Lib.hid (bstep HB.out b)
    replace R0 := Lib.hid (R0.out.below b)
    replace H52 := Lib.hid (H52.out.below b)
    replace H53 := Lib.hid (H53.out.below b)
    have V54 := Lib.hid h
    clear h b
    clear HMP
    have h := HoldQ.new V54.out
    have b := al_below w54 (.cells #[.bool d54, .slice A54 n54 c54, .bool e54, .slice E54 m54 f54] 36)
    replace HB := Lib.hid (bstep HB.out b)
    replace R0 := Lib.hid (R0.out.below b)
    replace H52 := Lib.hid (H52.out.below b)
    replace H53 := Lib.hid (H53.out.below b)
    clear b
    have H54 := Lib.hid h
    clear h V54
    have mx := fun W => max3_run W E1 E2 E3 M HMX.out
    have gR00 := R0.out.c0
    have yR00 := R0.out.f0
    have gR01 := R0.out.c1
    have yR01 := R0.out.f1
    have gR02 := R0.out.c2
    have yR02 := R0.out.f2
    have gR03 := R0.out.c3
    have yR03 := R0.out.f3
    have HF := Lib.hid (retQ (RepF.zero _ _) R0.out HB.out (by omega))
    clear HB R0 H52 H53 H54
    clear HMX HP HQ HE1 HE2 HE3 HU HD HUL HDL LP LQ HX HS
    go_wp2_with fail
    exact bodyPost_ret (v := .tuple #[.agg #[.bool false, .slice none 0 0, .bool false, .slice none 0 0], .int .i64 2]) (by simp [results, Tryz.results50, go_sem, gR00, gR01, gR02, gR03]) rfl ⟨_, rfl, HF.out.1, HF.out.2.1⟩
set_option maxRecDepth 100000 in
set_option maxHeartbeats 4000000 in
theorem parse_odd_ (s : ByteArray) (w : World) (hs : s.size ≤ maxLen) (p q : Int) (e1 e2 : Nat) (x : Rat) (hp : parseT (aboveT s.data.toList) = (p, e1)) (hq : parseT (belowT s.data.toList) = (q, e2)) (hx : Rat.divInt p q = x) (hE1 : (e1 : Int) = 0) (hE2 : (e2 : Int) = 0) (hE3 : makeE q = 0) (ix : InF x) (T : ByteArray) (hT : strB (textQ x) = T) (hne : (T.toList == s.toList) = false) :
    Calls Tryz.prog 50 #[.string s] w (NewFE 0 2 w) := by
  obtain ⟨U, hU⟩ : ∃ U, strB (aboveT s.data.toList) = U := ⟨_, rfl⟩
  obtain ⟨D, hD⟩ : ∃ D, strB (belowT s.data.toList) = D := ⟨_, rfl⟩
  have hUl : U.data.toList = aboveT s.data.toList := by rw [← hU]; exact strB_list _
  have hDl : D.data.toList = belowT s.data.toList := by rw [← hD]; exact strB_list _
  have HP := Lib.hid hp
  have HQ := Lib.hid hq
  have HU := Lib.hid hU
  have HD := Lib.hid hD
  have HUL := Lib.hid hUl
  have HDL := Lib.hid hDl
  have LP := Lib.hid (parse_in hp)
  have LQ := Lib.hid (parse_in hq)
  have HX := Lib.hid hx
  have HE1 := Lib.hid hE1
  have HE2 := Lib.hid hE2
  have HE3 := Lib.hid hE3
  have HS := Lib.hid hs
  have IX := Lib.hid ix
  have HT := Lib.hid hT
  clear ix hT
  clear hp hq hU hD hUl hDl hx hs hE1 hE2 hE3
  have HB := Lib.hid (Below.refl w.heap.size w)
  go_enter Tryz.func50, Tryz.ntmps50
  have h := Blk4.new w 36 (.bool false) (.slice none 0 0) (.bool false) (.slice none 0 0)
  have b := al_below w (.cells #[.bool false, .slice none 0 0, .bool false, .slice none 0 0] 36)
  replace HB := Lib.hid (bstep HB.out b)
  clear b
  have R0 := Lib.hid (show Blk4 _ (w.heap.size) 36 (.bool false) (.slice none 0 0) (.bool false) (.slice none 0 0) from h)
  clear h
  go_wp2_with fail
  refine (cut_any s _ HS.out).mono ?_
  rintro e w51 ⟨⟨f, t, rfl, hft⟩, b⟩
  rw [HU.out]
  rw [HD.out] at hft
  have z51 := b.size
  simp only [World.size_alloc] at z51
  replace z51 := Lib.hid z51
  replace HB := Lib.hid (bstep HB.out b)
  replace R0 := Lib.hid (R0.out.below b)
  clear b
  rcases Bool.eq_false_or_eq_true f with rfl | rfl
  · have hft' : t = D := hft
    subst hft'
    clear hft
    go_wp2_with fail
    have HMP := iparse_as U _ HUL.out w51 p e1 HP.out
    rw [HE1.out] at HMP
    refine (HMP).mono ?_
    rintro e w52 ⟨v, rfl, h, b⟩
    obtain ⟨d52, A52, n52, c52, rfl⟩ := h.shape
    have z52 := b.size
    replace z52 := Lib.hid z52
    replace HB := Lib.hid (bstep HB.out b)
    replace R0 := Lib.hid (R0.out.below b)
    have V52 := Lib.hid h
    clear h b
    clear HMP
    have h := HoldI.new V52.out
    have b := al_below w52 (.cells #[.bool d52, .slice A52 n52 c52] 34)
    replace HB := Lib.hid (bstep HB.out b)
    replace R0 := Lib.hid (R0.out.below b)
    clear b
    have H52 := Lib.hid h
    clear h V52
    go_wp2_with fail
    have HMP := iparse_as t _ HDL.out (w52.alloc (.cells #[.bool d52, .slice A52 n52 c52] 34)) q e2 HQ.out
    rw [HE2.out] at HMP
    refine (HMP).mono ?_
    rintro e w53 ⟨v, rfl, h, b⟩
    obtain ⟨d53, A53, n53, c53, rfl⟩ := h.shape
    have z53 := b.size
    simp only [World.size_alloc] at z53
    replace z53 := Lib.hid z53
    replace HB := Lib.hid (bstep HB.out b)
    replace R0 := Lib.hid (R0.out.below b)
    replace H52 := Lib.hid (H52.out.below b)
    have V53 := Lib.hid h
    clear h b
    clear HMP
    have h := HoldI.new V53.out
    have b := al_below w53 (.cells #[.bool d53, .slice A53 n53 c53] 34)
    replace HB := Lib.hid (bstep HB.out b)
    replace R0 := Lib.hid (R0.out.below b)
    replace H52 := Lib.hid (H52.out.below b)
    clear b
    have H53 := Lib.hid h
    clear h V53
    have gH520 := H52.out.c0
    have gH521 := H52.out.c1
    have gH530 := H53.out.c0
    have gH531 := H53.out.c1
    go_wp2_with fail
    have HMP := make_any p q _ _ _ H52.out.2 H53.out.2 LP.out LQ.out
    rw [HX.out, HE3.out] at HMP
    refine (HMP).mono ?_
    rintro e w54 ⟨v, rfl, h, b⟩
    obtain ⟨d54, A54, n54, c54, e54, E54, m54, f54, rfl⟩ := h.shape
    clear gH520 gH521 gH530 gH531
    have z54 := b.size
    simp only [World.size_alloc] at z54
    replace z54 := Lib.hid z54
    replace HB := Lib.hid (bstep HB.out b)
    replace R0 := Lib.hid (R0.out.below b)
    replace H52 := Lib.hid (H52.out.below b)
    replace H53 := Lib.hid (H53.out.below b)
    have V54 := Lib.hid h
    clear h b
    clear HMP
    have h := HoldQ.new V54.out
    have b := al_below w54 (.cells #[.bool d54, .slice A54 n54 c54, .bool e54, .slice E54 m54 f54] 36)
    replace HB := Lib.hid (bstep HB.out b)
    replace R0 := Lib.hid (R0.out.below b)
    replace H52 := Lib.hid (H52.out.below b)
    replace H53 := Lib.hid (H53.out.below b)
    clear b
    have H54 := Lib.hid h
    clear h V54
    have mx := fun W => max3_run W 0 0 0 0 (by decide)
    have gH540 := H54.out.c0
    have gH541 := H54.out.c1
    have gH542 := H54.out.c2
    have gH543 := H54.out.c3
    go_wp2_with fail
    clear mx
    refine (fstring_as x _ _ H54.out.2 IX.out T HT.out).mono ?_
    rintro e w55 ⟨rfl, b⟩
    clear gH540 gH541 gH542 gH543
    have z55 := b.size
    simp only [World.size_alloc] at z55
    replace z55 := Lib.hid z55
    replace HB := Lib.hid (bstep HB.out b)
    replace R0 := Lib.hid (R0.out.below b)
    replace H52 := Lib.hid (H52.out.below b)
    replace H53 := Lib.hid (H53.out.below b)
    replace H54 := Lib.hid (H54.out.below b)
    clear b
    have gR00 := R0.out.c0
    have yR00 := R0.out.f0
    have gR01 := R0.out.c1
    have yR01 := R0.out.f1
    have gR02 := R0.out.c2
    have yR02 := R0.out.f2
    have gR03 := R0.out.c3
    have yR03 := R0.out.f3
    have HF := Lib.hid (retQ (RepF.zero _ _) R0.out HB.out (by omega))
    clear HB R0 H52 H53 H54
    clear HP HQ HE1 HE2 HE3 HU HD HUL HDL LP LQ HX HS IX HT
    go_wp2_with fail
    exact bodyPost_ret (v := .tuple #[.agg #[.bool false, .slice none 0 0, .bool false, .slice none 0 0], .int .i64 2]) (by simp [results, Tryz.results50, go_sem, gR00, gR01, gR02, gR03]) rfl ⟨_, rfl, HF.out.1, HF.out.2.1⟩
  · have hft' : (⟨#[49]⟩ : ByteArray) = D := hft
    subst hft'
    clear hft
    go_wp2_with fail
    have HMP := iparse_as U _ HUL.out w51 p e1 HP.out
    rw [HE1.out] at HMP
    refine (HMP).mono ?_
    rintro e w52 ⟨v, rfl, h, b⟩
    obtain ⟨d52, A52, n52, c52, rfl⟩ := h.shape
    have z52 := b.size
    replace z52 := Lib.hid z52
    replace HB := Lib.hid (bstep HB.out b)
    replace R0 := Lib.hid (R0.out.below b)
    have V52 := Lib.hid h
    clear h b
    clear HMP
    have h := HoldI.new V52.out
    have b := al_below w52 (.cells #[.bool d52, .slice A52 n52 c52] 34)
    replace HB := Lib.hid (bstep HB.out b)
    replace R0 := Lib.hid (R0.out.below b)
    clear b
    have H52 := Lib.hid h
    clear h V52
    go_wp2_with fail
    have HMP := iparse_as ⟨#[49]⟩ _ HDL.out (w52.alloc (.cells #[.bool d52, .slice A52 n52 c52] 34)) q e2 HQ.out
    rw [HE2.out] at HMP
    refine (HMP).mono ?_
    rintro e w53 ⟨v, rfl, h, b⟩
    obtain ⟨d53, A53, n53, c53, rfl⟩ := h.shape
    have z53 := b.size
    simp only [World.size_alloc] at z53
    replace z53 := Lib.hid z53
    replace HB := Lib.hid (bstep HB.out b)
    replace R0 := Lib.hid (R0.out.below b)
    replace H52 := Lib.hid (H52.out.below b)
    have V53 := Lib.hid h
    clear h b
    clear HMP
    have h := HoldI.new V53.out
    have b := al_below w53 (.cells #[.bool d53, .slice A53 n53 c53] 34)
    replace HB := Lib.hid (bstep HB.out b)
    replace R0 := Lib.hid (R0.out.below b)
    replace H52 := Lib.hid (H52.out.below b)
    clear b
    have H53 := Lib.hid h
    clear h V53
    have gH520 := H52.out.c0
    have gH521 := H52.out.c1
    have gH530 := H53.out.c0
    have gH531 := H53.out.c1
    go_wp2_with fail
    have HMP := make_any p q _ _ _ H52.out.2 H53.out.2 LP.out LQ.out
    rw [HX.out, HE3.out] at HMP
    refine (HMP).mono ?_
    rintro e w54 ⟨v, rfl, h, b⟩
    obtain ⟨d54, A54, n54, c54, e54, E54, m54, f54, rfl⟩ := h.shape
    clear gH520 gH521 gH530 gH531
    have z54 := b.size
    simp only [World.size_alloc] at z54
    replace z54 := Lib.hid z54
    replace HB := Lib.hid (bstep HB.out b)
    replace R0 := Lib.hid (R0.out.below b)
    replace H52 := Lib.hid (H52.out.below b)
    replace H53 := Lib.hid (H53.out.below b)
    have V54 := Lib.hid h
    clear h b
    clear HMP
    have h := HoldQ.new V54.out
    have b := al_below w54 (.cells #[.bool d54, .slice A54 n54 c54, .bool e54, .slice E54 m54 f54] 36)
    replace HB := Lib.hid (bstep HB.out b)
    replace R0 := Lib.hid (R0.out.below b)
    replace H52 := Lib.hid (H52.out.below b)
    replace H53 := Lib.hid (H53.out.below b)
    clear b
    have H54 := Lib.hid h
    clear h V54
    have mx := fun W => max3_run W 0 0 0 0 (by decide)
    have gH540 := H54.out.c0
    have gH541 := H54.out.c1
    have gH542 := H54.out.c2
    have gH543 := H54.out.c3
    go_wp2_with fail
    clear mx
    refine (fstring_as x _ _ H54.out.2 IX.out T HT.out).mono ?_
    rintro e w55 ⟨rfl, b⟩
    clear gH540 gH541 gH542 gH543
    have z55 := b.size
    simp only [World.size_alloc] at z55
    replace z55 := Lib.hid z55
    replace HB := Lib.hid (bstep HB.out b)
    replace R0 := Lib.hid (R0.out.below b)
    replace H52 := Lib.hid (H52.out.below b)
    replace H53 := Lib.hid (H53.out.below b)
    replace H54 := Lib.hid (H54.out.below b)
    clear b
    have gR00 := R0.out.c0
    have yR00 := R0.out.f0
    have gR01 := R0.out.c1
    have yR01 := R0.out.f1
    have gR02 := R0.out.c2
    have yR02 := R0.out.f2
    have gR03 := R0.out.c3
    have yR03 := R0.out.f3
    have HF := Lib.hid (retQ (RepF.zero _ _) R0.out HB.out (by omega))
    clear HB R0 H52 H53 H54
    clear HP HQ HE1 HE2 HE3 HU HD HUL HDL LP LQ HX HS IX HT
    go_wp2_with fail
    exact bodyPost_ret (v := .tuple #[.agg #[.bool false, .slice none 0 0, .bool false, .slice none 0 0], .int .i64 2]) (by simp [results, Tryz.results50, go_sem, gR00, gR01, gR02, gR03]) rfl ⟨_, rfl, HF.out.1, HF.out.2.1⟩
set_option maxRecDepth 100000 in
set_option maxHeartbeats 4000000 in
theorem parse_good_ (s : ByteArray) (w : World) (hs : s.size ≤ maxLen) (p q : Int) (e1 e2 : Nat) (x : Rat) (hp : parseT (aboveT s.data.toList) = (p, e1)) (hq : parseT (belowT s.data.toList) = (q, e2)) (hx : Rat.divInt p q = x) (hE1 : (e1 : Int) = 0) (hE2 : (e2 : Int) = 0) (hE3 : makeE q = 0) (ix : InF x) (T : ByteArray) (hT : strB (textQ x) = T) (hne : (T.toList == s.toList) = true) :
    Calls Tryz.prog 50 #[.string s] w (NewFE x 0 w) := by
  obtain ⟨U, hU⟩ : ∃ U, strB (aboveT s.data.toList) = U := ⟨_, rfl⟩
  obtain ⟨D, hD⟩ : ∃ D, strB (belowT s.data.toList) = D := ⟨_, rfl⟩
  have hUl : U.data.toList = aboveT s.data.toList := by rw [← hU]; exact strB_list _
  have hDl : D.data.toList = belowT s.data.toList := by rw [← hD]; exact strB_list _
  have HP := Lib.hid hp
  have HQ := Lib.hid hq
  have HU := Lib.hid hU
  have HD := Lib.hid hD
  have HUL := Lib.hid hUl
  have HDL := Lib.hid hDl
  have LP := Lib.hid (parse_in hp)
  have LQ := Lib.hid (parse_in hq)
  have HX := Lib.hid hx
  have HE1 := Lib.hid hE1
  have HE2 := Lib.hid hE2
  have HE3 := Lib.hid hE3
  have HS := Lib.hid hs
  have IX := Lib.hid ix
  have HT := Lib.hid hT
  clear ix hT
  clear hp hq hU hD hUl hDl hx hs hE1 hE2 hE3
  have HB := Lib.hid (Below.refl w.heap.size w)
  go_enter Tryz.func50, Tryz.ntmps50
  have h := Blk4.new w 36 (.bool false) (.slice none 0 0) (.bool false) (.slice none 0 0)
  have b := al_below w (.cells #[.bool false, .slice none 0 0, .bool false, .slice none 0 0] 36)
  replace HB := Lib.hid (bstep HB.out b)
  clear b
  have R0 := Lib.hid (show Blk4 _ (w.heap.size) 36 (.bool false) (.slice none 0 0) (.bool false) (.slice none 0 0) from h)
  clear h
  go_wp2_with fail
  refine (cut_any s _ HS.out).mono ?_
  rintro e w51 ⟨⟨f, t, rfl, hft⟩, b⟩
  rw [HU.out]
  rw [HD.out] at hft
  have z51 := b.size
  simp only [World.size_alloc] at z51
  replace z51 := Lib.hid z51
  replace HB := Lib.hid (bstep HB.out b)
  replace R0 := Lib.hid (R0.out.below b)
  clear b
  rcases Bool.eq_false_or_eq_true f with rfl | rfl
  · have hft' : t = D := hft
    subst hft'
    clear hft
    go_wp2_with fail
    have HMP := iparse_as U _ HUL.out w51 p e1 HP.out
    rw [HE1.out] at HMP
    refine (HMP).mono ?_
    rintro e w52 ⟨v, rfl, h, b⟩
    obtain ⟨d52, A52, n52, c52, rfl⟩ := h.shape
    have z52 := b.size
    replace z52 := Lib.hid z52
    replace HB := Lib.hid (bstep HB.out b)
    replace R0 := Lib.hid (R0.out.below b)
    have V52 := Lib.hid h
    clear h b
    clear HMP
    have h := HoldI.new V52.out
    have b := al_below w52 (.cells #[.bool d52, .slice A52 n52 c52] 34)
    replace HB := Lib.hid (bstep HB.out b)
    replace R0 := Lib.hid (R0.out.below b)
    clear b
    have H52 := Lib.hid h
    clear h V52
    go_wp2_with fail
    have HMP := iparse_as t _ HDL.out (w52.alloc (.cells #[.bool d52, .slice A52 n52 c52] 34)) q e2 HQ.out
    rw [HE2.out] at HMP
    refine (HMP).mono ?_
    rintro e w53 ⟨v, rfl, h, b⟩
    obtain ⟨d53, A53, n53, c53, rfl⟩ := h.shape
    have z53 := b.size
    simp only [World.size_alloc] at z53
    replace z53 := Lib.hid z53
    replace HB := Lib.hid (bstep HB.out b)
    replace R0 := Lib.hid (R0.out.below b)
    replace H52 := Lib.hid (H52.out.below b)
    have V53 := Lib.hid h
    clear h b
    clear HMP
    have h := HoldI.new V53.out
    have b := al_below w53 (.cells #[.bool d53, .slice A53 n53 c53] 34)
    replace HB := Lib.hid (bstep HB.out b)
    replace R0 := Lib.hid (R0.out.below b)
    replace H52 := Lib.hid (H52.out.below b)
    clear b
    have H53 := Lib.hid h
    clear h V53
    have gH520 := H52.out.c0
    have gH521 := H52.out.c1
    have gH530 := H53.out.c0
    have gH531 := H53.out.c1
    go_wp2_with fail
    have HMP := make_any p q _ _ _ H52.out.2 H53.out.2 LP.out LQ.out
    rw [HX.out, HE3.out] at HMP
    refine (HMP).mono ?_
    rintro e w54 ⟨v, rfl, h, b⟩
    obtain ⟨d54, A54, n54, c54, e54, E54, m54, f54, rfl⟩ := h.shape
    clear gH520 gH521 gH530 gH531
    have z54 := b.size
    simp only [World.size_alloc] at z54
    replace z54 := Lib.hid z54
    replace HB := Lib.hid (bstep HB.out b)
    replace R0 := Lib.hid (R0.out.below b)
    replace H52 := Lib.hid (H52.out.below b)
    replace H53 := Lib.hid (H53.out.below b)
    have V54 := Lib.hid h
    clear h b
    clear HMP
    have h := HoldQ.new V54.out
    have b := al_below w54 (.cells #[.bool d54, .slice A54 n54 c54, .bool e54, .slice E54 m54 f54] 36)
    replace HB := Lib.hid (bstep HB.out b)
    replace R0 := Lib.hid (R0.out.below b)
    replace H52 := Lib.hid (H52.out.below b)
    replace H53 := Lib.hid (H53.out.below b)
    clear b
    have H54 := Lib.hid h
    clear h V54
    have mx := fun W => max3_run W 0 0 0 0 (by decide)
    have gH540 := H54.out.c0
    have gH541 := H54.out.c1
    have gH542 := H54.out.c2
    have gH543 := H54.out.c3
    go_wp2_with fail
    clear mx
    refine (fstring_as x _ _ H54.out.2 IX.out T HT.out).mono ?_
    rintro e w55 ⟨rfl, b⟩
    clear gH540 gH541 gH542 gH543
    have z55 := b.size
    simp only [World.size_alloc] at z55
    replace z55 := Lib.hid z55
    replace HB := Lib.hid (bstep HB.out b)
    replace R0 := Lib.hid (R0.out.below b)
    replace H52 := Lib.hid (H52.out.below b)
    replace H53 := Lib.hid (H53.out.below b)
    replace H54 := Lib.hid (H54.out.below b)
    clear b
    have gR00 := R0.out.c0
    have yR00 := R0.out.f0
    have gR01 := R0.out.c1
    have yR01 := R0.out.f1
    have gR02 := R0.out.c2
    have yR02 := R0.out.f2
    have gR03 := R0.out.c3
    have yR03 := R0.out.f3
    have gH540 := H54.out.c0
    have gH541 := H54.out.c1
    have gH542 := H54.out.c2
    have gH543 := H54.out.c3
    have HF := Lib.hid (retQ (H54.out.2) R0.out HB.out (by omega))
    clear HB R0 H52 H53 H54
    clear HP HQ HE1 HE2 HE3 HU HD HUL HDL LP LQ HX HS IX
    go_wp2_with fail
    exact bodyPost_ret (v := .tuple #[.agg #[.bool d54, .slice A54 n54 c54, .bool e54, .slice E54 m54 f54], .int .i64 0]) (by simp [results, Tryz.results50, go_sem, gR00, gR01, gR02, gR03]) rfl ⟨_, rfl, HF.out.1, HF.out.2.1⟩
  · have hft' : (⟨#[49]⟩ : ByteArray) = D := hft
    subst hft'
    clear hft
    go_wp2_with fail
    have HMP := iparse_as U _ HUL.out w51 p e1 HP.out
    rw [HE1.out] at HMP
    refine (HMP).mono ?_
    rintro e w52 ⟨v, rfl, h, b⟩
    obtain ⟨d52, A52, n52, c52, rfl⟩ := h.shape
    have z52 := b.size
    replace z52 := Lib.hid z52
    replace HB := Lib.hid (bstep HB.out b)
    replace R0 := Lib.hid (R0.out.below b)
    have V52 := Lib.hid h
    clear h b
    clear HMP
    have h := HoldI.new V52.out
    have b := al_below w52 (.cells #[.bool d52, .slice A52 n52 c52] 34)
    replace HB := Lib.hid (bstep HB.out b)
    replace R0 := Lib.hid (R0.out.below b)
    clear b
    have H52 := Lib.hid h
    clear h V52
    go_wp2_with fail
    have HMP := iparse_as ⟨#[49]⟩ _ HDL.out (w52.alloc (.cells #[.bool d52, .slice A52 n52 c52] 34)) q e2 HQ.out
    rw [HE2.out] at HMP
    refine (HMP).mono ?_
    rintro e w53 ⟨v, rfl, h, b⟩
    obtain ⟨d53, A53, n53, c53, rfl⟩ := h.shape
    have z53 := b.size
    simp only [World.size_alloc] at z53
    replace z53 := Lib.hid z53
    replace HB := Lib.hid (bstep HB.out b)
    replace R0 := Lib.hid (R0.out.below b)
    replace H52 := Lib.hid (H52.out.below b)
    have V53 := Lib.hid h
    clear h b
    clear HMP
    have h := HoldI.new V53.out
    have b := al_below w53 (.cells #[.bool d53, .slice A53 n53 c53] 34)
    replace HB := Lib.hid (bstep HB.out b)
    replace R0 := Lib.hid (R0.out.below b)
    replace H52 := Lib.hid (H52.out.below b)
    clear b
    have H53 := Lib.hid h
    clear h V53
    have gH520 := H52.out.c0
    have gH521 := H52.out.c1
    have gH530 := H53.out.c0
    have gH531 := H53.out.c1
    go_wp2_with fail
    have HMP := make_any p q _ _ _ H52.out.2 H53.out.2 LP.out LQ.out
    rw [HX.out, HE3.out] at HMP
    refine (HMP).mono ?_
    rintro e w54 ⟨v, rfl, h, b⟩
    obtain ⟨d54, A54, n54, c54, e54, E54, m54, f54, rfl⟩ := h.shape
    clear gH520 gH521 gH530 gH531
    have z54 := b.size
    simp only [World.size_alloc] at z54
    replace z54 := Lib.hid z54
    replace HB := Lib.hid (bstep HB.out b)
    replace R0 := Lib.hid (R0.out.below b)
    replace H52 := Lib.hid (H52.out.below b)
    replace H53 := Lib.hid (H53.out.below b)
    have V54 := Lib.hid h
    clear h b
    clear HMP
    have h := HoldQ.new V54.out
    have b := al_below w54 (.cells #[.bool d54, .slice A54 n54 c54, .bool e54, .slice E54 m54 f54] 36)
    replace HB := Lib.hid (bstep HB.out b)
    replace R0 := Lib.hid (R0.out.below b)
    replace H52 := Lib.hid (H52.out.below b)
    replace H53 := Lib.hid (H53.out.below b)
    clear b
    have H54 := Lib.hid h
    clear h V54
    have mx := fun W => max3_run W 0 0 0 0 (by decide)
    have gH540 := H54.out.c0
    have gH541 := H54.out.c1
    have gH542 := H54.out.c2
    have gH543 := H54.out.c3
    go_wp2_with fail
    clear mx
    refine (fstring_as x _ _ H54.out.2 IX.out T HT.out).mono ?_
    rintro e w55 ⟨rfl, b⟩
    clear gH540 gH541 gH542 gH543
    have z55 := b.size
    simp only [World.size_alloc] at z55
    replace z55 := Lib.hid z55
    replace HB := Lib.hid (bstep HB.out b)
    replace R0 := Lib.hid (R0.out.below b)
    replace H52 := Lib.hid (H52.out.below b)
    replace H53 := Lib.hid (H53.out.below b)
    replace H54 := Lib.hid (H54.out.below b)
    clear b
    have gR00 := R0.out.c0
    have yR00 := R0.out.f0
    have gR01 := R0.out.c1
    have yR01 := R0.out.f1
    have gR02 := R0.out.c2
    have yR02 := R0.out.f2
    have gR03 := R0.out.c3
    have yR03 := R0.out.f3
    have gH540 := H54.out.c0
    have gH541 := H54.out.c1
    have gH542 := H54.out.c2
    have gH543 := H54.out.c3
    have HF := Lib.hid (retQ (H54.out.2) R0.out HB.out (by omega))
    clear HB R0 H52 H53 H54
    clear HP HQ HE1 HE2 HE3 HU HD HUL HDL LP LQ HX HS IX
    go_wp2_with fail
    exact bodyPost_ret (v := .tuple #[.agg #[.bool d54, .slice A54 n54 c54, .bool e54, .slice E54 m54 f54], .int .i64 0]) (by simp [results, Tryz.results50, go_sem, gR00, gR01, gR02, gR03]) rfl ⟨_, rfl, HF.out.1, HF.out.2.1⟩
theorem fparse_any (s : ByteArray) (w : World) (hs : s.size ≤ maxLen) : Calls Tryz.prog 50 #[.string s] w (NewFE (parseQ s.data.toList).1 ((parseQ s.data.toList).2 : Int) w) := by
  obtain ⟨p, e1, hp⟩ : ∃ p e1, parseT (aboveT s.data.toList) = (p, e1) := ⟨_, _, rfl⟩
  obtain ⟨q, e2, hq⟩ : ∃ q e2, parseT (belowT s.data.toList) = (q, e2) := ⟨_, _, rfl⟩
  have hmk : makeE q = 0 ∨ makeE q = 1 := by unfold makeE; split; exact .inr rfl; exact .inl rfl
  by_cases h : max (max (e1 : Int) (e2 : Int)) (makeE q) = 0
  · have h1 : e1 = 0 := by omega
    have h2 : e2 = 0 := by omega
    have h3 : makeE q = 0 := by omega
    have hq0 : q ≠ 0 := fun e => by unfold makeE at h3; rw [if_pos e] at h3; cases h3
    have ix : InF (Rat.divInt p q) := quo_in (parse_lt hp) (parse_lt hq)
    have hcmp : ((strB (textQ (Rat.divInt p q))).toList == s.toList) = decide (textQ (Rat.divInt p q) = s.data.toList) := by
      rw [Lib.toList_data, Lib.toList_data, strB_list]
      by_cases e : textQ (Rat.divInt p q) = s.data.toList
      · rw [e]; simp
      · rw [decide_eq_false e]; simp [e]
    by_cases ht : textQ (Rat.divInt p q) = s.data.toList
    · have e : parseQ s.data.toList = (Rat.divInt p q, 0) := by
        unfold parseQ
        rw [hp, hq]
        exact if_pos ⟨h1, h2, hq0, ht⟩
      rw [e]
      exact parse_good_ s w hs p q e1 e2 _ hp hq rfl (by omega) (by omega) h3 ix _ rfl (by rw [hcmp, decide_eq_true ht])
    · have e : parseQ s.data.toList = (0, 2) := by
        unfold parseQ
        rw [hp, hq]
        exact if_neg (fun hc => ht hc.2.2.2)
      rw [e]
      exact parse_odd_ s w hs p q e1 e2 _ hp hq rfl (by omega) (by omega) h3 ix _ rfl (by rw [hcmp, decide_eq_false ht])
  · have e : parseQ s.data.toList = (0, 2) := by
      unfold parseQ
      rw [hp, hq]
      refine if_neg (fun hc => h ?_)
      have h3 : makeE q = 0 := if_neg hc.2.2.1
      have a1 : e1 = 0 := hc.1
      have a2 : e2 = 0 := hc.2.1
      rw [a1, a2, h3]
      rfl
    rw [e]
    exact parse_bad_ s w hs p q e1 e2 _ hp hq rfl _ _ _ rfl rfl rfl _ rfl h
end Go.Proofs.YtocooajlfpngdaaGreatDoor
