/- Contracts of package frac: Add. · Contracts of package frac: Sub, Div. -/
import Derived.Test.YtocooajlfpngdaaGreatDoorB34
namespace Go.Proofs.YtocooajlfpngdaaGreatDoor
open Go.RowKit
set_option linter.unusedVariables false

theorem fitI_in (z : Int) : InL (fitI z) := by
  unfold fitI
  split
  · assumption
  · show ((0 : Int).natAbs : Int) < lim
    have := lim_1
    simp
    omega
theorem max4_run (W : World) (a b c d m : Int) (hm : max (max (max a b) c) d = m) : (Builtin.max_ #[37, 37, 37, 37] 37 #[.int .i64 a, .int .i64 b, .int .i64 c, .int .i64 d]).run Tryz.prog W = .ok (.int .i64 m) W := by
  subst hm
  simp [Builtin.max_, Builtin.max2]
  repeat' split
  all_goals omega
set_option maxRecDepth 100000 in
set_option maxHeartbeats 4000000 in
theorem add_ok (a b : Rat) (u v : Value) (w : World) (ha : RepF w w.heap.size a u) (hb : RepF w w.heap.size b v) (ia : InF a) (ib : InF b) (d left right : Int) (hg : (Nat.gcd (a.den : Int).natAbs (b.den : Int).natAbs : Int) = d) (gp : 0 < d) (lg : (d.natAbs : Int) < lim) (hl : (a.den : Int) / d = left) (hr : (b.den : Int) / d = right) (pl : 0 < left) (pr : 0 < right) (e5 : (a + b).num = (a.num * right + b.num * left) / (Nat.gcd (a.num * right + b.num * left).natAbs d.natAbs : Nat)) (e6 : ((a + b).den : Int) = (left * right * d) / (Nat.gcd (a.num * right + b.num * left).natAbs d.natAbs : Nat)) (f1 : ((a.num * right).natAbs : Int) < lim) (f2 : ((b.num * left).natAbs : Int) < lim) (f3 : ((a.num * right + b.num * left).natAbs : Int) < lim) (f4 : ((left * right * d).natAbs : Int) < lim) :
    Calls Tryz.prog 28 #[u, v] w (NewFE (a + b) 0 w) := by
  obtain ⟨X, hX⟩ : ∃ X, X = a + b := ⟨_, rfl⟩
  try rw [← hX]
  rw [← hX] at e5 e6
  replace ia := Lib.hid ia
  replace ib := Lib.hid ib
  have HX := Lib.hid hX
  clear hX
  have LG := Lib.hid lg
  have GP := Lib.hid (show d ≠ 0 by omega)
  have DG := Lib.hid (show InL d from lg)
  have QL := Lib.hid (show InL left from hl ▸ ediv_ltl (den_lim ia.out) d)
  have QR := Lib.hid (show InL right from hr ▸ ediv_ltl (den_lim ib.out) d)
  have HG := Lib.hid hg
  have HL := Lib.hid hl
  have HRR := Lib.hid hr
  have F1 := Lib.hid f1
  have F2 := Lib.hid f2
  have F3 := Lib.hid f3
  have F4 := Lib.hid f4
  have E5 := Lib.hid e5
  have E6 := Lib.hid e6
  have PL := Lib.hid pl
  have PR := Lib.hid pr
  have GG := Lib.hid gp
  clear hg hl hr f1 f2 f3 f4 e5 e6 pl pr gp lg
  have HB := Lib.hid (Below.refl w.heap.size w)
  obtain ⟨da, Aa, na, ca, ea, Ea, ma, fa, rfl⟩ := ha.shape
  have Va := Lib.hid ha
  clear ha
  obtain ⟨db, Ab, nb, cb, eb, Eb, mb, fb, rfl⟩ := hb.shape
  have Vb := Lib.hid hb
  clear hb
  go_enter Tryz.func28, Tryz.ntmps28
  have h := HoldQ.new Va.out
  have b := al_below w (.cells #[.bool da, .slice Aa na ca, .bool ea, .slice Ea ma fa] 36)
  replace HB := Lib.hid (bstep HB.out b)
  replace Vb := Lib.hid (Vb.out.step b)
  clear b
  have Ha := Lib.hid h
  clear h Va
  have h := HoldQ.new Vb.out
  simp only [World.size_alloc] at h
  have b := al_below (w.alloc (.cells #[.bool da, .slice Aa na ca, .bool ea, .slice Ea ma fa] 36)) (.cells #[.bool db, .slice Ab nb cb, .bool eb, .slice Eb mb fb] 36)
  replace HB := Lib.hid (bstep HB.out b)
  replace Ha := Lib.hid (Ha.out.below b)
  clear b
  have Hb := Lib.hid h
  clear h Vb
  have h := Blk4.new ((w.alloc (.cells #[.bool da, .slice Aa na ca, .bool ea, .slice Ea ma fa] 36)).alloc (.cells #[.bool db, .slice Ab nb cb, .bool eb, .slice Eb mb fb] 36)) 36 (.bool false) (.slice none 0 0) (.bool false) (.slice none 0 0)
  simp only [World.size_alloc] at h
  have b := al_below ((w.alloc (.cells #[.bool da, .slice Aa na ca, .bool ea, .slice Ea ma fa] 36)).alloc (.cells #[.bool db, .slice Ab nb cb, .bool eb, .slice Eb mb fb] 36)) (.cells #[.bool false, .slice none 0 0, .bool false, .slice none 0 0] 36)
  replace HB := Lib.hid (bstep HB.out b)
  replace Ha := Lib.hid (Ha.out.below b)
  replace Hb := Lib.hid (Hb.out.below b)
  clear b
  have R0 := Lib.hid (show Blk4 _ (w.heap.size + 1 + 1) 36 (.bool false) (.slice none 0 0) (.bool false) (.slice none 0 0) from h)
  clear h
  go_wp2_with fail
  refine add_reg1 rfl rfl rfl Ha.out Hb.out ia.out ib.out ?_
  intro w51 u21 u22 u23 u24 g6 g7 d6 A6 n6 c6 d7 A7 n7 c7 b h6 h7 x6_7 l6 l7
  simp only [List.foldl_cons, List.foldl_nil, List.setIfInBounds_toArray, List.set_cons_zero, List.set_cons_succ]
  simp only [World.size_alloc] at l6 l7
  have z51 := b.size
  simp only [World.size_alloc] at z51
  replace z51 := Lib.hid z51
  replace HB := Lib.hid (bstep HB.out b)
  replace Ha := Lib.hid (Ha.out.below b)
  replace Hb := Lib.hid (Hb.out.below b)
  replace R0 := Lib.hid (R0.out.below b)
  have H6 := Lib.hid h6
  have L6 := Lib.hid l6
  clear h6 l6
  have H7 := Lib.hid h7
  have L7 := Lib.hid l7
  clear h7 l7
  replace x6_7 := Lib.hid x6_7
  clear b
  have gH60 := H6.out.c0
  have gH61 := H6.out.c1
  have gH70 := H7.out.c0
  have gH71 := H7.out.c1
  go_wp2_with fail
  refine (igcd_lim (a.den : Int) (b.den : Int) _ _ _ H6.out.2 H7.out.2 (den_lim ia.out) (den_lim ib.out) d HG.out).mono ?_
  rintro e w52 ⟨v, rfl, h, b⟩
  obtain ⟨d52, A52, n52, c52, rfl⟩ := h.shape
  clear gH60 gH61 gH70 gH71
  have z52 := b.size
  replace z52 := Lib.hid z52
  replace HB := Lib.hid (bstep HB.out b)
  replace Ha := Lib.hid (Ha.out.below b)
  replace Hb := Lib.hid (Hb.out.below b)
  replace R0 := Lib.hid (R0.out.below b)
  replace H6 := Lib.hid (H6.out.below b)
  replace H7 := Lib.hid (H7.out.below b)
  have V52 := Lib.hid h
  clear h b
  have h := HoldI.new V52.out
  have b := al_below w52 (.cells #[.bool d52, .slice A52 n52 c52] 34)
  replace HB := Lib.hid (bstep HB.out b)
  replace Ha := Lib.hid (Ha.out.below b)
  replace Hb := Lib.hid (Hb.out.below b)
  replace R0 := Lib.hid (R0.out.below b)
  replace H6 := Lib.hid (H6.out.below b)
  replace H7 := Lib.hid (H7.out.below b)
  clear b
  have H52 := Lib.hid h
  clear h V52
  skip
  go_wp2_with fail
  refine add_reg3 (x := (a.den : Int)) (y := (b.den : Int)) (d := d) rfl rfl rfl rfl H6.out H7.out H52.out (den_lim ia.out) (den_lim ib.out) LG.out GP.out ?_
  intro w53 u28 u29 u30 u31 u32 u33 g9 g10 d9 A9 n9 c9 d10 A10 n10 c10 b h9 h10 x9_10 l9 l10
  simp only [List.foldl_cons, List.foldl_nil, List.setIfInBounds_toArray, List.set_cons_zero, List.set_cons_succ]
  simp only [World.size_alloc] at l9 l10
  have z53 := b.size
  simp only [World.size_alloc] at z53
  replace z53 := Lib.hid z53
  replace HB := Lib.hid (bstep HB.out b)
  replace Ha := Lib.hid (Ha.out.below b)
  replace Hb := Lib.hid (Hb.out.below b)
  replace R0 := Lib.hid (R0.out.below b)
  replace H6 := Lib.hid (H6.out.below b)
  replace H7 := Lib.hid (H7.out.below b)
  replace H52 := Lib.hid (H52.out.below b)
  have H9 := Lib.hid h9
  have L9 := Lib.hid l9
  clear h9 l9
  have H10 := Lib.hid h10
  have L10 := Lib.hid l10
  clear h10 l10
  replace x9_10 := Lib.hid x9_10
  clear b
  rw [HL.out] at H9
  rw [HRR.out] at H10
  have gHa0 := Ha.out.c0
  have gHa1 := Ha.out.c1
  have gHa2 := Ha.out.c2
  have gHa3 := Ha.out.c3
  have gH100 := H10.out.c0
  have gH101 := H10.out.c1
  go_wp2_with fail
  have HR := Lib.hid (ArrI.mk2 (W := w53) 34 Ha.out.2.num H10.out.2)
  have hgR := Lib.hid (show w53.heap.size < (w53.alloc (.cells #[.bool da, .slice Aa na ca, .bool d10, .slice A10 n10 c10] 34)).heap.size from by simp only [World.size_alloc]; omega)
  have b := al_below w53 (.cells #[.bool da, .slice Aa na ca, .bool d10, .slice A10 n10 c10] 34)
  replace HB := Lib.hid (bstep HB.out b)
  replace Ha := Lib.hid (Ha.out.below b)
  replace Hb := Lib.hid (Hb.out.below b)
  replace R0 := Lib.hid (R0.out.below b)
  replace H6 := Lib.hid (H6.out.below b)
  replace H7 := Lib.hid (H7.out.below b)
  replace H52 := Lib.hid (H52.out.below b)
  replace H9 := Lib.hid (H9.out.below b)
  replace H10 := Lib.hid (H10.out.below b)
  clear b
  clear gHa0 gHa1 gHa2 gHa3 gH100 gH101
  have HMP := product_any [a.num, right] (w53.heap.size) 2 2 _ HR.out hgR rfl (Lib.hid (by omega)) (in_two ia.out.1 QR.out)
  rw [prod_two ia.out.1, (fit_in F1.out).1, (fit_in F1.out).2] at HMP
  dsimp only at HMP
  refine (HMP).mono ?_
  rintro e w54 ⟨v, rfl, h, b⟩
  obtain ⟨d54, A54, n54, c54, rfl⟩ := h.shape
  have z54 := b.size
  simp only [World.size_alloc] at z54
  replace z54 := Lib.hid z54
  replace HB := Lib.hid (bstep HB.out b)
  replace Ha := Lib.hid (Ha.out.below b)
  replace Hb := Lib.hid (Hb.out.below b)
  replace R0 := Lib.hid (R0.out.below b)
  replace H6 := Lib.hid (H6.out.below b)
  replace H7 := Lib.hid (H7.out.below b)
  replace H52 := Lib.hid (H52.out.below b)
  replace H9 := Lib.hid (H9.out.below b)
  replace H10 := Lib.hid (H10.out.below b)
  have V54 := Lib.hid h
  clear h b
  clear HMP HR hgR
  have h := HoldI.new V54.out
  have b := al_below w54 (.cells #[.bool d54, .slice A54 n54 c54] 34)
  replace HB := Lib.hid (bstep HB.out b)
  replace Ha := Lib.hid (Ha.out.below b)
  replace Hb := Lib.hid (Hb.out.below b)
  replace R0 := Lib.hid (R0.out.below b)
  replace H6 := Lib.hid (H6.out.below b)
  replace H7 := Lib.hid (H7.out.below b)
  replace H52 := Lib.hid (H52.out.below b)
  replace H9 := Lib.hid (H9.out.below b)
  replace H10 := Lib.hid (H10.out.below b)
  clear b
  have H54 := Lib.hid h
  clear h V54
  have gHb0 := Hb.out.c0
  have gHb1 := Hb.out.c1
  have gHb2 := Hb.out.c2
  have gHb3 := Hb.out.c3
  have gH90 := H9.out.c0
  have gH91 := H9.out.c1
  go_wp2_with fail
  have HR := Lib.hid (ArrI.mk2 (W := (w54.alloc (.cells #[.bool d54, .slice A54 n54 c54] 34))) 34 Hb.out.2.num H9.out.2)
  have hgR := Lib.hid (show w54.heap.size + 1 < ((w54.alloc (.cells #[.bool d54, .slice A54 n54 c54] 34)).alloc (.cells #[.bool db, .slice Ab nb cb, .bool d9, .slice A9 n9 c9] 34)).heap.size from by simp only [World.size_alloc]; omega)
  simp only [World.size_alloc] at HR
  have b := al_below (w54.alloc (.cells #[.bool d54, .slice A54 n54 c54] 34)) (.cells #[.bool db, .slice Ab nb cb, .bool d9, .slice A9 n9 c9] 34)
  replace HB := Lib.hid (bstep HB.out b)
  replace Ha := Lib.hid (Ha.out.below b)
  replace Hb := Lib.hid (Hb.out.below b)
  replace R0 := Lib.hid (R0.out.below b)
  replace H6 := Lib.hid (H6.out.below b)
  replace H7 := Lib.hid (H7.out.below b)
  replace H52 := Lib.hid (H52.out.below b)
  replace H9 := Lib.hid (H9.out.below b)
  replace H10 := Lib.hid (H10.out.below b)
  replace H54 := Lib.hid (H54.out.below b)
  clear b
  clear gHb0 gHb1 gHb2 gHb3 gH90 gH91
  have HMP := product_any [b.num, left] (w54.heap.size + 1) 2 2 _ HR.out hgR rfl (Lib.hid (by omega)) (in_two ib.out.1 QL.out)
  rw [prod_two ib.out.1, (fit_in F2.out).1, (fit_in F2.out).2] at HMP
  dsimp only at HMP
  refine (HMP).mono ?_
  rintro e w55 ⟨v, rfl, h, b⟩
  obtain ⟨d55, A55, n55, c55, rfl⟩ := h.shape
  have z55 := b.size
  simp only [World.size_alloc] at z55
  replace z55 := Lib.hid z55
  replace HB := Lib.hid (bstep HB.out b)
  replace Ha := Lib.hid (Ha.out.below b)
  replace Hb := Lib.hid (Hb.out.below b)
  replace R0 := Lib.hid (R0.out.below b)
  replace H6 := Lib.hid (H6.out.below b)
  replace H7 := Lib.hid (H7.out.below b)
  replace H52 := Lib.hid (H52.out.below b)
  replace H9 := Lib.hid (H9.out.below b)
  replace H10 := Lib.hid (H10.out.below b)
  replace H54 := Lib.hid (H54.out.below b)
  have V55 := Lib.hid h
  clear h b
  clear HMP HR hgR
  have h := HoldI.new V55.out
  have b := al_below w55 (.cells #[.bool d55, .slice A55 n55 c55] 34)
  replace HB := Lib.hid (bstep HB.out b)
  replace Ha := Lib.hid (Ha.out.below b)
  replace Hb := Lib.hid (Hb.out.below b)
  replace R0 := Lib.hid (R0.out.below b)
  replace H6 := Lib.hid (H6.out.below b)
  replace H7 := Lib.hid (H7.out.below b)
  replace H52 := Lib.hid (H52.out.below b)
  replace H9 := Lib.hid (H9.out.below b)
  replace H10 := Lib.hid (H10.out.below b)
  replace H54 := Lib.hid (H54.out.below b)
  clear b
  have H55 := Lib.hid h
  clear h V55
  have gH540 := H54.out.c0
  have gH541 := H54.out.c1
  have gH550 := H55.out.c0
  have gH551 := H55.out.c1
  go_wp2_with fail
  have HMP := iadd_any (a.num * right) (b.num * left) _ _ _ H54.out.2 H55.out.2 F1.out F2.out
  rw [(fit_in F3.out).1, (fit_in F3.out).2] at HMP
  refine (HMP).mono ?_
  rintro e w56 ⟨v, rfl, h, b⟩
  obtain ⟨d56, A56, n56, c56, rfl⟩ := h.shape
  clear gH540 gH541 gH550 gH551
  have z56 := b.size
  simp only [World.size_alloc] at z56
  replace z56 := Lib.hid z56
  replace HB := Lib.hid (bstep HB.out b)
  replace Ha := Lib.hid (Ha.out.below b)
  replace Hb := Lib.hid (Hb.out.below b)
  replace R0 := Lib.hid (R0.out.below b)
  replace H6 := Lib.hid (H6.out.below b)
  replace H7 := Lib.hid (H7.out.below b)
  replace H52 := Lib.hid (H52.out.below b)
  replace H9 := Lib.hid (H9.out.below b)
  replace H10 := Lib.hid (H10.out.below b)
  replace H54 := Lib.hid (H54.out.below b)
  replace H55 := Lib.hid (H55.out.below b)
  have V56 := Lib.hid h
  clear h b
  clear HMP
  have h := HoldI.new V56.out
  have b := al_below w56 (.cells #[.bool d56, .slice A56 n56 c56] 34)
  replace HB := Lib.hid (bstep HB.out b)
  replace Ha := Lib.hid (Ha.out.below b)
  replace Hb := Lib.hid (Hb.out.below b)
  replace R0 := Lib.hid (R0.out.below b)
  replace H6 := Lib.hid (H6.out.below b)
  replace H7 := Lib.hid (H7.out.below b)
  replace H52 := Lib.hid (H52.out.below b)
  replace H9 := Lib.hid (H9.out.below b)
  replace H10 := Lib.hid (H10.out.below b)
  replace H54 := Lib.hid (H54.out.below b)
  replace H55 := Lib.hid (H55.out.below b)
  clear b
  have H56 := Lib.hid h
  clear h V56
  have gH90 := H9.out.c0
  have gH91 := H9.out.c1
  have gH100 := H10.out.c0
  have gH101 := H10.out.c1
  have gH520 := H52.out.c0
  have gH521 := H52.out.c1
  go_wp2_with fail
  have HR := Lib.hid (ArrI.mk3 (W := (w56.alloc (.cells #[.bool d56, .slice A56 n56 c56] 34))) 34 H9.out.2 H10.out.2 H52.out.2)
  have hgR := Lib.hid (show w56.heap.size + 1 < ((w56.alloc (.cells #[.bool d56, .slice A56 n56 c56] 34)).alloc (.cells #[.bool d9, .slice A9 n9 c9, .bool d10, .slice A10 n10 c10, .bool d52, .slice A52 n52 c52] 34)).heap.size from by simp only [World.size_alloc]; omega)
  simp only [World.size_alloc] at HR
  have b := al_below (w56.alloc (.cells #[.bool d56, .slice A56 n56 c56] 34)) (.cells #[.bool d9, .slice A9 n9 c9, .bool d10, .slice A10 n10 c10, .bool d52, .slice A52 n52 c52] 34)
  replace HB := Lib.hid (bstep HB.out b)
  replace Ha := Lib.hid (Ha.out.below b)
  replace Hb := Lib.hid (Hb.out.below b)
  replace R0 := Lib.hid (R0.out.below b)
  replace H6 := Lib.hid (H6.out.below b)
  replace H7 := Lib.hid (H7.out.below b)
  replace H52 := Lib.hid (H52.out.below b)
  replace H9 := Lib.hid (H9.out.below b)
  replace H10 := Lib.hid (H10.out.below b)
  replace H54 := Lib.hid (H54.out.below b)
  replace H55 := Lib.hid (H55.out.below b)
  replace H56 := Lib.hid (H56.out.below b)
  clear b
  clear gH90 gH91 gH100 gH101 gH520 gH521
  have HMP := product_any [left, right, d] (w56.heap.size + 1) 3 3 _ HR.out hgR rfl (Lib.hid (by omega)) (in_three QL.out QR.out DG.out)
  rw [prod_three PL.out PR.out GG.out QL.out, (fit_in F4.out).1, (fit_in F4.out).2] at HMP
  dsimp only at HMP
  refine (HMP).mono ?_
  rintro e w57 ⟨v, rfl, h, b⟩
  obtain ⟨d57, A57, n57, c57, rfl⟩ := h.shape
  have z57 := b.size
  simp only [World.size_alloc] at z57
  replace z57 := Lib.hid z57
  replace HB := Lib.hid (bstep HB.out b)
  replace Ha := Lib.hid (Ha.out.below b)
  replace Hb := Lib.hid (Hb.out.below b)
  replace R0 := Lib.hid (R0.out.below b)
  replace H6 := Lib.hid (H6.out.below b)
  replace H7 := Lib.hid (H7.out.below b)
  replace H52 := Lib.hid (H52.out.below b)
  replace H9 := Lib.hid (H9.out.below b)
  replace H10 := Lib.hid (H10.out.below b)
  replace H54 := Lib.hid (H54.out.below b)
  replace H55 := Lib.hid (H55.out.below b)
  replace H56 := Lib.hid (H56.out.below b)
  have V57 := Lib.hid h
  clear h b
  clear HMP HR hgR
  have h := HoldI.new V57.out
  have b := al_below w57 (.cells #[.bool d57, .slice A57 n57 c57] 34)
  replace HB := Lib.hid (bstep HB.out b)
  replace Ha := Lib.hid (Ha.out.below b)
  replace Hb := Lib.hid (Hb.out.below b)
  replace R0 := Lib.hid (R0.out.below b)
  replace H6 := Lib.hid (H6.out.below b)
  replace H7 := Lib.hid (H7.out.below b)
  replace H52 := Lib.hid (H52.out.below b)
  replace H9 := Lib.hid (H9.out.below b)
  replace H10 := Lib.hid (H10.out.below b)
  replace H54 := Lib.hid (H54.out.below b)
  replace H55 := Lib.hid (H55.out.below b)
  replace H56 := Lib.hid (H56.out.below b)
  clear b
  have H57 := Lib.hid h
  clear h V57
  have mx := fun W => max4_run W 0 0 0 0 0 (by decide)
  have gH560 := H56.out.c0
  have gH561 := H56.out.c1
  have gH520 := H52.out.c0
  have gH521 := H52.out.c1
  go_wp2_with fail
  clear mx
  obtain ⟨e, he⟩ : ∃ e, (Nat.gcd (a.num * right + b.num * left).natAbs d.natAbs : Int) = e := ⟨_, rfl⟩
  have HE := Lib.hid he
  have hgp := Nat.gcd_pos_of_pos_right (a.num * right + b.num * left).natAbs (show 0 < d.natAbs by have := GG.out; omega)
  have HE0 := Lib.hid (show e ≠ 0 by omega)
  have HEL := Lib.hid (show InL e from he ▸ gcd_ltl F3.out LG.out)
  rw [he] at E5 E6
  clear he hgp
  refine (igcd_lim (a.num * right + b.num * left) d _ _ _ H56.out.2 H52.out.2 F3.out LG.out e HE.out).mono ?_
  rintro e w58 ⟨v, rfl, h, b⟩
  obtain ⟨d58, A58, n58, c58, rfl⟩ := h.shape
  clear gH560 gH561 gH520 gH521
  have z58 := b.size
  simp only [World.size_alloc] at z58
  replace z58 := Lib.hid z58
  replace HB := Lib.hid (bstep HB.out b)
  replace Ha := Lib.hid (Ha.out.below b)
  replace Hb := Lib.hid (Hb.out.below b)
  replace R0 := Lib.hid (R0.out.below b)
  replace H6 := Lib.hid (H6.out.below b)
  replace H7 := Lib.hid (H7.out.below b)
  replace H52 := Lib.hid (H52.out.below b)
  replace H9 := Lib.hid (H9.out.below b)
  replace H10 := Lib.hid (H10.out.below b)
  replace H54 := Lib.hid (H54.out.below b)
  replace H55 := Lib.hid (H55.out.below b)
  replace H56 := Lib.hid (H56.out.below b)
  replace H57 := Lib.hid (H57.out.below b)
  have V58 := Lib.hid h
  clear h b
  have h := HoldI.new V58.out
  have b := al_below w58 (.cells #[.bool d58, .slice A58 n58 c58] 34)
  replace HB := Lib.hid (bstep HB.out b)
  replace Ha := Lib.hid (Ha.out.below b)
  replace Hb := Lib.hid (Hb.out.below b)
  replace R0 := Lib.hid (R0.out.below b)
  replace H6 := Lib.hid (H6.out.below b)
  replace H7 := Lib.hid (H7.out.below b)
  replace H52 := Lib.hid (H52.out.below b)
  replace H9 := Lib.hid (H9.out.below b)
  replace H10 := Lib.hid (H10.out.below b)
  replace H54 := Lib.hid (H54.out.below b)
  replace H55 := Lib.hid (H55.out.below b)
  replace H56 := Lib.hid (H56.out.below b)
  replace H57 := Lib.hid (H57.out.below b)
  clear b
  have H58 := Lib.hid h
  clear h V58
  obtain ⟨W59, hW⟩ : ∃ W, W = (w58.alloc (.cells #[.bool d58, .slice A58 n58 c58] 34)) := ⟨_, rfl⟩
  have HW := Lib.hid hW
  rw [← hW] at HB
  rw [← hW] at Ha
  rw [← hW] at Hb
  rw [← hW] at R0
  rw [← hW] at H6
  rw [← hW] at H7
  rw [← hW] at H52
  rw [← hW] at H9
  rw [← hW] at H10
  rw [← hW] at H54
  rw [← hW] at H55
  rw [← hW] at H56
  rw [← hW] at H57
  rw [← hW] at H58
  clear hW
  go_wp2_with fail
  rw [← HW.out]
  clear HW
  have qH560 := H56.out.c0
  have qH561 := H56.out.c1
  have qH580 := H58.out.c0
  have qH581 := H58.out.c1
  have qH570 := H57.out.c0
  have qH571 := H57.out.c1
  have z51_ := z51.out
  have z52_ := z52.out
  have z53_ := z53.out
  have z54_ := z54.out
  have z55_ := z55.out
  have z56_ := z56.out
  have z57_ := z57.out
  have z58_ := z58.out
  go_region_held3 (fun w' => w'.cell? ⟨w56.heap.size, 0, none⟩ = some (.bool d56) ∧ w'.cell? ⟨w56.heap.size, 1, none⟩ = some (.slice A56 n56 c56) ∧ w'.cell? ⟨w58.heap.size, 0, none⟩ = some (.bool d58) ∧ w'.cell? ⟨w58.heap.size, 1, none⟩ = some (.slice A58 n58 c58) ∧ w'.cell? ⟨w57.heap.size, 0, none⟩ = some (.bool d57) ∧ w'.cell? ⟨w57.heap.size, 1, none⟩ = some (.slice A57 n57 c57))
    (exact ⟨by first | with_reducible assumption | (simp only [World.cell?_drew]; with_reducible assumption) | (try simp only [World.cell?_drew]); repeat' (first | with_reducible assumption | with_reducible refine cell_set2 ?_ (by omega) | with_reducible refine cell_set4 ?_ (by omega)), by first | with_reducible assumption | (simp only [World.cell?_drew]; with_reducible assumption) | (try simp only [World.cell?_drew]); repeat' (first | with_reducible assumption | with_reducible refine cell_set2 ?_ (by omega) | with_reducible refine cell_set4 ?_ (by omega)), by first | with_reducible assumption | (simp only [World.cell?_drew]; with_reducible assumption) | (try simp only [World.cell?_drew]); repeat' (first | with_reducible assumption | with_reducible refine cell_set2 ?_ (by omega) | with_reducible refine cell_set4 ?_ (by omega)), by first | with_reducible assumption | (simp only [World.cell?_drew]; with_reducible assumption) | (try simp only [World.cell?_drew]); repeat' (first | with_reducible assumption | with_reducible refine cell_set2 ?_ (by omega) | with_reducible refine cell_set4 ?_ (by omega)), by first | with_reducible assumption | (simp only [World.cell?_drew]; with_reducible assumption) | (try simp only [World.cell?_drew]); repeat' (first | with_reducible assumption | with_reducible refine cell_set2 ?_ (by omega) | with_reducible refine cell_set4 ?_ (by omega)), by first | with_reducible assumption | (simp only [World.cell?_drew]; with_reducible assumption) | (try simp only [World.cell?_drew]); repeat' (first | with_reducible assumption | with_reducible refine cell_set2 ?_ (by omega) | with_reducible refine cell_set4 ?_ (by omega))⟩)
    (first
      | (go_at_call 70
         with_reducible show Calls Tryz.prog 70 #[.agg #[.bool d56, .slice A56 n56 c56], .agg #[.bool d58, .slice A58 n58 c58]] _ _
         refine (quotient_any (a.num * right + b.num * left) e _ _ _ (H56.out.2.step (by repeat' (first | with_reducible exact Below.refl _ _ | with_reducible assumption | with_reducible refine below_drew ?_))) (H58.out.2.step (by repeat' (first | with_reducible exact Below.refl _ _ | with_reducible assumption | with_reducible refine below_drew ?_))) F3.out HEL.out HE0.out).mono ?_
         rintro e w60 ⟨v60, rfl, h60, b60⟩
         obtain ⟨d60, A60, n60, c60, rfl⟩ := h60.shape
         have hb60 : Below W59.heap.size W59 w60 := bstep (by repeat' (first | with_reducible exact Below.refl _ _ | with_reducible assumption | with_reducible refine below_drew ?_)) b60
         have V60 := Lib.hid h60
         clear h60
         replace qH560 := cell_below (H56.out.c0) hb60
         replace qH561 := cell_below (H56.out.c1) hb60
         replace qH580 := cell_below (H58.out.c0) hb60
         replace qH581 := cell_below (H58.out.c1) hb60
         replace qH570 := cell_below (H57.out.c0) hb60
         replace qH571 := cell_below (H57.out.c1) hb60)
      | (go_at_call 70
         with_reducible show Calls Tryz.prog 70 #[.agg #[.bool d57, .slice A57 n57 c57], .agg #[.bool d58, .slice A58 n58 c58]] _ _
         refine (quotient_any (left * right * d) e _ _ _ (H57.out.2.step (by repeat' (first | with_reducible exact Below.refl _ _ | with_reducible assumption | with_reducible refine below_drew ?_))) (H58.out.2.step (by repeat' (first | with_reducible exact Below.refl _ _ | with_reducible assumption | with_reducible refine below_drew ?_))) F4.out HEL.out HE0.out).mono ?_
         rintro e w61 ⟨v61, rfl, h61, b61⟩
         obtain ⟨d61, A61, n61, c61, rfl⟩ := h61.shape
         have hb61 : Below W59.heap.size W59 w61 := bstep (by repeat' (first | with_reducible exact Below.refl _ _ | with_reducible assumption | with_reducible refine below_drew ?_)) b61
         replace V60 := Lib.hid (V60.out.step (by first | exact b61 | exact undrew b61 | exact undrew (undrew b61)))
         have V61 := Lib.hid h61
         clear h61
         replace qH560 := cell_below (H56.out.c0) hb61
         replace qH561 := cell_below (H56.out.c1) hb61
         replace qH580 := cell_below (H58.out.c0) hb61
         replace qH581 := cell_below (H58.out.c1) hb61
         replace qH570 := cell_below (H57.out.c0) hb61
         replace qH571 := cell_below (H57.out.c1) hb61
         replace HB := Lib.hid (bstep HB.out hb61)
         replace Ha := Lib.hid (Ha.out.below hb61)
         replace Hb := Lib.hid (Hb.out.below hb61)
         replace R0 := Lib.hid (R0.out.below hb61)
         replace H6 := Lib.hid (H6.out.below hb61)
         replace H7 := Lib.hid (H7.out.below hb61)
         replace H52 := Lib.hid (H52.out.below hb61)
         replace H9 := Lib.hid (H9.out.below hb61)
         replace H10 := Lib.hid (H10.out.below hb61)
         replace H54 := Lib.hid (H54.out.below hb61)
         replace H55 := Lib.hid (H55.out.below hb61)
         replace H56 := Lib.hid (H56.out.below hb61)
         replace H57 := Lib.hid (H57.out.below hb61)
         replace H58 := Lib.hid (H58.out.below hb61)
         clear b60 hb60 b61 hb61
         have gR00 := R0.out.c0
         have yR00 := R0.out.f0
         have gR01 := R0.out.c1
         have yR01 := R0.out.f1
         have gR02 := R0.out.c2
         have yR02 := R0.out.f2
         have gR03 := R0.out.c3
         have yR03 := R0.out.f3
         have HF := Lib.hid (retQ (RepF.mk' V60.out V61.out E5.out.symm E6.out.symm) R0.out HB.out (by omega))))
  clear z51_ z52_ z53_ z54_ z55_ z56_ z57_ z58_
  clear qH560 qH561 qH580 qH581 qH570 qH571
  clear HB Ha Hb R0 H6 H7 H52 H9 H10 H54 H55 H56 H57 H58 V60 V61
  clear ia ib HX E5 E6 LG GP DG QL QR HG HL HRR F1 F2 F3 F4 PL PR GG L6 L7 L9 L10 x6_7 x9_10 HE HE0 HEL
  go_wp2_with fail
  exact bodyPost_ret (v := .tuple #[.agg #[.bool d60, .slice A60 n60 c60, .bool d61, .slice A61 n61 c61], .int .i64 0]) (by simp [results, Tryz.results28, go_sem, gR00, gR01, gR02, gR03]) rfl ⟨_, rfl, HF.out.1, HF.out.2.1⟩
set_option maxRecDepth 100000 in
set_option maxHeartbeats 4000000 in
theorem add_bad (a b : Rat) (u v : Value) (w : World) (ha : RepF w w.heap.size a u) (hb : RepF w w.heap.size b v) (ia : InF a) (ib : InF b) (d left right : Int) (hg : (Nat.gcd (a.den : Int).natAbs (b.den : Int).natAbs : Int) = d) (gp : 0 < d) (lg : (d.natAbs : Int) < lim) (hl : (a.den : Int) / d = left) (hr : (b.den : Int) / d = right) (pl : 0 < left) (pr : 0 < right) (P R S D E1 E2 E3 E4 : Int) (f1 : fitI (a.num * right) = P ∧ fitE (a.num * right) = E1) (f2 : fitI (b.num * left) = R ∧ fitE (b.num * left) = E2) (f3 : fitI (P + R) = S ∧ fitE (P + R) = E3) (f4 : fitI (left * right * d) = D ∧ fitE (left * right * d) = E4) (hmx : max (max (max E1 E2) E3) E4 = 4) :
    Calls Tryz.prog 28 #[u, v] w (NewFE 0 4 w) := by
  replace ia := Lib.hid ia
  replace ib := Lib.hid ib
  have LG := Lib.hid lg
  have GP := Lib.hid (show d ≠ 0 by omega)
  have DG := Lib.hid (show InL d from lg)
  have QL := Lib.hid (show InL left from hl ▸ ediv_ltl (den_lim ia.out) d)
  have QR := Lib.hid (show InL right from hr ▸ ediv_ltl (den_lim ib.out) d)
  have HG := Lib.hid hg
  have HL := Lib.hid hl
  have HRR := Lib.hid hr
  have HP := Lib.hid (show InL P from f1.1 ▸ fitI_in _)
  have HR0 := Lib.hid (show InL R from f2.1 ▸ fitI_in _)
  have F1 := Lib.hid f1
  have F2 := Lib.hid f2
  have F3 := Lib.hid f3
  have F4 := Lib.hid f4
  have PL := Lib.hid pl
  have PR := Lib.hid pr
  have GG := Lib.hid gp
  replace hmx := Lib.hid hmx
  clear hg hl hr f1 f2 f3 f4 pl pr gp lg
  have HB := Lib.hid (Below.refl w.heap.size w)
  obtain ⟨da, Aa, na, ca, ea, Ea, ma, fa, rfl⟩ := ha.shape
  have Va := Lib.hid ha
  clear ha
  obtain ⟨db, Ab, nb, cb, eb, Eb, mb, fb, rfl⟩ := hb.shape
  have Vb := Lib.hid hb
  clear hb
  go_enter Tryz.func28, Tryz.ntmps28
  have h := HoldQ.new Va.out
  have b := al_below w (.cells #[.bool da, .slice Aa na ca, .bool ea, .slice Ea ma fa] 36)
  replace HB := Lib.hid (bstep HB.out b)
  replace Vb := Lib.hid (Vb.out.step b)
  clear b
  have Ha := Lib.hid h
  clear h Va
  have h := HoldQ.new Vb.out
  simp only [World.size_alloc] at h
  have b := al_below (w.alloc (.cells #[.bool da, .slice Aa na ca, .bool ea, .slice Ea ma fa] 36)) (.cells #[.bool db, .slice Ab nb cb, .bool eb, .slice Eb mb fb] 36)
  replace HB := Lib.hid (bstep HB.out b)
  replace Ha := Lib.hid (Ha.out.below b)
  clear b
  have Hb := Lib.hid h
  clear h Vb
  have h := Blk4.new ((w.alloc (.cells #[.bool da, .slice Aa na ca, .bool ea, .slice Ea ma fa] 36)).alloc (.cells #[.bool db, .slice Ab nb cb, .bool eb, .slice Eb mb fb] 36)) 36 (.bool false) (.slice none 0 0) (.bool false) (.slice none 0 0)
  simp only [World.size_alloc] at h
  have b := al_below ((w.alloc (.cells #[.bool da, .slice Aa na ca, .bool ea, .slice Ea ma fa] 36)).alloc (.cells #[.bool db, .slice Ab nb cb, .bool eb, .slice Eb mb fb] 36)) (.cells #[.bool false, .slice none 0 0, .bool false, .slice none 0 0] 36)
  replace HB := Lib.hid (bstep HB.out b)
  replace Ha := Lib.hid (Ha.out.below b)
  replace Hb := Lib.hid (Hb.out.below b)
  clear b
  have R0 := Lib.hid (show Blk4 _ (w.heap.size + 1 + 1) 36 (.bool false) (.slice none 0 0) (.bool false) (.slice none 0 0) from h)
  clear h
  go_wp2_with fail
  refine add_reg1 rfl rfl rfl Ha.out Hb.out ia.out ib.out ?_
  intro w51 u21 u22 u23 u24 g6 g7 d6 A6 n6 c6 d7 A7 n7 c7 b h6 h7 x6_7 l6 l7
  simp only [List.foldl_cons, List.foldl_nil, List.setIfInBounds_toArray, List.set_cons_zero, List.set_cons_succ]
  simp only [World.size_alloc] at l6 l7
  have z51 := b.size
  simp only [World.size_alloc] at z51
  replace z51 := Lib.hid z51
  replace HB := Lib.hid (bstep HB.out b)
  replace Ha := Lib.hid (Ha.out.below b)
  replace Hb := Lib.hid (Hb.out.below b)
  replace R0 := Lib.hid (R0.out.below b)
  have H6 := Lib.hid h6
  have L6 := Lib.hid l6
  clear h6 l6
  have H7 := Lib.hid h7
  have L7 := Lib.hid l7
  clear h7 l7
  replace x6_7 := Lib.hid x6_7
  clear b
  have gH60 := H6.out.c0
  have gH61 := H6.out.c1
  have gH70 := H7.out.c0
  have gH71 := H7.out.c1
  go_wp2_with fail
  refine (igcd_lim (a.den : Int) (b.den : Int) _ _ _ H6.out.2 H7.out.2 (den_lim ia.out) (den_lim ib.out) d HG.out).mono ?_
  rintro e w52 ⟨v, rfl, h, b⟩
  obtain ⟨d52, A52, n52, c52, rfl⟩ := h.shape
  clear gH60 gH61 gH70 gH71
  have z52 := b.size
  replace z52 := Lib.hid z52
  replace HB := Lib.hid (bstep HB.out b)
  replace Ha := Lib.hid (Ha.out.below b)
  replace Hb := Lib.hid (Hb.out.below b)
  replace R0 := Lib.hid (R0.out.below b)
  replace H6 := Lib.hid (H6.out.below b)
  replace H7 := Lib.hid (H7.out.below b)
  have V52 := Lib.hid h
  clear h b
  have h := HoldI.new V52.out
  have b := al_below w52 (.cells #[.bool d52, .slice A52 n52 c52] 34)
  replace HB := Lib.hid (bstep HB.out b)
  replace Ha := Lib.hid (Ha.out.below b)
  replace Hb := Lib.hid (Hb.out.below b)
  replace R0 := Lib.hid (R0.out.below b)
  replace H6 := Lib.hid (H6.out.below b)
  replace H7 := Lib.hid (H7.out.below b)
  clear b
  have H52 := Lib.hid h
  clear h V52
  skip
  go_wp2_with fail
  refine add_reg3 (x := (a.den : Int)) (y := (b.den : Int)) (d := d) rfl rfl rfl rfl H6.out H7.out H52.out (den_lim ia.out) (den_lim ib.out) LG.out GP.out ?_
  intro w53 u28 u29 u30 u31 u32 u33 g9 g10 d9 A9 n9 c9 d10 A10 n10 c10 b h9 h10 x9_10 l9 l10
  simp only [List.foldl_cons, List.foldl_nil, List.setIfInBounds_toArray, List.set_cons_zero, List.set_cons_succ]
  simp only [World.size_alloc] at l9 l10
  have z53 := b.size
  simp only [World.size_alloc] at z53
  replace z53 := Lib.hid z53
  replace HB := Lib.hid (bstep HB.out b)
  replace Ha := Lib.hid (Ha.out.below b)
  replace Hb := Lib.hid (Hb.out.below b)
  replace R0 := Lib.hid (R0.out.below b)
  replace H6 := Lib.hid (H6.out.below b)
  replace H7 := Lib.hid (H7.out.below b)
  replace H52 := Lib.hid (H52.out.below b)
  have H9 := Lib.hid h9
  have L9 := Lib.hid l9
  clear h9 l9
  have H10 := Lib.hid h10
  have L10 := Lib.hid l10
  clear h10 l10
  replace x9_10 := Lib.hid x9_10
  clear b
  rw [HL.out] at H9
  rw [HRR.out] at H10
  have gHa0 := Ha.out.c0
  have gHa1 := Ha.out.c1
  have gHa2 := Ha.out.c2
  have gHa3 := Ha.out.c3
  have gH100 := H10.out.c0
  have gH101 := H10.out.c1
  go_wp2_with fail
  have HR := Lib.hid (ArrI.mk2 (W := w53) 34 Ha.out.2.num H10.out.2)
  have hgR := Lib.hid (show w53.heap.size < (w53.alloc (.cells #[.bool da, .slice Aa na ca, .bool d10, .slice A10 n10 c10] 34)).heap.size from by simp only [World.size_alloc]; omega)
  have b := al_below w53 (.cells #[.bool da, .slice Aa na ca, .bool d10, .slice A10 n10 c10] 34)
  replace HB := Lib.hid (bstep HB.out b)
  replace Ha := Lib.hid (Ha.out.below b)
  replace Hb := Lib.hid (Hb.out.below b)
  replace R0 := Lib.hid (R0.out.below b)
  replace H6 := Lib.hid (H6.out.below b)
  replace H7 := Lib.hid (H7.out.below b)
  replace H52 := Lib.hid (H52.out.below b)
  replace H9 := Lib.hid (H9.out.below b)
  replace H10 := Lib.hid (H10.out.below b)
  clear b
  clear gHa0 gHa1 gHa2 gHa3 gH100 gH101
  have HMP := product_any [a.num, right] (w53.heap.size) 2 2 _ HR.out hgR rfl (Lib.hid (by omega)) (in_two ia.out.1 QR.out)
  rw [prod_two ia.out.1, F1.out.1, F1.out.2] at HMP
  dsimp only at HMP
  refine (HMP).mono ?_
  rintro e w54 ⟨v, rfl, h, b⟩
  obtain ⟨d54, A54, n54, c54, rfl⟩ := h.shape
  have z54 := b.size
  simp only [World.size_alloc] at z54
  replace z54 := Lib.hid z54
  replace HB := Lib.hid (bstep HB.out b)
  replace Ha := Lib.hid (Ha.out.below b)
  replace Hb := Lib.hid (Hb.out.below b)
  replace R0 := Lib.hid (R0.out.below b)
  replace H6 := Lib.hid (H6.out.below b)
  replace H7 := Lib.hid (H7.out.below b)
  replace H52 := Lib.hid (H52.out.below b)
  replace H9 := Lib.hid (H9.out.below b)
  replace H10 := Lib.hid (H10.out.below b)
  have V54 := Lib.hid h
  clear h b
  clear HMP HR hgR
  have h := HoldI.new V54.out
  have b := al_below w54 (.cells #[.bool d54, .slice A54 n54 c54] 34)
  replace HB := Lib.hid (bstep HB.out b)
  replace Ha := Lib.hid (Ha.out.below b)
  replace Hb := Lib.hid (Hb.out.below b)
  replace R0 := Lib.hid (R0.out.below b)
  replace H6 := Lib.hid (H6.out.below b)
  replace H7 := Lib.hid (H7.out.below b)
  replace H52 := Lib.hid (H52.out.below b)
  replace H9 := Lib.hid (H9.out.below b)
  replace H10 := Lib.hid (H10.out.below b)
  clear b
  have H54 := Lib.hid h
  clear h V54
  have gHb0 := Hb.out.c0
  have gHb1 := Hb.out.c1
  have gHb2 := Hb.out.c2
  have gHb3 := Hb.out.c3
  have gH90 := H9.out.c0
  have gH91 := H9.out.c1
  go_wp2_with fail
  have HR := Lib.hid (ArrI.mk2 (W := (w54.alloc (.cells #[.bool d54, .slice A54 n54 c54] 34))) 34 Hb.out.2.num H9.out.2)
  have hgR := Lib.hid (show w54.heap.size + 1 < ((w54.alloc (.cells #[.bool d54, .slice A54 n54 c54] 34)).alloc (.cells #[.bool db, .slice Ab nb cb, .bool d9, .slice A9 n9 c9] 34)).heap.size from by simp only [World.size_alloc]; omega)
  simp only [World.size_alloc] at HR
  have b := al_below (w54.alloc (.cells #[.bool d54, .slice A54 n54 c54] 34)) (.cells #[.bool db, .slice Ab nb cb, .bool d9, .slice A9 n9 c9] 34)
  replace HB := Lib.hid (bstep HB.out b)
  replace Ha := Lib.hid (Ha.out.below b)
  replace Hb := Lib.hid (Hb.out.below b)
  replace R0 := Lib.hid (R0.out.below b)
  replace H6 := Lib.hid (H6.out.below b)
  replace H7 := Lib.hid (H7.out.below b)
  replace H52 := Lib.hid (H52.out.below b)
  replace H9 := Lib.hid (H9.out.below b)
  replace H10 := Lib.hid (H10.out.below b)
  replace H54 := Lib.hid (H54.out.below b)
  clear b
  clear gHb0 gHb1 gHb2 gHb3 gH90 gH91
  have HMP := product_any [b.num, left] (w54.heap.size + 1) 2 2 _ HR.out hgR rfl (Lib.hid (by omega)) (in_two ib.out.1 QL.out)
  rw [prod_two ib.out.1, F2.out.1, F2.out.2] at HMP
  dsimp only at HMP
  refine (HMP).mono ?_
  rintro e w55 ⟨v, rfl, h, b⟩
  obtain ⟨d55, A55, n55, c55, rfl⟩ := h.shape
  have z55 := b.size
  simp only [World.size_alloc] at z55
  replace z55 := Lib.hid z55
  replace HB := Lib.hid (bstep HB.out b)
  replace Ha := Lib.hid (Ha.out.below b)
  replace Hb := Lib.hid (Hb.out.below b)
  replace R0 := Lib.hid (R0.out.below b)
  replace H6 := Lib.hid (H6.out.below b)
  replace H7 := Lib.hid (H7.out.below b)
  replace H52 := Lib.hid (H52.out.below b)
  replace H9 := Lib.hid (H9.out.below b)
  replace H10 := Lib.hid (H10.out.below b)
  replace H54 := Lib.hid (H54.out.below b)
  have V55 := Lib.hid h
  clear h b
  clear HMP HR hgR
  have h := HoldI.new V55.out
  have b := al_below w55 (.cells #[.bool d55, .slice A55 n55 c55] 34)
  replace HB := Lib.hid (bstep HB.out b)
  replace Ha := Lib.hid (Ha.out.below b)
  replace Hb := Lib.hid (Hb.out.below b)
  replace R0 := Lib.hid (R0.out.below b)
  replace H6 := Lib.hid (H6.out.below b)
  replace H7 := Lib.hid (H7.out.below b)
  replace H52 := Lib.hid (H52.out.below b)
  replace H9 := Lib.hid (H9.out.below b)
  replace H10 := Lib.hid (H10.out.below b)
  replace H54 := Lib.hid (H54.out.below b)
  clear b
  have H55 := Lib.hid h
  clear h V55
  have gH540 := H54.out.c0
  have gH541 := H54.out.c1
  have gH550 := H55.out.c0
  have gH551 := H55.out.c1
  go_wp2_with fail
  have HMP := iadd_any P R _ _ _ H54.out.2 H55.out.2 HP.out HR0.out
  rw [F3.out.1, F3.out.2] at HMP
  refine (HMP).mono ?_
  rintro e w56 ⟨v, rfl, h, b⟩
  obtain ⟨d56, A56, n56, c56, rfl⟩ := h.shape
  clear gH540 gH541 gH550 gH551
  have z56 := b.size
  simp only [World.size_alloc] at z56
  replace z56 := Lib.hid z56
  replace HB := Lib.hid (bstep HB.out b)
  replace Ha := Lib.hid (Ha.out.below b)
  replace Hb := Lib.hid (Hb.out.below b)
  replace R0 := Lib.hid (R0.out.below b)
  replace H6 := Lib.hid (H6.out.below b)
  replace H7 := Lib.hid (H7.out.below b)
  replace H52 := Lib.hid (H52.out.below b)
  replace H9 := Lib.hid (H9.out.below b)
  replace H10 := Lib.hid (H10.out.below b)
  replace H54 := Lib.hid (H54.out.below b)
  replace H55 := Lib.hid (H55.out.below b)
  have V56 := Lib.hid h
  clear h b
  clear HMP
  have h := HoldI.new V56.out
  have b := al_below w56 (.cells #[.bool d56, .slice A56 n56 c56] 34)
  replace HB := Lib.hid (bstep HB.out b)
  replace Ha := Lib.hid (Ha.out.below b)
  replace Hb := Lib.hid (Hb.out.below b)
  replace R0 := Lib.hid (R0.out.below b)
  replace H6 := Lib.hid (H6.out.below b)
  replace H7 := Lib.hid (H7.out.below b)
  replace H52 := Lib.hid (H52.out.below b)
  replace H9 := Lib.hid (H9.out.below b)
  replace H10 := Lib.hid (H10.out.below b)
  replace H54 := Lib.hid (H54.out.below b)
  replace H55 := Lib.hid (H55.out.below b)
  clear b
  have H56 := Lib.hid h
  clear h V56
  have gH90 := H9.out.c0
  have gH91 := H9.out.c1
  have gH100 := H10.out.c0
  have gH101 := H10.out.c1
  have gH520 := H52.out.c0
  have gH521 := H52.out.c1
  go_wp2_with fail
  have HR := Lib.hid (ArrI.mk3 (W := (w56.alloc (.cells #[.bool d56, .slice A56 n56 c56] 34))) 34 H9.out.2 H10.out.2 H52.out.2)
  have hgR := Lib.hid (show w56.heap.size + 1 < ((w56.alloc (.cells #[.bool d56, .slice A56 n56 c56] 34)).alloc (.cells #[.bool d9, .slice A9 n9 c9, .bool d10, .slice A10 n10 c10, .bool d52, .slice A52 n52 c52] 34)).heap.size from by simp only [World.size_alloc]; omega)
  simp only [World.size_alloc] at HR
  have b := al_below (w56.alloc (.cells #[.bool d56, .slice A56 n56 c56] 34)) (.cells #[.bool d9, .slice A9 n9 c9, .bool d10, .slice A10 n10 c10, .bool d52, .slice A52 n52 c52] 34)
  replace HB := Lib.hid (bstep HB.out b)
  replace Ha := Lib.hid (Ha.out.below b)
  replace Hb := Lib.hid (Hb.out.below b)
  replace R0 := Lib.hid (R0.out.below b)
  replace H6 := Lib.hid (H6.out.below b)
  replace H7 := Lib.hid (H7.out.below b)
  replace H52 := Lib.hid (H52.out.below b)
  replace H9 := Lib.hid (H9.out.below b)
  replace H10 := Lib.hid (H10.out.below b)
  replace H54 := Lib.hid (H54.out.below b)
  replace H55 := Lib.hid (H55.out.below b)
  replace H56 := Lib.hid (H56.out.below b)
  clear b
  clear gH90 gH91 gH100 gH101 gH520 gH521
  have HMP := product_any [left, right, d] (w56.heap.size + 1) 3 3 _ HR.out hgR rfl (Lib.hid (by omega)) (in_three QL.out QR.out DG.out)
  rw [prod_three PL.out PR.out GG.out QL.out, F4.out.1, F4.out.2] at HMP
  dsimp only at HMP
  refine (HMP).mono ?_
  rintro e w57 ⟨v, rfl, h, b⟩
  obtain ⟨d57, A57, n57, c57, rfl⟩ := h.shape
  have z57 := b.size
  simp only [World.size_alloc] at z57
  replace z57 := Lib.hid z57
  replace HB := Lib.hid (bstep HB.out b)
  replace Ha := Lib.hid (Ha.out.below b)
  replace Hb := Lib.hid (Hb.out.below b)
  replace R0 := Lib.hid (R0.out.below b)
  replace H6 := Lib.hid (H6.out.below b)
  replace H7 := Lib.hid (H7.out.below b)
  replace H52 := Lib.hid (H52.out.below b)
  replace H9 := Lib.hid (H9.out.below b)
  replace H10 := Lib.hid (H10.out.below b)
  replace H54 := Lib.hid (H54.out.below b)
  replace H55 := Lib.hid (H55.out.below b)
  replace H56 := Lib.hid (H56.out.below b)
  have V57 := Lib.hid h
  clear h b
  clear HMP HR hgR
  have h := HoldI.new V57.out
  have b := al_below w57 (.cells #[.bool d57, .slice A57 n57 c57] 34)
  replace HB := Lib.hid (bstep HB.out b)
  replace Ha := Lib.hid (Ha.out.below b)
  replace Hb := Lib.hid (Hb.out.below b)
  replace R0 := Lib.hid (R0.out.below b)
  replace H6 := Lib.hid (H6.out.below b)
  replace H7 := Lib.hid (H7.out.below b)
  replace H52 := Lib.hid (H52.out.below b)
  replace H9 := Lib.hid (H9.out.below b)
  replace H10 := Lib.hid (H10.out.below b)
  replace H54 := Lib.hid (H54.out.below b)
  replace H55 := Lib.hid (H55.out.below b)
  replace H56 := Lib.hid (H56.out.below b)
  clear b
  have H57 := Lib.hid h
  clear h V57
  have mx := fun W => max4_run W E1 E2 E3 E4 4 hmx.out
  have gR00 := R0.out.c0
  have yR00 := R0.out.f0
  have gR01 := R0.out.c1
  have yR01 := R0.out.f1
  have gR02 := R0.out.c2
  have yR02 := R0.out.f2
  have gR03 := R0.out.c3
  have yR03 := R0.out.f3
  have HF := Lib.hid (retQ (RepF.zero _ _) R0.out HB.out (by omega))
  clear HB Ha Hb R0 H6 H7 H52 H9 H10 H54 H55 H56 H57
  clear ia ib hmx LG GP DG QL QR HG HL HRR F1 F2 F3 F4 PL PR GG L6 L7 L9 L10 x6_7 x9_10 HP HR0
  go_wp2_with fail
  exact bodyPost_ret (v := .tuple #[.agg #[.bool false, .slice none 0 0, .bool false, .slice none 0 0], .int .i64 4]) (by simp [results, Tryz.results28, go_sem, gR00, gR01, gR02, gR03]) rfl ⟨_, rfl, HF.out.1, HF.out.2.1⟩
theorem max_four {a b c d : Int} (h1 : a = 0 ∨ a = 4) (h2 : b = 0 ∨ b = 4) (h3 : c = 0 ∨ c = 4) (h4 : d = 0 ∨ d = 4) (h : a = 4 ∨ b = 4 ∨ c = 4 ∨ d = 4) : max (max (max a b) c) d = 4 := by omega
theorem fitE_or (z : Int) : fitE z = 0 ∨ fitE z = 4 := by unfold fitE; split; exact .inl rfl; exact .inr rfl
/-- what keeps a sum in range -/
def gcdQ (a b : Rat) : Int := (Nat.gcd a.den b.den : Nat)
def leftQ (a b : Rat) : Int := (a.den : Int) / gcdQ a b
def rightQ (a b : Rat) : Int := (b.den : Int) / gcdQ a b
def AddIn (a b : Rat) : Prop := InL (a.num * rightQ a b) ∧ InL (b.num * leftQ a b) ∧ InL (a.num * rightQ a b + b.num * leftQ a b) ∧ InL (leftQ a b * (b.den : Int))
def addQ (a b : Rat) : Rat := if ((a.num * rightQ a b).natAbs : Int) < lim ∧ ((b.num * leftQ a b).natAbs : Int) < lim ∧ ((a.num * rightQ a b + b.num * leftQ a b).natAbs : Int) < lim ∧ ((leftQ a b * (b.den : Int)).natAbs : Int) < lim then a + b else 0
def addR (a b : Rat) : Int := if ((a.num * rightQ a b).natAbs : Int) < lim ∧ ((b.num * leftQ a b).natAbs : Int) < lim ∧ ((a.num * rightQ a b + b.num * leftQ a b).natAbs : Int) < lim ∧ ((leftQ a b * (b.den : Int)).natAbs : Int) < lim then 0 else 4
theorem addQ_in {a b : Rat} (h : AddIn a b) : addQ a b = a + b ∧ addR a b = 0 := ⟨if_pos h, if_pos h⟩
theorem addQ_out {a b : Rat} (h : ¬ AddIn a b) : addQ a b = 0 ∧ addR a b = 4 := ⟨if_neg h, if_neg h⟩
theorem fadd_any (a b : Rat) (u v : Value) (w : World) (ha : RepF w w.heap.size a u) (hb : RepF w w.heap.size b v) (ia : InF a) (ib : InF b) :
    Calls Tryz.prog 28 #[u, v] w (NewFE (addQ a b) (addR a b) w) := by
  obtain ⟨d, left, right, hg, gp, hl, hr, pl, pr, el, er, e5, e6, _⟩ := rat_add a b
  have e1 : gcdQ a b = d := hg.symm
  have e2 : leftQ a b = left := by unfold leftQ; rw [e1]; exact hl.symm
  have e3 : rightQ a b = right := by unfold rightQ; rw [e1]; exact hr.symm
  have e4 : left * (b.den : Int) = left * right * d := by rw [← er, Int.mul_assoc]
  have hg' : (Nat.gcd (a.den : Int).natAbs (b.den : Int).natAbs : Int) = d := by rw [Int.natAbs_natCast, Int.natAbs_natCast]; exact hg.symm
  have lg : (d.natAbs : Int) < lim := hg' ▸ gcd_ltl (den_lim ia) (den_lim ib)
  by_cases h : AddIn a b
  · rw [(addQ_in h).1, (addQ_in h).2]
    unfold AddIn at h
    rw [e2, e3, e4] at h
    exact add_ok a b u v w ha hb ia ib d left right hg' gp lg hl.symm hr.symm pl pr e5 e6 h.1 h.2.1 h.2.2.1 h.2.2.2
  · rw [(addQ_out h).1, (addQ_out h).2]
    refine add_bad a b u v w ha hb ia ib d left right hg' gp lg hl.symm hr.symm pl pr _ _ _ _ _ _ _ _ ⟨rfl, rfl⟩ ⟨rfl, rfl⟩ ⟨rfl, rfl⟩ ⟨rfl, rfl⟩ ?_
    unfold AddIn at h
    rw [e2, e3, e4] at h
    have o1 := fitE_or (a.num * right)
    have o2 := fitE_or (b.num * left)
    have o3 := fitE_or (fitI (a.num * right) + fitI (b.num * left))
    have o4 := fitE_or (left * right * d)
    by_cases h1 : InL (a.num * right)
    · by_cases h2 : InL (b.num * left)
      · by_cases h4 : InL (left * right * d)
        · have h3 : ¬ InL (a.num * right + b.num * left) := fun h3 => h ⟨h1, h2, h3, h4⟩
          refine max_four o1 o2 o3 o4 (.inr (.inr (.inl ?_)))
          rw [(fit_in h1).1, (fit_in h2).1]
          exact (fit_out h3).2
        · exact max_four o1 o2 o3 o4 (.inr (.inr (.inr (fit_out h4).2)))
      · exact max_four o1 o2 o3 o4 (.inr (.inl (fit_out h2).2))
    · exact max_four o1 o2 o3 o4 (.inl (fit_out h1).2)
end Go.Proofs.YtocooajlfpngdaaGreatDoor
namespace Go.Proofs.YtocooajlfpngdaaGreatDoor
open Go.RowKit
set_option linter.unusedVariables false

theorem RepF.neg {W : World} {B : Nat} {x : Rat} {d d' d2 : Bool} {A A' A2 : Option Addr} {n c n' c' n2 c2 : Nat} (h : RepF W B x (.agg #[.bool d, .slice A n c, .bool d', .slice A' n' c'])) (hn : RepI W B (-x.num) (.agg #[.bool d2, .slice A2 n2 c2])) : RepF W B (-x) (.agg #[.bool d2, .slice A2 n2 c2, .bool d', .slice A' n' c']) := by
  obtain ⟨q, h1, h2⟩ := h.den
  exact ⟨_, _, _, _, _, _, _, _, rfl, hn, q, h1, h2⟩
theorem InF.neg {x : Rat} (h : InF x) : InF (-x) := ⟨by show ((-x.num).natAbs : Int) < lim; rw [Int.natAbs_neg]; exact h.1, h.2⟩
theorem InF.inv {x : Rat} (h : InF x) : InF (x⁻¹) := by
  have h1 := rat_inv x
  have h2 := h.1
  have h3 := h.2
  have h4 := lim_1
  refine ⟨?_, ?_⟩
  · rw [h1.1]
    split
    · omega
    · split <;> omega
  · rw [h1.2]
    split <;> omega
set_option maxRecDepth 100000 in
set_option maxHeartbeats 4000000 in
theorem fsub_any (a b : Rat) (u v : Value) (w : World) (ha : RepF w w.heap.size a u) (hb : RepF w w.heap.size b v) (ia : InF a) (ib : InF b) :
    Calls Tryz.prog 30 #[u, v] w (NewFE (addQ a (-b)) (addR a (-b)) w) := by
  obtain ⟨ER, hER⟩ : ∃ ER, addR a (-b) = ER := ⟨_, rfl⟩
  obtain ⟨X, hX⟩ : ∃ X, addQ a (-b) = X := ⟨_, rfl⟩
  rw [hER, hX]
  have HER := Lib.hid hER
  have HX := Lib.hid hX
  clear hER hX
  replace ia := Lib.hid ia
  replace ib := Lib.hid ib
  have HB := Lib.hid (Below.refl w.heap.size w)
  obtain ⟨da, Aa, na, ca, ea, Ea, ma, fa, rfl⟩ := ha.shape
  have Va := Lib.hid ha
  clear ha
  obtain ⟨db, Ab, nb, cb, eb, Eb, mb, fb, rfl⟩ := hb.shape
  have Vb := Lib.hid hb
  clear hb
  go_enter Tryz.func30, Tryz.ntmps30
  have h := HoldQ.new Va.out
  have b := al_below w (.cells #[.bool da, .slice Aa na ca, .bool ea, .slice Ea ma fa] 36)
  replace HB := Lib.hid (bstep HB.out b)
  replace Vb := Lib.hid (Vb.out.step b)
  clear b
  have Ha := Lib.hid h
  clear h Va
  have h := HoldQ.new Vb.out
  simp only [World.size_alloc] at h
  have b := al_below (w.alloc (.cells #[.bool da, .slice Aa na ca, .bool ea, .slice Ea ma fa] 36)) (.cells #[.bool db, .slice Ab nb cb, .bool eb, .slice Eb mb fb] 36)
  replace HB := Lib.hid (bstep HB.out b)
  replace Ha := Lib.hid (Ha.out.below b)
  clear b
  have Hb := Lib.hid h
  clear h Vb
  have h := Blk4.new ((w.alloc (.cells #[.bool da, .slice Aa na ca, .bool ea, .slice Ea ma fa] 36)).alloc (.cells #[.bool db, .slice Ab nb cb, .bool eb, .slice Eb mb fb] 36)) 36 (.bool false) (.slice none 0 0) (.bool false) (.slice none 0 0)
  simp only [World.size_alloc] at h
  have b := al_below ((w.alloc (.cells #[.bool da, .slice Aa na ca, .bool ea, .slice Ea ma fa] 36)).alloc (.cells #[.bool db, .slice Ab nb cb, .bool eb, .slice Eb mb fb] 36)) (.cells #[.bool false, .slice none 0 0, .bool false, .slice none 0 0] 36)
  replace HB := Lib.hid (bstep HB.out b)
  replace Ha := Lib.hid (Ha.out.below b)
  replace Hb := Lib.hid (Hb.out.below b)
  clear b
  have R0 := Lib.hid (show Blk4 _ (w.heap.size + 1 + 1) 36 (.bool false) (.slice none 0 0) (.bool false) (.slice none 0 0) from h)
  clear h
  obtain ⟨W1, hW⟩ : ∃ W, W = (((w.alloc (.cells #[.bool da, .slice Aa na ca, .bool ea, .slice Ea ma fa] 36)).alloc (.cells #[.bool db, .slice Ab nb cb, .bool eb, .slice Eb mb fb] 36)).alloc (.cells #[.bool false, .slice none 0 0, .bool false, .slice none 0 0] 36)) := ⟨_, rfl⟩
  have HW := Lib.hid hW
  rw [← hW] at HB
  rw [← hW] at Ha
  rw [← hW] at Hb
  rw [← hW] at R0
  clear hW
  go_wp2_with fail
  rw [← HW.out]
  clear HW
  have qHa0 := Ha.out.c0
  have qHa1 := Ha.out.c1
  have qHa2 := Ha.out.c2
  have qHa3 := Ha.out.c3
  have qHb0 := Hb.out.c0
  have qHb1 := Hb.out.c1
  have qHb2 := Hb.out.c2
  have qHb3 := Hb.out.c3
  go_region_held3 (fun w' => w'.cell? ⟨w.heap.size, 0, none⟩ = some (.bool da) ∧ w'.cell? ⟨w.heap.size, 1, none⟩ = some (.slice Aa na ca) ∧ w'.cell? ⟨w.heap.size, 2, none⟩ = some (.bool ea) ∧ w'.cell? ⟨w.heap.size, 3, none⟩ = some (.slice Ea ma fa) ∧ w'.cell? ⟨w.heap.size + 1, 0, none⟩ = some (.bool db) ∧ w'.cell? ⟨w.heap.size + 1, 1, none⟩ = some (.slice Ab nb cb) ∧ w'.cell? ⟨w.heap.size + 1, 2, none⟩ = some (.bool eb) ∧ w'.cell? ⟨w.heap.size + 1, 3, none⟩ = some (.slice Eb mb fb))
    (exact ⟨by first | with_reducible assumption | (simp only [World.cell?_drew]; with_reducible assumption) | (try simp only [World.cell?_drew]); repeat' (first | with_reducible assumption | with_reducible refine cell_set2 ?_ (by omega) | with_reducible refine cell_set4 ?_ (by omega)), by first | with_reducible assumption | (simp only [World.cell?_drew]; with_reducible assumption) | (try simp only [World.cell?_drew]); repeat' (first | with_reducible assumption | with_reducible refine cell_set2 ?_ (by omega) | with_reducible refine cell_set4 ?_ (by omega)), by first | with_reducible assumption | (simp only [World.cell?_drew]; with_reducible assumption) | (try simp only [World.cell?_drew]); repeat' (first | with_reducible assumption | with_reducible refine cell_set2 ?_ (by omega) | with_reducible refine cell_set4 ?_ (by omega)), by first | with_reducible assumption | (simp only [World.cell?_drew]; with_reducible assumption) | (try simp only [World.cell?_drew]); repeat' (first | with_reducible assumption | with_reducible refine cell_set2 ?_ (by omega) | with_reducible refine cell_set4 ?_ (by omega)), by first | with_reducible assumption | (simp only [World.cell?_drew]; with_reducible assumption) | (try simp only [World.cell?_drew]); repeat' (first | with_reducible assumption | with_reducible refine cell_set2 ?_ (by omega) | with_reducible refine cell_set4 ?_ (by omega)), by first | with_reducible assumption | (simp only [World.cell?_drew]; with_reducible assumption) | (try simp only [World.cell?_drew]); repeat' (first | with_reducible assumption | with_reducible refine cell_set2 ?_ (by omega) | with_reducible refine cell_set4 ?_ (by omega)), by first | with_reducible assumption | (simp only [World.cell?_drew]; with_reducible assumption) | (try simp only [World.cell?_drew]); repeat' (first | with_reducible assumption | with_reducible refine cell_set2 ?_ (by omega) | with_reducible refine cell_set4 ?_ (by omega)), by first | with_reducible assumption | (simp only [World.cell?_drew]; with_reducible assumption) | (try simp only [World.cell?_drew]); repeat' (first | with_reducible assumption | with_reducible refine cell_set2 ?_ (by omega) | with_reducible refine cell_set4 ?_ (by omega))⟩)
    (first
      | (go_at_call 73
         with_reducible show Calls Tryz.prog 73 #[.agg #[.bool db, .slice Ab nb cb]] _ _
         refine (ineg_lim b.num _ _ (Hb.out.2.step (by repeat' (first | with_reducible exact Below.refl _ _ | with_reducible assumption | with_reducible refine below_drew ?_))).num ib.out.1).mono ?_
         rintro e w2 ⟨v2, rfl, h2, b2⟩
         obtain ⟨d2, A2, n2, c2, rfl⟩ := h2.shape
         have hb2 : Below W1.heap.size W1 w2 := bstep (by repeat' (first | with_reducible exact Below.refl _ _ | with_reducible assumption | with_reducible refine below_drew ?_)) b2
         have V2 := Lib.hid h2
         clear h2
         replace qHa0 := cell_below (Ha.out.c0) hb2
         replace qHa1 := cell_below (Ha.out.c1) hb2
         replace qHa2 := cell_below (Ha.out.c2) hb2
         replace qHa3 := cell_below (Ha.out.c3) hb2
         replace qHb0 := cell_below (Hb.out.c0) hb2
         replace qHb1 := cell_below (Hb.out.c1) hb2
         replace qHb2 := cell_below (Hb.out.c2) hb2
         replace qHb3 := cell_below (Hb.out.c3) hb2)
      | (go_at_call 28
         refine (HX.out ▸ HER.out ▸ fadd_any a (-b) _ _ _ (Ha.out.2.step (by repeat' (first | with_reducible exact Below.refl _ _ | with_reducible assumption | with_reducible refine below_drew ?_))) (RepF.neg (Hb.out.2.step (by repeat' (first | with_reducible exact Below.refl _ _ | with_reducible assumption | with_reducible refine below_drew ?_))) (V2.out.step (by repeat' (first | with_reducible exact Below.refl _ _ | with_reducible assumption | with_reducible refine below_drew ?_)))) ia.out (InF.neg ib.out)).mono ?_
         rintro e w3 ⟨v3, rfl, h3, b3⟩
         obtain ⟨d3, A3, n3, c3, e3, E3, m3, f3, rfl⟩ := h3.shape
         have hb3 : Below W1.heap.size W1 w3 := bstep (by repeat' (first | with_reducible exact Below.refl _ _ | with_reducible assumption | with_reducible refine below_drew ?_)) b3
         replace V2 := Lib.hid (V2.out.step (by first | exact b3 | exact undrew b3 | exact undrew (undrew b3)))
         have V3 := Lib.hid h3
         clear h3
         replace qHa0 := cell_below (Ha.out.c0) hb3
         replace qHa1 := cell_below (Ha.out.c1) hb3
         replace qHa2 := cell_below (Ha.out.c2) hb3
         replace qHa3 := cell_below (Ha.out.c3) hb3
         replace qHb0 := cell_below (Hb.out.c0) hb3
         replace qHb1 := cell_below (Hb.out.c1) hb3
         replace qHb2 := cell_below (Hb.out.c2) hb3
         replace qHb3 := cell_below (Hb.out.c3) hb3
         replace HB := Lib.hid (bstep HB.out hb3)
         replace Ha := Lib.hid (Ha.out.below hb3)
         replace Hb := Lib.hid (Hb.out.below hb3)
         replace R0 := Lib.hid (R0.out.below hb3)
         clear b2 hb2 b3 hb3
         have gR00 := R0.out.c0
         have yR00 := R0.out.f0
         have gR01 := R0.out.c1
         have yR01 := R0.out.f1
         have gR02 := R0.out.c2
         have yR02 := R0.out.f2
         have gR03 := R0.out.c3
         have yR03 := R0.out.f3
         have HF := Lib.hid (retQ (V3.out) R0.out HB.out (by omega))))
  clear qHa0 qHa1 qHa2 qHa3 qHb0 qHb1 qHb2 qHb3
  clear HB Ha Hb R0 V2 V3
  clear HER HX ia ib
  go_wp2_with fail
  exact bodyPost_ret (v := .tuple #[.agg #[.bool d3, .slice A3 n3 c3, .bool e3, .slice E3 m3 f3], .int .i64 ER]) (by simp [results, Tryz.results30, go_sem, gR00, gR01, gR02, gR03]) rfl ⟨_, rfl, HF.out.1, HF.out.2.1⟩
set_option maxRecDepth 100000 in
set_option maxHeartbeats 4000000 in
theorem div_z (a b : Rat) (u v : Value) (w : World) (ha : RepF w w.heap.size a u) (hb : RepF w w.heap.size b v) (ia : InF a) (ib : InF b) (h0 : b.num = 0) :
    Calls Tryz.prog 34 #[u, v] w (NewFE 0 1 w) := by
  have HB := Lib.hid (Below.refl w.heap.size w)
  obtain ⟨da, Aa, na, ca, ea, Ea, ma, fa, rfl⟩ := ha.shape
  have Va := Lib.hid ha
  clear ha
  obtain ⟨db, Ab, nb, cb, eb, Eb, mb, fb, rfl⟩ := hb.shape
  have Vb := Lib.hid hb
  clear hb
  replace ia := Lib.hid ia
  replace ib := Lib.hid ib
  replace h0 := Lib.hid h0
  go_enter Tryz.func34, Tryz.ntmps34
  have h := HoldQ.new Va.out
  have b := al_below w (.cells #[.bool da, .slice Aa na ca, .bool ea, .slice Ea ma fa] 36)
  replace HB := Lib.hid (bstep HB.out b)
  replace Vb := Lib.hid (Vb.out.step b)
  clear b
  have Ha := Lib.hid h
  clear h Va
  have h := HoldQ.new Vb.out
  simp only [World.size_alloc] at h
  have b := al_below (w.alloc (.cells #[.bool da, .slice Aa na ca, .bool ea, .slice Ea ma fa] 36)) (.cells #[.bool db, .slice Ab nb cb, .bool eb, .slice Eb mb fb] 36)
  replace HB := Lib.hid (bstep HB.out b)
  replace Ha := Lib.hid (Ha.out.below b)
  clear b
  have Hb := Lib.hid h
  clear h Vb
  have h := Blk4.new ((w.alloc (.cells #[.bool da, .slice Aa na ca, .bool ea, .slice Ea ma fa] 36)).alloc (.cells #[.bool db, .slice Ab nb cb, .bool eb, .slice Eb mb fb] 36)) 36 (.bool false) (.slice none 0 0) (.bool false) (.slice none 0 0)
  simp only [World.size_alloc] at h
  have b := al_below ((w.alloc (.cells #[.bool da, .slice Aa na ca, .bool ea, .slice Ea ma fa] 36)).alloc (.cells #[.bool db, .slice Ab nb cb, .bool eb, .slice Eb mb fb] 36)) (.cells #[.bool false, .slice none 0 0, .bool false, .slice none 0 0] 36)
  replace HB := Lib.hid (bstep HB.out b)
  replace Ha := Lib.hid (Ha.out.below b)
  replace Hb := Lib.hid (Hb.out.below b)
  clear b
  have R0 := Lib.hid (show Blk4 _ (w.heap.size + 1 + 1) 36 (.bool false) (.slice none 0 0) (.bool false) (.slice none 0 0) from h)
  clear h
  go_wp2_with fail
  refine (fsign_any b _ _ Hb.out.2 ib.out 0 (by rw [h0.out]; decide)).mono ?_
  rintro e w1 ⟨rfl, b⟩
  have z1 := b.size
  simp only [World.size_alloc] at z1
  replace z1 := Lib.hid z1
  replace HB := Lib.hid (bstep HB.out b)
  replace Ha := Lib.hid (Ha.out.below b)
  replace Hb := Lib.hid (Hb.out.below b)
  replace R0 := Lib.hid (R0.out.below b)
  clear b
  have gR00 := R0.out.c0
  have yR00 := R0.out.f0
  have gR01 := R0.out.c1
  have yR01 := R0.out.f1
  have gR02 := R0.out.c2
  have yR02 := R0.out.f2
  have gR03 := R0.out.c3
  have yR03 := R0.out.f3
  have HF := Lib.hid (retQ (RepF.zero _ _) R0.out HB.out (by omega))
  clear HB Ha Hb R0
  clear ia ib h0
  go_wp2_with fail
  exact bodyPost_ret (v := .tuple #[.agg #[.bool false, .slice none 0 0, .bool false, .slice none 0 0], .int .i64 1]) (by simp [results, Tryz.results34, go_sem, gR00, gR01, gR02, gR03]) rfl ⟨_, rfl, HF.out.1, HF.out.2.1⟩
set_option maxRecDepth 100000 in
set_option maxHeartbeats 4000000 in
theorem div_n (a b : Rat) (u v : Value) (w : World) (ha : RepF w w.heap.size a u) (hb : RepF w w.heap.size b v) (ia : InF a) (ib : InF b) (h0 : b.num ≠ 0) :
    Calls Tryz.prog 34 #[u, v] w (NewFE (fitQ (a * b⁻¹)) (fitR (a * b⁻¹)) w) := by
  obtain ⟨ER, hER⟩ : ∃ ER, fitR (a * b⁻¹) = ER := ⟨_, rfl⟩
  obtain ⟨X, hX⟩ : ∃ X, fitQ (a * b⁻¹) = X := ⟨_, rfl⟩
  rw [hER, hX]
  have HER := Lib.hid hER
  have HX := Lib.hid hX
  have hs : (cmpI' b.num 0 == 0) = false := cmp_nz h0
  obtain ⟨s, hs'⟩ : ∃ s, s = cmpI' b.num 0 := ⟨_, rfl⟩
  rw [← hs'] at hs
  have HS := Lib.hid hs'
  have hiv := rat_inv b
  have E1 := Lib.hid (show (if b.num < 0 then -(b.den : Int) else (b.den : Int)) = (b⁻¹).num by rw [hiv.1]; (repeat' split) <;> first | rfl | omega)
  have E2 := Lib.hid (show (if b.num < 0 then -b.num else b.num) = ((b⁻¹).den : Int) by rw [hiv.2, if_neg h0]; split <;> omega)
  clear hER hX hs' hiv
  replace h0 := Lib.hid h0
  replace ia := Lib.hid ia
  replace ib := Lib.hid ib
  have HB := Lib.hid (Below.refl w.heap.size w)
  obtain ⟨da, Aa, na, ca, ea, Ea, ma, fa, rfl⟩ := ha.shape
  have Va := Lib.hid ha
  clear ha
  obtain ⟨db, Ab, nb, cb, eb, Eb, mb, fb, rfl⟩ := hb.shape
  have Vb := Lib.hid hb
  clear hb
  go_enter Tryz.func34, Tryz.ntmps34
  have h := HoldQ.new Va.out
  have b := al_below w (.cells #[.bool da, .slice Aa na ca, .bool ea, .slice Ea ma fa] 36)
  replace HB := Lib.hid (bstep HB.out b)
  replace Vb := Lib.hid (Vb.out.step b)
  clear b
  have Ha := Lib.hid h
  clear h Va
  have h := HoldQ.new Vb.out
  simp only [World.size_alloc] at h
  have b := al_below (w.alloc (.cells #[.bool da, .slice Aa na ca, .bool ea, .slice Ea ma fa] 36)) (.cells #[.bool db, .slice Ab nb cb, .bool eb, .slice Eb mb fb] 36)
  replace HB := Lib.hid (bstep HB.out b)
  replace Ha := Lib.hid (Ha.out.below b)
  clear b
  have Hb := Lib.hid h
  clear h Vb
  have h := Blk4.new ((w.alloc (.cells #[.bool da, .slice Aa na ca, .bool ea, .slice Ea ma fa] 36)).alloc (.cells #[.bool db, .slice Ab nb cb, .bool eb, .slice Eb mb fb] 36)) 36 (.bool false) (.slice none 0 0) (.bool false) (.slice none 0 0)
  simp only [World.size_alloc] at h
  have b := al_below ((w.alloc (.cells #[.bool da, .slice Aa na ca, .bool ea, .slice Ea ma fa] 36)).alloc (.cells #[.bool db, .slice Ab nb cb, .bool eb, .slice Eb mb fb] 36)) (.cells #[.bool false, .slice none 0 0, .bool false, .slice none 0 0] 36)
  replace HB := Lib.hid (bstep HB.out b)
  replace Ha := Lib.hid (Ha.out.below b)
  replace Hb := Lib.hid (Hb.out.below b)
  clear b
  have R0 := Lib.hid (show Blk4 _ (w.heap.size + 1 + 1) 36 (.bool false) (.slice none 0 0) (.bool false) (.slice none 0 0) from h)
  clear h
  go_wp2_with fail
  refine (fsign_any b _ _ Hb.out.2 ib.out s HS.out.symm).mono ?_
  rintro e w1 ⟨rfl, b⟩
  have z1 := b.size
  simp only [World.size_alloc] at z1
  replace z1 := Lib.hid z1
  replace HB := Lib.hid (bstep HB.out b)
  replace Ha := Lib.hid (Ha.out.below b)
  replace Hb := Lib.hid (Hb.out.below b)
  replace R0 := Lib.hid (R0.out.below b)
  clear b
  go_wp2_with fail
  have qHa0 := Ha.out.c0
  have qHa1 := Ha.out.c1
  have qHa2 := Ha.out.c2
  have qHa3 := Ha.out.c3
  have qHb0 := Hb.out.c0
  have qHb1 := Hb.out.c1
  have qHb2 := Hb.out.c2
  have qHb3 := Hb.out.c3
  have z1_ := z1.out
  go_region_held3 (fun w' => w'.cell? ⟨w.heap.size, 0, none⟩ = some (.bool da) ∧ w'.cell? ⟨w.heap.size, 1, none⟩ = some (.slice Aa na ca) ∧ w'.cell? ⟨w.heap.size, 2, none⟩ = some (.bool ea) ∧ w'.cell? ⟨w.heap.size, 3, none⟩ = some (.slice Ea ma fa) ∧ w'.cell? ⟨w.heap.size + 1, 0, none⟩ = some (.bool db) ∧ w'.cell? ⟨w.heap.size + 1, 1, none⟩ = some (.slice Ab nb cb) ∧ w'.cell? ⟨w.heap.size + 1, 2, none⟩ = some (.bool eb) ∧ w'.cell? ⟨w.heap.size + 1, 3, none⟩ = some (.slice Eb mb fb))
    (exact ⟨by first | with_reducible assumption | (simp only [World.cell?_drew]; with_reducible assumption) | (try simp only [World.cell?_drew]); repeat' (first | with_reducible assumption | with_reducible refine cell_set2 ?_ (by omega) | with_reducible refine cell_set4 ?_ (by omega)), by first | with_reducible assumption | (simp only [World.cell?_drew]; with_reducible assumption) | (try simp only [World.cell?_drew]); repeat' (first | with_reducible assumption | with_reducible refine cell_set2 ?_ (by omega) | with_reducible refine cell_set4 ?_ (by omega)), by first | with_reducible assumption | (simp only [World.cell?_drew]; with_reducible assumption) | (try simp only [World.cell?_drew]); repeat' (first | with_reducible assumption | with_reducible refine cell_set2 ?_ (by omega) | with_reducible refine cell_set4 ?_ (by omega)), by first | with_reducible assumption | (simp only [World.cell?_drew]; with_reducible assumption) | (try simp only [World.cell?_drew]); repeat' (first | with_reducible assumption | with_reducible refine cell_set2 ?_ (by omega) | with_reducible refine cell_set4 ?_ (by omega)), by first | with_reducible assumption | (simp only [World.cell?_drew]; with_reducible assumption) | (try simp only [World.cell?_drew]); repeat' (first | with_reducible assumption | with_reducible refine cell_set2 ?_ (by omega) | with_reducible refine cell_set4 ?_ (by omega)), by first | with_reducible assumption | (simp only [World.cell?_drew]; with_reducible assumption) | (try simp only [World.cell?_drew]); repeat' (first | with_reducible assumption | with_reducible refine cell_set2 ?_ (by omega) | with_reducible refine cell_set4 ?_ (by omega)), by first | with_reducible assumption | (simp only [World.cell?_drew]; with_reducible assumption) | (try simp only [World.cell?_drew]); repeat' (first | with_reducible assumption | with_reducible refine cell_set2 ?_ (by omega) | with_reducible refine cell_set4 ?_ (by omega)), by first | with_reducible assumption | (simp only [World.cell?_drew]; with_reducible assumption) | (try simp only [World.cell?_drew]); repeat' (first | with_reducible assumption | with_reducible refine cell_set2 ?_ (by omega) | with_reducible refine cell_set4 ?_ (by omega))⟩)
    (first
      | (go_at_call 48
         refine (den_any b _ _ (Hb.out.2.step (by repeat' (first | with_reducible exact Below.refl _ _ | with_reducible assumption | with_reducible refine below_drew ?_))) ib.out).mono ?_
         rintro e w2 ⟨v2, rfl, h2, b2⟩
         obtain ⟨d2, A2, n2, c2, rfl⟩ := h2.shape
         have hb2 : Below w1.heap.size w1 w2 := bstep (by repeat' (first | with_reducible exact Below.refl _ _ | with_reducible assumption | with_reducible refine below_drew ?_)) b2
         have V2 := Lib.hid h2
         clear h2
         replace qHa0 := cell_below (Ha.out.c0) hb2
         replace qHa1 := cell_below (Ha.out.c1) hb2
         replace qHa2 := cell_below (Ha.out.c2) hb2
         replace qHa3 := cell_below (Ha.out.c3) hb2
         replace qHb0 := cell_below (Hb.out.c0) hb2
         replace qHb1 := cell_below (Hb.out.c1) hb2
         replace qHb2 := cell_below (Hb.out.c2) hb2
         replace qHb3 := cell_below (Hb.out.c3) hb2)
      | (go_at_call 62
         refine (over_any (b.den : Int) b.num (b⁻¹) _ _ _ (V2.out.step (by repeat' (first | with_reducible exact Below.refl _ _ | with_reducible assumption | with_reducible refine below_drew ?_))) (Hb.out.2.step (by repeat' (first | with_reducible exact Below.refl _ _ | with_reducible assumption | with_reducible refine below_drew ?_))).num (den_lim ib.out) ib.out.1 h0.out E1.out E2.out).mono ?_
         rintro e w3 ⟨v3, rfl, h3, b3⟩
         obtain ⟨d3, A3, n3, c3, e3, E3, m3, f3, rfl⟩ := h3.shape
         have hb3 : Below w1.heap.size w1 w3 := bstep (by repeat' (first | with_reducible exact Below.refl _ _ | with_reducible assumption | with_reducible refine below_drew ?_)) b3
         replace V2 := Lib.hid (V2.out.step (by first | exact b3 | exact undrew b3 | exact undrew (undrew b3)))
         have V3 := Lib.hid h3
         clear h3
         replace qHa0 := cell_below (Ha.out.c0) hb3
         replace qHa1 := cell_below (Ha.out.c1) hb3
         replace qHa2 := cell_below (Ha.out.c2) hb3
         replace qHa3 := cell_below (Ha.out.c3) hb3
         replace qHb0 := cell_below (Hb.out.c0) hb3
         replace qHb1 := cell_below (Hb.out.c1) hb3
         replace qHb2 := cell_below (Hb.out.c2) hb3
         replace qHb3 := cell_below (Hb.out.c3) hb3)
      | (go_at_call 32
         refine (HX.out ▸ HER.out ▸ fmul_any a (b⁻¹) _ _ _ (Ha.out.2.step (by repeat' (first | with_reducible exact Below.refl _ _ | with_reducible assumption | with_reducible refine below_drew ?_))) (V3.out.step (by repeat' (first | with_reducible exact Below.refl _ _ | with_reducible assumption | with_reducible refine below_drew ?_))) ia.out (InF.inv ib.out)).mono ?_
         rintro e w4 ⟨v4, rfl, h4, b4⟩
         obtain ⟨d4, A4, n4, c4, e4, E4, m4, f4, rfl⟩ := h4.shape
         have hb4 : Below w1.heap.size w1 w4 := bstep (by repeat' (first | with_reducible exact Below.refl _ _ | with_reducible assumption | with_reducible refine below_drew ?_)) b4
         replace V2 := Lib.hid (V2.out.step (by first | exact b4 | exact undrew b4 | exact undrew (undrew b4)))
         replace V3 := Lib.hid (V3.out.step (by first | exact b4 | exact undrew b4 | exact undrew (undrew b4)))
         have V4 := Lib.hid h4
         clear h4
         replace qHa0 := cell_below (Ha.out.c0) hb4
         replace qHa1 := cell_below (Ha.out.c1) hb4
         replace qHa2 := cell_below (Ha.out.c2) hb4
         replace qHa3 := cell_below (Ha.out.c3) hb4
         replace qHb0 := cell_below (Hb.out.c0) hb4
         replace qHb1 := cell_below (Hb.out.c1) hb4
         replace qHb2 := cell_below (Hb.out.c2) hb4
         replace qHb3 := cell_below (Hb.out.c3) hb4
         replace HB := Lib.hid (bstep HB.out hb4)
         replace Ha := Lib.hid (Ha.out.below hb4)
         replace Hb := Lib.hid (Hb.out.below hb4)
         replace R0 := Lib.hid (R0.out.below hb4)
         clear b2 hb2 b3 hb3 b4 hb4
         have gR00 := R0.out.c0
         have yR00 := R0.out.f0
         have gR01 := R0.out.c1
         have yR01 := R0.out.f1
         have gR02 := R0.out.c2
         have yR02 := R0.out.f2
         have gR03 := R0.out.c3
         have yR03 := R0.out.f3
         have HF := Lib.hid (retQ (V4.out) R0.out HB.out (by omega))))
  clear z1_
  clear qHa0 qHa1 qHa2 qHa3 qHb0 qHb1 qHb2 qHb3
  clear HB Ha Hb R0 V2 V3 V4
  clear HER HX HS E1 E2 h0 ia ib
  go_wp2_with fail
  exact bodyPost_ret (v := .tuple #[.agg #[.bool d4, .slice A4 n4 c4, .bool e4, .slice E4 m4 f4], .int .i64 ER]) (by simp [results, Tryz.results34, go_sem, gR00, gR01, gR02, gR03]) rfl ⟨_, rfl, HF.out.1, HF.out.2.1⟩
end Go.Proofs.YtocooajlfpngdaaGreatDoor
