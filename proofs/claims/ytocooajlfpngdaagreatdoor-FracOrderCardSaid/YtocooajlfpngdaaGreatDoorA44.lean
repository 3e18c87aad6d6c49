/- Layer 4's laws: FracOrder. -/
import Derived.Deep.LoopGhost
import Derived.Test.YtocooajlfpngdaaGreatDoorA43
import Derived.Test.YtocooajlfpngdaaGreatDoorA40
namespace Go.Proofs.YtocooajlfpngdaaGreatDoor
open Go.RowKit
set_option linter.unusedVariables false

set_option maxRecDepth 100000 in
set_option maxHeartbeats 8000000 in
theorem fracOrder_law (A0 : Option Addr) (n0 c0 : Nat) (zs : List Int) (w : World) (hI : InI w A0 n0 zs) (hn : n0 ≤ 9223372036854775807) :
    Calls Tryz.prog 7 #[.slice A0 n0 c0] w (fun e w' => e = .returned (.bool true) ∧ Below w.heap.size w w') := by
  have HI := Lib.hid hI
  clear hI
  have HB := Lib.hid (Below.refl w.heap.size w)
  go_enter Tryz.func7, Tryz.ntmps7
  go_wp2_with fail
  refine (gfrac_any A0 n0 c0 0 zs _ HI.out hn (by omega) (by omega)).mono ?_
  rintro e w51 ⟨x51, hx, v, rfl, h, b⟩
  obtain ⟨d51, A51, n51, c51, e51, E51, m51, f51, rfl⟩ := h.shape
  have z51 := b.size
  replace z51 := Lib.hid z51
  replace HI := Lib.hid (HI.out.below b)
  replace HB := Lib.hid (bstep HB.out b)
  have V51 := Lib.hid h
  have S51 := Lib.hid (fr_sz hx)
  clear h b hx
  go_wp2_with fail
  refine (gfrac_any A0 n0 c0 4 zs _ HI.out hn (by omega) (by omega)).mono ?_
  rintro e w52 ⟨x52, hx, v, rfl, h, b⟩
  obtain ⟨d52, A52, n52, c52, e52, E52, m52, f52, rfl⟩ := h.shape
  have z52 := b.size
  replace z52 := Lib.hid z52
  replace HI := Lib.hid (HI.out.below b)
  replace HB := Lib.hid (bstep HB.out b)
  replace V51 := Lib.hid (V51.out.step b)
  have V52 := Lib.hid h
  have S52 := Lib.hid (fr_sz hx)
  clear h b hx
  go_wp2_with fail
  refine (gfrac_any A0 n0 c0 8 zs _ HI.out hn (by omega) (by omega)).mono ?_
  rintro e w53 ⟨x53, hx, v, rfl, h, b⟩
  obtain ⟨d53, A53, n53, c53, e53, E53, m53, f53, rfl⟩ := h.shape
  have z53 := b.size
  replace z53 := Lib.hid z53
  replace HI := Lib.hid (HI.out.below b)
  replace HB := Lib.hid (bstep HB.out b)
  replace V51 := Lib.hid (V51.out.step b)
  replace V52 := Lib.hid (V52.out.step b)
  have V53 := Lib.hid h
  have S53 := Lib.hid (fr_sz hx)
  clear h b hx
  clear HI
  have S0_ := Lib.hid S51.out
  clear S51
  obtain ⟨x0, hx⟩ : ∃ x, x51 = x := ⟨_, rfl⟩
  rw [hx] at V51 S0_
  clear hx
  have S1_ := Lib.hid S52.out
  clear S52
  obtain ⟨x1, hx⟩ : ∃ x, x52 = x := ⟨_, rfl⟩
  rw [hx] at V52 S1_
  clear hx
  have S2_ := Lib.hid S53.out
  clear S53
  obtain ⟨x2, hx⟩ : ∃ x, x53 = x := ⟨_, rfl⟩
  rw [hx] at V53 S2_
  clear hx
  go_wp2_with fail
  have HR := Lib.hid (ArrG.row3 V51.out V52.out V53.out)
  clear V51 V52 V53
  have b := al_below w53 (.cells #[.bool d51, .slice A51 n51 c51, .bool e51, .slice E51 m51 f51, .bool d52, .slice A52 n52 c52, .bool e52, .slice E52 m52 f52, .bool d53, .slice A53 n53 c53, .bool e53, .slice E53 m53 f53] 42)
  replace HB := Lib.hid (bstep HB.out b)
  clear b
  have hgA : w53.heap.size < (w53.alloc (.cells #[.bool d51, .slice A51 n51 c51, .bool e51, .slice E51 m51 f51, .bool d52, .slice A52 n52 c52, .bool e52, .slice E52 m52 f52, .bool d53, .slice A53 n53 c53, .bool e53, .slice E53 m53 f53] 42)).heap.size := by rw [World.size_alloc]; omega
  obtain ⟨W1, hW⟩ : ∃ W, W = (w53.alloc (.cells #[.bool d51, .slice A51 n51 c51, .bool e51, .slice E51 m51 f51, .bool d52, .slice A52 n52 c52, .bool e52, .slice E52 m52 f52, .bool d53, .slice A53 n53 c53, .bool e53, .slice E53 m53 f53] 42)) := ⟨_, rfl⟩
  rw [← hW] at HR HB hgA
  obtain ⟨B, hB⟩ : ∃ B, B = W1.heap.size := ⟨_, rfl⟩
  obtain ⟨gA, hg⟩ : ∃ g, g = w53.heap.size := ⟨_, rfl⟩
  rw [← hB, ← hg] at hgA
  rw [← hg] at HR
  have HWB := Lib.hid (show w.heap.size ≤ B from hB ▸ HB.out.size)
  have HGB := Lib.hid hgA
  have HBS := Lib.hid (show B ≤ W1.heap.size from Nat.le_of_eq hB)
  rw [← hW, ← hg]
  clear hW hg hB hgA hn
  clear z51 z52 z53
  have HL := Lib.hid (show ∀ i < 3, InF ([x0, x1, x2][i]?.getD 0) from fun i hi => allq3 (P := InF) (S0_.out.inF (by omega)) (S1_.out.inF (by omega)) (S2_.out.inF (by omega)) i hi)
  obtain ⟨L, hL⟩ : ∃ L, L = [x0, x1, x2] := ⟨_, rfl⟩
  have hLL : L.length = 3 := by rw [hL]; rfl
  have L0 := Lib.hid (show L[0]?.getD 0 = x0 by rw [hL]; rfl)
  have L1 := Lib.hid (show L[1]?.getD 0 = x1 by rw [hL]; rfl)
  have L2 := Lib.hid (show L[2]?.getD 0 = x2 by rw [hL]; rfl)
  rw [← hL] at HR HL
  have HLL := Lib.hid hLL
  clear hL hLL
  go_loopg [4, 5] 3 (fun gk xv iv wr => ∃ i : Nat, gk + i = 3 ∧ iv = .int .i64 i ∧ Hid (RowQ wr B i xv L) ∧ Hid (ArrG wr gA L) ∧ Hid (B ≤ wr.heap.size) ∧ Hid (Below w.heap.size w wr))
  case atStart => exact ⟨0, by omega, rfl, Lib.hid (.inl ⟨rfl, rfl⟩), HR, HBS, HB⟩
  case round =>
    rename Value => xv
    clear HR HBS HB
    obtain ⟨i, hgi, rfl, HX, HR, HBS, HB⟩ := hrel
    by_cases hlt : (i : Int) < 3
    · have ei : IntKind.i64.wrap ((i : Int) + 1) = (i : Int) + 1 := IntWalk.i64_in _ (by omega)
      have hip : (0 : Int) ≤ (i : Int) := Int.natCast_nonneg _
      obtain ⟨dH, AH, nH, cH, eH, EH, mH, fH, h⟩ := HR.out.get i (by rw [HLL.out]; omega)
      have ZL := HL.out i (by omega)
      obtain ⟨x, hx⟩ : ∃ z, L[i]?.getD 0 = z := ⟨_, rfl⟩
      rw [hx] at h ZL
      have ZX := Lib.hid ZL
      have HX0 := Lib.hid hx
      have HE := Lib.hid h
      clear hx ZL h
      have gHE0 := HE.out.c0
      have gHE1 := HE.out.c1
      have gHE2 := HE.out.c2
      have gHE3 := HE.out.c3
      go_wp2_with fail
      refine (of_law x _ _ HE.out.rep ZX.out).mono ?_
      rintro e w54 ⟨v, rfl, h, b⟩
      obtain ⟨d54, A54, n54, c54, e54, E54, m54, f54, rfl⟩ := h.shape
      clear gHE0 gHE1 gHE2 gHE3
      have z54 := b.size
      replace z54 := Lib.hid z54
      replace HX := Lib.hid (HX.out.below b)
      replace HR := Lib.hid (HR.out.below b)
      replace HB := Lib.hid (bstep HB.out b)
      replace HE := Lib.hid (HE.out.below b)
      have V54 := Lib.hid h
      clear h b
      clear HE
      replace HBS := Lib.hid (Nat.le_trans HBS.out z54.out)
      clear z54
      have hal := al_below w54 (.cells #[.bool d54, .slice A54 n54 c54, .bool e54, .slice E54 m54 f54] 36)
      have hs := Nat.le_trans HBS.out hal.size
      have HX1 := HX.out.below hal
      have HRp := V54.out.step hal
      replace HR := Lib.hid (HR.out.below hal)
      replace HB := Lib.hid (bstep HB.out hal)
      have HAL := Lib.hid hal
      clear hal HX V54
      go_wp2_with (at_builtin; refine wpList_app_q rfl _ _ rfl rfl rfl HX1 (by omega) HX0.out (World.alloc_heap_new _ _) HRp hs ?_; intro g4 c4 wq hq ho)
      clear HX1 HRp HAL
      replace HR := Lib.hid (HR.out.offr ho HGB.out)
      replace HB := Lib.hid (below_offr HB.out ho HWB.out)
      replace HBS := Lib.hid (Nat.le_trans hs ho.size)
      have HQ := Lib.hid hq
      clear hq ho hs
      obtain ⟨dGi, AGi, nGi, cGi, eGi, EGi, mGi, fGi, h⟩ := HR.out.get i (by rw [HLL.out]; omega)
      rw [HX0.out] at h
      have Gi := Lib.hid h
      clear h
      obtain ⟨dQi, AQi, nQi, cQi, eQi, EQi, mQi, fQi, h⟩ := HQ.out.get i (by omega)
      rw [HX0.out] at h
      have Qi := Lib.hid h
      clear h
      refine or_r7 (i := i) (nx := i + 1) rfl rfl rfl rfl (by omega) (by omega) Gi.out Qi.out ZX.out ?_
      intro w55 u44 u45 u46 u47 u48 u49 u50 u51 u52 u53 u54   b   o54
      obtain rfl := o54
      simp only [List.foldl_cons, List.foldl_nil, List.setIfInBounds_toArray, List.set_cons_zero, List.set_cons_succ]
      have z55 := b.size
      replace z55 := Lib.hid z55
      replace HQ := Lib.hid (HQ.out.below b)
      replace HR := Lib.hid (HR.out.below b)
      replace HB := Lib.hid (bstep HB.out b)
      replace Gi := Lib.hid (Gi.out.below b)
      replace Qi := Lib.hid (Qi.out.below b)
      clear b
      replace HBS := Lib.hid (Nat.le_trans HBS.out z55.out)
      clear z55 ZX HX0
      clear Gi
      clear Qi
      go_wp2_with fail
      go_roundg (gk - 1)
      case measure => omega
      case rel => exact ⟨i + 1, by omega, by go_num, Lib.hid (HQ.out.row (by omega)), HR, HBS, HB⟩
    · obtain rfl : i = 3 := by omega
      obtain ⟨g4, c4, rfl, hq⟩ := HX.out.pos (by omega)
      have HQ := Lib.hid hq
      clear hq HX HBS
      go_wp2_with fail
      obtain ⟨ga, rfl⟩ : ∃ g, g = gk := ⟨_, rfl⟩
      go_loopg [6] 3 (fun gk iv wi => ∃ i : Nat, gk + i = 3 ∧ iv = .int .i64 i ∧ Hid (RowQ1 wi B 3 g4 c4 L) ∧ Hid (ArrG wi gA L) ∧ Hid (Below w.heap.size w wi))
      case atStart => exact ⟨0, by omega, rfl, HQ, HR, HB⟩
      case round =>
        rename World => wi
        clear HQ HR HB
        obtain ⟨i, hgi, rfl, HQ, HR, HB⟩ := hrel
        by_cases hlt : (i : Int) < 3
        · have ei : IntKind.i64.wrap ((i : Int) + 1) = (i : Int) + 1 := IntWalk.i64_in _ (by omega)
          go_wp2_with fail
          obtain ⟨go, rfl⟩ : ∃ g, g = gk := ⟨_, rfl⟩
          go_loopg [7] 3 (fun gk iv wj => ∃ k : Nat, gk + k = 3 ∧ iv = .int .i64 k ∧ Hid (RowQ1 wj B 3 g4 c4 L) ∧ Hid (ArrG wj gA L) ∧ Hid (Below w.heap.size w wj))
          case atStart => exact ⟨0, by omega, rfl, HQ, HR, HB⟩
          case round =>
            rename World => wj
            clear HQ HR HB
            obtain ⟨k, hgk, rfl, HQ, HR, HB⟩ := hrel
            by_cases hlk : (k : Int) < 3
            · have ek : IntKind.i64.wrap ((k : Int) + 1) = (k : Int) + 1 := IntWalk.i64_in _ (by omega)
              have hip : (0 : Int) ≤ (i : Int) := Int.natCast_nonneg _
              have hkp : (0 : Int) ≤ (k : Int) := Int.natCast_nonneg _
              have ZL := HL.out i (by omega)
              obtain ⟨x, hx⟩ : ∃ z, L[i]?.getD 0 = z := ⟨_, rfl⟩
              rw [hx] at ZL
              have Zi := Lib.hid ZL
              have HXi := Lib.hid hx
              clear hx ZL
              obtain ⟨dGi, AGi, nGi, cGi, eGi, EGi, mGi, fGi, h⟩ := HR.out.get i (by rw [HLL.out]; omega)
              rw [HXi.out] at h
              have Gi := Lib.hid h
              clear h
              obtain ⟨dQi, AQi, nQi, cQi, eQi, EQi, mQi, fQi, h⟩ := HQ.out.get i (by omega)
              rw [HXi.out] at h
              have Qi := Lib.hid h
              clear h
              clear HXi
              have ZL := HL.out k (by omega)
              obtain ⟨y, hx⟩ : ∃ z, L[k]?.getD 0 = z := ⟨_, rfl⟩
              rw [hx] at ZL
              have Zk := Lib.hid ZL
              have HXk := Lib.hid hx
              clear hx ZL
              obtain ⟨dGk, AGk, nGk, cGk, eGk, EGk, mGk, fGk, h⟩ := HR.out.get k (by rw [HLL.out]; omega)
              rw [HXk.out] at h
              have Gk := Lib.hid h
              clear h
              obtain ⟨dQk, AQk, nQk, cQk, eQk, EQk, mQk, fQk, h⟩ := HQ.out.get k (by omega)
              rw [HXk.out] at h
              have Qk := Lib.hid h
              clear h
              clear HXk
              go_wp2_with fail
              refine or_r15 (i := i) (k := k) rfl rfl rfl rfl (by omega) (by omega) Qi.out Qk.out Zi.out Zk.out ?_
              intro w56 u63 u64 u65 u66 u67 u68 u69 u70 u71 u8   b   o8
              obtain rfl := o8
              simp only [List.foldl_cons, List.foldl_nil, List.setIfInBounds_toArray, List.set_cons_zero, List.set_cons_succ]
              have z56 := b.size
              replace z56 := Lib.hid z56
              replace HQ := Lib.hid (HQ.out.below b)
              replace HR := Lib.hid (HR.out.below b)
              replace HB := Lib.hid (bstep HB.out b)
              replace Gi := Lib.hid (Gi.out.below b)
              replace Qi := Lib.hid (Qi.out.below b)
              replace Gk := Lib.hid (Gk.out.below b)
              replace Qk := Lib.hid (Qk.out.below b)
              clear b
              go_wp2_with fail
              refine or_r16 (i := i) (k := k) rfl rfl rfl rfl rfl rfl (by omega) (by omega) Gi.out Gk.out Qi.out Qk.out Zi.out Zk.out ?_
              intro w57 u72 u73 u74 u75 u76 u77 u78 u79 u80 u81 u82 u83 u84 u85 u86 u87 u88 u89 u90 u91 u92 u93 u94 u95 u96 u97 u98 u99 u100 u101 u102 u103 u104 u105 u106 u107 u108 u109 u110   b   o110
              obtain rfl := o110
              simp only [List.foldl_cons, List.foldl_nil, List.setIfInBounds_toArray, List.set_cons_zero, List.set_cons_succ]
              have z57 := b.size
              replace z57 := Lib.hid z57
              replace HQ := Lib.hid (HQ.out.below b)
              replace HR := Lib.hid (HR.out.below b)
              replace HB := Lib.hid (bstep HB.out b)
              replace Gi := Lib.hid (Gi.out.below b)
              replace Qi := Lib.hid (Qi.out.below b)
              replace Gk := Lib.hid (Gk.out.below b)
              replace Qk := Lib.hid (Qk.out.below b)
              clear b
              clear Gi
              clear Gk
              clear Qi
              clear Qk
              clear Zi Zk z56 z57
              go_wp2_with fail
              go_roundg (gk - 1)
              case measure => omega
              case rel => exact ⟨k + 1, by omega, by go_num, HQ, HR, HB⟩
            · skip
              go_wp2_with fail
              go_roundg (go - 1)
              case measure => omega
              case rel => exact ⟨i + 1, by omega, by go_num, HQ, HR, HB⟩
        · skip
          clear HR
          obtain ⟨dQ0, AQ0, nQ0, cQ0, eQ0, EQ0, mQ0, fQ0, h⟩ := HQ.out.get 0 (by omega)
          rw [L0.out] at h
          have Q0 := Lib.hid h
          clear h
          obtain ⟨dQ1, AQ1, nQ1, cQ1, eQ1, EQ1, mQ1, fQ1, h⟩ := HQ.out.get 1 (by omega)
          rw [L1.out] at h
          have Q1 := Lib.hid h
          clear h
          obtain ⟨dQ2, AQ2, nQ2, cQ2, eQ2, EQ2, mQ2, fQ2, h⟩ := HQ.out.get 2 (by omega)
          rw [L2.out] at h
          have Q2 := Lib.hid h
          clear h
          clear HQ
          clear L0 L1 L2 HLL HL
          have I0 := Lib.hid (S0_.out.inF (by omega))
          have I1 := Lib.hid (S1_.out.inF (by omega))
          have I2 := Lib.hid (S2_.out.inF (by omega))
          go_wp2_with fail
          refine or_r18 (x0 := x0) (x1 := x1) (x2 := x2) rfl rfl Q0.out Q1.out I0.out I1.out ?_
          intro w58 u111 u112 u113 u114 u115 u116 u117 u9   b   o9
          obtain rfl := o9
          simp only [List.foldl_cons, List.foldl_nil, List.setIfInBounds_toArray, List.set_cons_zero, List.set_cons_succ]
          have z58 := b.size
          replace z58 := Lib.hid z58
          replace HB := Lib.hid (bstep HB.out b)
          replace Q0 := Lib.hid (Q0.out.below b)
          replace Q1 := Lib.hid (Q1.out.below b)
          replace Q2 := Lib.hid (Q2.out.below b)
          clear b
          go_wp2_with fail
          refine or_r19 (x0 := x0) (x1 := x1) (x2 := x2) rfl rfl Q1.out Q2.out I1.out I2.out ?_
          intro w59 u118 u119 u120 u121 u122 u123 u124 u10   b   o10
          obtain rfl := o10
          simp only [List.foldl_cons, List.foldl_nil, List.setIfInBounds_toArray, List.set_cons_zero, List.set_cons_succ]
          have z59 := b.size
          replace z59 := Lib.hid z59
          replace HB := Lib.hid (bstep HB.out b)
          replace Q0 := Lib.hid (Q0.out.below b)
          replace Q1 := Lib.hid (Q1.out.below b)
          replace Q2 := Lib.hid (Q2.out.below b)
          clear b
          go_wp2_with fail
          refine or_r20 (x0 := x0) (x1 := x1) (x2 := x2) rfl rfl Q0.out Q2.out I0.out I2.out rfl rfl ?_
          intro w60 u125 u126 u127 u128 u129 u130 u131 u132 u133 u134 u135 u136 u137 u138 u139 u140   b   o140
          obtain rfl := o140
          simp only [List.foldl_cons, List.foldl_nil, List.setIfInBounds_toArray, List.set_cons_zero, List.set_cons_succ]
          have z60 := b.size
          replace z60 := Lib.hid z60
          replace HB := Lib.hid (bstep HB.out b)
          replace Q0 := Lib.hid (Q0.out.below b)
          replace Q1 := Lib.hid (Q1.out.below b)
          replace Q2 := Lib.hid (Q2.out.below b)
          clear b
          go_wp2_with fail
          refine or_r22 (x0 := x0) (x1 := x1) (x2 := x2) rfl rfl Q0.out Q2.out I0.out I2.out ?_
          intro w61 u142 u143 u144 u145 u146 u147 u148 u141 u149 u150 u12 g11 d11 A11 n11 c11 e11 E11 m11 f11 b h11 l11 o12
          obtain rfl := o12
          simp only [List.foldl_cons, List.foldl_nil, List.setIfInBounds_toArray, List.set_cons_zero, List.set_cons_succ]
          have z61 := b.size
          replace z61 := Lib.hid z61
          replace HB := Lib.hid (bstep HB.out b)
          replace Q0 := Lib.hid (Q0.out.below b)
          replace Q1 := Lib.hid (Q1.out.below b)
          replace Q2 := Lib.hid (Q2.out.below b)
          have H11 := Lib.hid h11
          have L11 := Lib.hid l11
          clear h11 l11
          clear b
          go_wp2_with fail
          refine or_r23 (x0 := x0) (x1 := x1) (x2 := x2) rfl rfl Q1.out Q2.out I1.out I2.out ?_
          intro w62 u152 u153 u154 u155 u156 u157 u158 u151 u159 u160 u14 g13 d13 A13 n13 c13 e13 E13 m13 f13 b h13 l13 o14
          obtain rfl := o14
          simp only [List.foldl_cons, List.foldl_nil, List.setIfInBounds_toArray, List.set_cons_zero, List.set_cons_succ]
          have z62 := b.size
          replace z62 := Lib.hid z62
          replace HB := Lib.hid (bstep HB.out b)
          replace Q0 := Lib.hid (Q0.out.below b)
          replace Q1 := Lib.hid (Q1.out.below b)
          replace Q2 := Lib.hid (Q2.out.below b)
          replace H11 := Lib.hid (H11.out.below b)
          have H13 := Lib.hid h13
          have L13 := Lib.hid l13
          clear h13 l13
          clear b
          have hin := addQ_in (Sz.addIn S0_.out S2_.out (by omega))
          rw [hin.1] at H11
          rw [hin.2]
          clear hin
          have hin := addQ_in (Sz.addIn S1_.out S2_.out (by omega))
          rw [hin.1] at H13
          rw [hin.2]
          clear hin
          have SA := Lib.hid (Sz.add S0_.out S2_.out)
          have SB := Lib.hid (Sz.add S1_.out S2_.out)
          have gH110 := H11.out.c0
          have gH111 := H11.out.c1
          have gH112 := H11.out.c2
          have gH113 := H11.out.c3
          have gH130 := H13.out.c0
          have gH131 := H13.out.c1
          have gH132 := H13.out.c2
          have gH133 := H13.out.c3
          go_wp2_with fail
          have HC := fcmp_in H11.out.2 H13.out.2 (SA.out.inF (by omega)) (SB.out.inF (by omega))
          rw [cmpF_add] at HC
          refine (HC).mono ?_
          rintro e w63 ⟨rfl, b⟩
          clear gH110 gH111 gH112 gH113 gH130 gH131 gH132 gH133
          have z63 := b.size
          replace z63 := Lib.hid z63
          replace HB := Lib.hid (bstep HB.out b)
          replace Q0 := Lib.hid (Q0.out.below b)
          replace Q1 := Lib.hid (Q1.out.below b)
          replace Q2 := Lib.hid (Q2.out.below b)
          replace H11 := Lib.hid (H11.out.below b)
          replace H13 := Lib.hid (H13.out.below b)
          clear b
          clear HC SA SB
          clear H11
          clear H13
          go_wp2_with fail
          refine or_r26 (x0 := x0) (x1 := x1) (x2 := x2) rfl rfl Q0.out Q2.out I0.out I2.out ?_
          intro w64 u175 u176 u177 u178 u179 u180 u181 u174 u182 u183 u16 g15 d15 A15 n15 c15 e15 E15 m15 f15 b h15 l15 o16
          obtain rfl := o16
          simp only [List.foldl_cons, List.foldl_nil, List.setIfInBounds_toArray, List.set_cons_zero, List.set_cons_succ]
          have z64 := b.size
          replace z64 := Lib.hid z64
          replace HB := Lib.hid (bstep HB.out b)
          replace Q0 := Lib.hid (Q0.out.below b)
          replace Q1 := Lib.hid (Q1.out.below b)
          replace Q2 := Lib.hid (Q2.out.below b)
          have H15 := Lib.hid h15
          have L15 := Lib.hid l15
          clear h15 l15
          clear b
          go_wp2_with fail
          refine or_r27 (x0 := x0) (x1 := x1) (x2 := x2) rfl rfl Q1.out Q2.out I1.out I2.out ?_
          intro w65 u185 u186 u187 u188 u189 u190 u191 u184 u192 u193 u18 g17 d17 A17 n17 c17 e17 E17 m17 f17 b h17 l17 o18
          obtain rfl := o18
          simp only [List.foldl_cons, List.foldl_nil, List.setIfInBounds_toArray, List.set_cons_zero, List.set_cons_succ]
          have z65 := b.size
          replace z65 := Lib.hid z65
          replace HB := Lib.hid (bstep HB.out b)
          replace Q0 := Lib.hid (Q0.out.below b)
          replace Q1 := Lib.hid (Q1.out.below b)
          replace Q2 := Lib.hid (Q2.out.below b)
          replace H15 := Lib.hid (H15.out.below b)
          have H17 := Lib.hid h17
          have L17 := Lib.hid l17
          clear h17 l17
          clear b
          have hin := fitQ_in ((Sz.mul S0_.out S2_.out).inF (by omega))
          rw [hin.1] at H15
          rw [hin.2]
          clear hin
          have hin := fitQ_in ((Sz.mul S1_.out S2_.out).inF (by omega))
          rw [hin.1] at H17
          rw [hin.2]
          clear hin
          have SA := Lib.hid ((Sz.mul S0_.out S2_.out).inF (by omega))
          have SB := Lib.hid ((Sz.mul S1_.out S2_.out).inF (by omega))
          go_wp2_with fail
          refine or_r28 (x0 := x0) (x1 := x1) (x2 := x2) rfl rfl Q2.out I2.out rfl rfl rfl rfl H15.out rfl H17.out SA.out SB.out (cmpF_mul _ _ _) ?_
          intro w66 u194 u195 u196 u197 u198 u199 u200 u201 u202 u203 u204 u205 u206 u207 u208 u209 u210 u211   b   o211
          obtain rfl := o211
          simp only [List.foldl_cons, List.foldl_nil, List.setIfInBounds_toArray, List.set_cons_zero, List.set_cons_succ]
          have z66 := b.size
          replace z66 := Lib.hid z66
          replace HB := Lib.hid (bstep HB.out b)
          replace Q0 := Lib.hid (Q0.out.below b)
          replace Q1 := Lib.hid (Q1.out.below b)
          replace Q2 := Lib.hid (Q2.out.below b)
          replace H15 := Lib.hid (H15.out.below b)
          replace H17 := Lib.hid (H17.out.below b)
          clear b
          clear H15
          clear H17
          clear Q2
          clear SA SB
          have BN := Lib.hid (show InL (x0.num + x1.num) from bits_lt (Bits.add S0_.out.1 S1_.out.1) (by omega))
          have BD := Lib.hid (show InL ((x0.den : Int) + (x1.den : Int)) from bits_lt (Bits.add S0_.out.2 S1_.out.2) (by omega))
          go_wp2_with fail
          refine or_r30 (x0 := x0) (x1 := x1) (x2 := x2) rfl rfl Q0.out Q1.out I0.out I1.out BN.out ?_
          intro w67 u213 u214 u215 u216 u217 u218 u219 u220 u221 u212 u222 u223 u20 g19 d19 A19 n19 c19 b h19 l19 o20
          obtain rfl := o20
          simp only [List.foldl_cons, List.foldl_nil, List.setIfInBounds_toArray, List.set_cons_zero, List.set_cons_succ]
          have z67 := b.size
          replace z67 := Lib.hid z67
          replace HB := Lib.hid (bstep HB.out b)
          replace Q0 := Lib.hid (Q0.out.below b)
          replace Q1 := Lib.hid (Q1.out.below b)
          have H19 := Lib.hid h19
          have L19 := Lib.hid l19
          clear h19 l19
          clear b
          go_wp2_with fail
          refine or_r31 (x0 := x0) (x1 := x1) (x2 := x2) rfl rfl Q0.out Q1.out I0.out I1.out BD.out ?_
          intro w68 u225 u226 u227 u228 u229 u230 u231 u232 u233 u224 u234 u235 u22 g21 d21 A21 n21 c21 b h21 l21 o22
          obtain rfl := o22
          simp only [List.foldl_cons, List.foldl_nil, List.setIfInBounds_toArray, List.set_cons_zero, List.set_cons_succ]
          have z68 := b.size
          replace z68 := Lib.hid z68
          replace HB := Lib.hid (bstep HB.out b)
          replace Q0 := Lib.hid (Q0.out.below b)
          replace Q1 := Lib.hid (Q1.out.below b)
          replace H19 := Lib.hid (H19.out.below b)
          have H21 := Lib.hid h21
          have L21 := Lib.hid l21
          clear h21 l21
          clear b
          have gH190 := H19.out.c0
          have gH191 := H19.out.c1
          have gH210 := H21.out.c0
          have gH211 := H21.out.c1
          go_wp2_with fail
          have HM := make_any _ _ _ _ _ H19.out.2 H21.out.2 BN.out BD.out
          rw [make_nz (show (x0.den : Int) + (x1.den : Int) ≠ 0 from by have h1 := x0.den_pos; omega)] at HM
          refine (HM).mono ?_
          rintro e w69 ⟨v, rfl, h, b⟩
          obtain ⟨d69, A69, n69, c69, e69, E69, m69, f69, rfl⟩ := h.shape
          clear gH190 gH191 gH210 gH211
          have z69 := b.size
          replace z69 := Lib.hid z69
          replace HB := Lib.hid (bstep HB.out b)
          replace Q0 := Lib.hid (Q0.out.below b)
          replace Q1 := Lib.hid (Q1.out.below b)
          replace H19 := Lib.hid (H19.out.below b)
          replace H21 := Lib.hid (H21.out.below b)
          have V69 := Lib.hid h
          clear h b
          clear HM
          have h := HoldQ.new V69.out
          have b := al_below w69 (.cells #[.bool d69, .slice A69 n69 c69, .bool e69, .slice E69 m69 f69] 36)
          replace HB := Lib.hid (bstep HB.out b)
          replace Q0 := Lib.hid (Q0.out.below b)
          replace Q1 := Lib.hid (Q1.out.below b)
          replace H19 := Lib.hid (H19.out.below b)
          replace H21 := Lib.hid (H21.out.below b)
          clear b
          have H69 := Lib.hid h
          clear h V69
          clear H19
          clear H21
          replace H69 := Lib.hid (show HoldQ _ _ (medF x0 x1) _ _ _ _ _ _ _ _ from H69.out)
          have IM := Lib.hid (show InF (medF x0 x1) from quo_in BN.out BD.out)
          clear BN BD
          obtain ⟨ab, hab⟩ : ∃ z, cmpF x0 x1 = z := ⟨_, rfl⟩
          rw [hab]
          by_cases hz : ab = 0
          · subst hz
            clear hab
            go_wp2_with fail
            refine (lives_law _).mono ?_
            rintro e w70 ⟨rfl, b⟩
            have z70 := b.size
            simp only [World.size_alloc] at z70
            replace z70 := Lib.hid z70
            replace HB := Lib.hid (bstep HB.out b)
            replace Q0 := Lib.hid (Q0.out.below b)
            replace Q1 := Lib.hid (Q1.out.below b)
            replace H69 := Lib.hid (H69.out.below b)
            clear b
            have HF := HB.out
            clear HB Q0 Q1 H69
            go_wp2_with fail
            go_ret
            exact ⟨rfl, HF⟩
          · have hz1 : (ab == 0) = false := by simp [hz]
            have MC := med_cmp (show cmpF x0 x1 ≠ 0 from hab ▸ hz)
            replace MC := Lib.hid MC
            have HAB := Lib.hid hab
            clear hab hz
            go_wp2_with fail
            rw [← HAB.out]
            refine or_r35 (x0 := x0) (x1 := x1) (x2 := x2) rfl rfl Q0.out Q1.out I0.out I1.out rfl rfl H69.out IM.out MC.out.1 MC.out.2 ?_
            intro w71 u249 u250 u251 u252 u253 u254 u255 u256 u257 u258 u259 u260 u261 u262 u263 u264 u265 u266 u267 u2   b   o2
            obtain rfl := o2
            simp only [List.foldl_cons, List.foldl_nil, List.setIfInBounds_toArray, List.set_cons_zero, List.set_cons_succ]
            have z71 := b.size
            simp only [World.size_alloc] at z71
            replace z71 := Lib.hid z71
            replace HB := Lib.hid (bstep HB.out b)
            replace Q0 := Lib.hid (Q0.out.below b)
            replace Q1 := Lib.hid (Q1.out.below b)
            replace H69 := Lib.hid (H69.out.below b)
            clear b
            have HF := HB.out
            clear HB Q0 Q1 H69
            go_wp2_with fail
            go_ret
            exact ⟨rfl, HF⟩
end Go.Proofs.YtocooajlfpngdaaGreatDoor
