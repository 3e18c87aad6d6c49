/- Layer 4's laws: FracSums. -/
import Derived.Deep.LoopGhost
import Derived.Test.YtocooajlfpngdaaGreatDoorB49
import Derived.Test.YtocooajlfpngdaaGreatDoorB44
namespace Go.Proofs.YtocooajlfpngdaaGreatDoor
open Go.RowKit
set_option linter.unusedVariables false

set_option maxRecDepth 100000 in
set_option maxHeartbeats 8000000 in
theorem fracSums_law (A0 : Option Addr) (n0 c0 : Nat) (zs : List Int) (w : World) (hI : InI w A0 n0 zs) (hn : n0 ≤ 9223372036854775807) :
    Calls Tryz.prog 4 #[.slice A0 n0 c0] w (fun e w' => e = .returned (.bool true) ∧ Below w.heap.size w w') := by
  have HI := Lib.hid hI
  clear hI
  have HB := Lib.hid (Below.refl w.heap.size w)
  go_enter Tryz.func4, Tryz.ntmps4
  go_wp2_with fail
  refine (gfrac_any A0 n0 c0 0 zs _ HI.out hn (by omega) (by omega)).mono ?_
  rintro e w51 ⟨x51, hx, v, rfl, h, b⟩
  obtain ⟨d51, A51, n51, c51, e51, E51, m51, f51, rfl⟩ := h.shape
  have z51 := b.size
  replace z51 := Lib.hid z51
  replace HI := Lib.hid (HI.out.below b)
  replace HB := Lib.hid (bstep HB.out b)
  have V51 := Lib.hid h
  have S51 := Lib.hid (fr_sz hx)
  clear h b hx
  have h := HoldG.new V51.out
  have b := al_below w51 (.cells #[.bool d51, .slice A51 n51 c51, .bool e51, .slice E51 m51 f51] 42)
  replace HI := Lib.hid (HI.out.below b)
  replace HB := Lib.hid (bstep HB.out b)
  clear b
  have H51 := Lib.hid h
  clear h V51
  go_wp2_with fail
  refine (gfrac_any A0 n0 c0 4 zs _ HI.out hn (by omega) (by omega)).mono ?_
  rintro e w52 ⟨x52, hx, v, rfl, h, b⟩
  obtain ⟨d52, A52, n52, c52, e52, E52, m52, f52, rfl⟩ := h.shape
  have z52 := b.size
  simp only [World.size_alloc] at z52
  replace z52 := Lib.hid z52
  replace HI := Lib.hid (HI.out.below b)
  replace HB := Lib.hid (bstep HB.out b)
  replace H51 := Lib.hid (H51.out.below b)
  have V52 := Lib.hid h
  have S52 := Lib.hid (fr_sz hx)
  clear h b hx
  have h := HoldG.new V52.out
  have b := al_below w52 (.cells #[.bool d52, .slice A52 n52 c52, .bool e52, .slice E52 m52 f52] 42)
  replace HI := Lib.hid (HI.out.below b)
  replace HB := Lib.hid (bstep HB.out b)
  replace H51 := Lib.hid (H51.out.below b)
  clear b
  have H52 := Lib.hid h
  clear h V52
  clear HI
  go_wp2_with fail
  refine su_r3 rfl rfl H51.out rfl H52.out ?_
  intro w53 u30 u31 u32 u33 u34 u35 u5   b   o5
  simp only [List.foldl_cons, List.foldl_nil, List.setIfInBounds_toArray, List.set_cons_zero, List.set_cons_succ]
  have z53 := b.size
  simp only [World.size_alloc] at z53
  replace z53 := Lib.hid z53
  replace HB := Lib.hid (bstep HB.out b)
  replace H51 := Lib.hid (H51.out.below b)
  replace H52 := Lib.hid (H52.out.below b)
  clear b
  obtain ⟨g5, cs, tt, rfl, -, -, hR⟩ := o5
  have HR := Lib.hid hR
  clear hR
  have HL := Lib.hid (show ∀ i < 4, InF ([x51, x52, -x51, ((0 : Int) : Rat)][i]?.getD 0) from fun i hi => allq4 (P := InF) (S51.out.inF (by omega)) (S52.out.inF (by omega)) (InF.neg (S51.out.inF (by omega))) in_0 i hi)
  obtain ⟨L, hL⟩ : ∃ L, L = [x51, x52, -x51, ((0 : Int) : Rat)] := ⟨_, rfl⟩
  have hLL : L.length = 4 := by rw [hL]; rfl
  rw [← hL] at HR HL
  have HLL := Lib.hid hLL
  clear hL hLL
  clear H51
  clear H52
  clear S51 S52 hn
  go_wp2_with fail
  clear z51 z52 z53
  go_loopg [6] 4 (fun gk iv wr => ∃ i : Nat, gk + i = 4 ∧ iv = .int .i64 i ∧ Hid (ArrG wr g5 L) ∧ Hid (Below w.heap.size w wr))
  case atStart => exact ⟨0, by omega, rfl, HR, HB⟩
  case round =>
    clear HB HR
    obtain ⟨i, hgi, rfl, HR, HB⟩ := hrel
    by_cases hlt : (i : Int) < 4
    · have ei : IntKind.i64.wrap ((i : Int) + 1) = (i : Int) + 1 := IntWalk.i64_in _ (by omega)
      go_wp2_with fail
      obtain ⟨go, rfl⟩ : ∃ g, g = gk := ⟨_, rfl⟩
      go_loopg [7] 4 (fun gk kv wi => ∃ k : Nat, gk + k = 4 ∧ kv = .int .i64 k ∧ Hid (ArrG wi g5 L) ∧ Hid (Below w.heap.size w wi))
      case atStart => exact ⟨0, by omega, rfl, HR, HB⟩
      case round =>
        rename World => wi
        clear HB HR
        obtain ⟨k, hgk, rfl, HR, HB⟩ := hrel
        by_cases hlk : (k : Int) < 4
        · have ek : IntKind.i64.wrap ((k : Int) + 1) = (k : Int) + 1 := IntWalk.i64_in _ (by omega)
          have hip : (0 : Int) ≤ (i : Int) := Int.natCast_nonneg _
          have hkp : (0 : Int) ≤ (k : Int) := Int.natCast_nonneg _
          obtain ⟨dHi, AHi, nHi, cHi, eHi, EHi, mHi, fHi, h⟩ := HR.out.get i (by rw [HLL.out]; omega)
          have ZL := HL.out i (by omega)
          obtain ⟨x, hz⟩ : ∃ z, L[i]?.getD 0 = z := ⟨_, rfl⟩
          rw [hz] at h ZL
          have Zi := Lib.hid ZL
          have Hi := Lib.hid h
          clear hz ZL h
          obtain ⟨dHk, AHk, nHk, cHk, eHk, EHk, mHk, fHk, h⟩ := HR.out.get k (by rw [HLL.out]; omega)
          have ZL := HL.out k (by omega)
          obtain ⟨y, hz⟩ : ∃ z, L[k]?.getD 0 = z := ⟨_, rfl⟩
          rw [hz] at h ZL
          have Zk := Lib.hid ZL
          have Hk := Lib.hid h
          clear hz ZL h
          have gHi0 := Hi.out.c0
          have gHi1 := Hi.out.c1
          have gHi2 := Hi.out.c2
          have gHi3 := Hi.out.c3
          go_wp2_with fail
          refine (of_law _ _ _ Hi.out.rep Zi.out).mono ?_
          rintro e w54 ⟨v, rfl, h, b⟩
          obtain ⟨d54, A54, n54, c54, e54, E54, m54, f54, rfl⟩ := h.shape
          clear gHi0 gHi1 gHi2 gHi3
          have z54 := b.size
          replace z54 := Lib.hid z54
          replace HR := Lib.hid (HR.out.below b)
          replace HB := Lib.hid (bstep HB.out b)
          replace Hi := Lib.hid (Hi.out.below b)
          replace Hk := Lib.hid (Hk.out.below b)
          have V54 := Lib.hid h
          clear h b
          have h := HoldQ.new V54.out
          have b := al_below w54 (.cells #[.bool d54, .slice A54 n54 c54, .bool e54, .slice E54 m54 f54] 36)
          replace HR := Lib.hid (HR.out.below b)
          replace HB := Lib.hid (bstep HB.out b)
          replace Hi := Lib.hid (Hi.out.below b)
          replace Hk := Lib.hid (Hk.out.below b)
          clear b
          have H54 := Lib.hid h
          clear h V54
          have gHk0 := Hk.out.c0
          have gHk1 := Hk.out.c1
          have gHk2 := Hk.out.c2
          have gHk3 := Hk.out.c3
          go_wp2_with fail
          refine (of_law _ _ _ Hk.out.rep Zk.out).mono ?_
          rintro e w55 ⟨v, rfl, h, b⟩
          obtain ⟨d55, A55, n55, c55, e55, E55, m55, f55, rfl⟩ := h.shape
          clear gHk0 gHk1 gHk2 gHk3
          have z55 := b.size
          simp only [World.size_alloc] at z55
          replace z55 := Lib.hid z55
          replace HR := Lib.hid (HR.out.below b)
          replace HB := Lib.hid (bstep HB.out b)
          replace Hi := Lib.hid (Hi.out.below b)
          replace Hk := Lib.hid (Hk.out.below b)
          replace H54 := Lib.hid (H54.out.below b)
          have V55 := Lib.hid h
          clear h b
          have h := HoldQ.new V55.out
          have b := al_below w55 (.cells #[.bool d55, .slice A55 n55 c55, .bool e55, .slice E55 m55 f55] 36)
          replace HR := Lib.hid (HR.out.below b)
          replace HB := Lib.hid (bstep HB.out b)
          replace Hi := Lib.hid (Hi.out.below b)
          replace Hk := Lib.hid (Hk.out.below b)
          replace H54 := Lib.hid (H54.out.below b)
          clear b
          have H55 := Lib.hid h
          clear h V55
          have gH540 := H54.out.c0
          have gH541 := H54.out.c1
          have gH542 := H54.out.c2
          have gH543 := H54.out.c3
          have gH550 := H55.out.c0
          have gH551 := H55.out.c1
          have gH552 := H55.out.c2
          have gH553 := H55.out.c3
          go_wp2_with fail
          refine (fadd_any x y _ _ _ H54.out.2 H55.out.2 Zi.out Zk.out).mono ?_
          rintro e w56 ⟨v, rfl, h, b⟩
          obtain ⟨d56, A56, n56, c56, e56, E56, m56, f56, rfl⟩ := h.shape
          clear gH540 gH541 gH542 gH543 gH550 gH551 gH552 gH553
          have z56 := b.size
          simp only [World.size_alloc] at z56
          replace z56 := Lib.hid z56
          replace HR := Lib.hid (HR.out.below b)
          replace HB := Lib.hid (bstep HB.out b)
          replace Hi := Lib.hid (Hi.out.below b)
          replace Hk := Lib.hid (Hk.out.below b)
          replace H54 := Lib.hid (H54.out.below b)
          replace H55 := Lib.hid (H55.out.below b)
          have V56 := Lib.hid h
          clear h b
          have h := HoldQ.new V56.out
          have b := al_below w56 (.cells #[.bool d56, .slice A56 n56 c56, .bool e56, .slice E56 m56 f56] 36)
          replace HR := Lib.hid (HR.out.below b)
          replace HB := Lib.hid (bstep HB.out b)
          replace Hi := Lib.hid (Hi.out.below b)
          replace Hk := Lib.hid (Hk.out.below b)
          replace H54 := Lib.hid (H54.out.below b)
          replace H55 := Lib.hid (H55.out.below b)
          clear b
          have H56 := Lib.hid h
          clear h V56
          go_wp2_with fail
          refine su_r13 (i := i) (k := k) rfl rfl rfl rfl (by omega) (by omega) Hi.out Hk.out Zi.out Zk.out ?_
          intro w57 u61 u62 u63 u64 u65 u66 u67 u68 u69 u60 u70 u71 u13 g12 d12 A12 n12 c12 e12 E12 m12 f12 b h12 l12 o13
          obtain rfl := o13
          simp only [List.foldl_cons, List.foldl_nil, List.setIfInBounds_toArray, List.set_cons_zero, List.set_cons_succ]
          simp only [World.size_alloc] at l12
          have z57 := b.size
          simp only [World.size_alloc] at z57
          replace z57 := Lib.hid z57
          replace HR := Lib.hid (HR.out.below b)
          replace HB := Lib.hid (bstep HB.out b)
          replace Hi := Lib.hid (Hi.out.below b)
          replace Hk := Lib.hid (Hk.out.below b)
          replace H54 := Lib.hid (H54.out.below b)
          replace H55 := Lib.hid (H55.out.below b)
          replace H56 := Lib.hid (H56.out.below b)
          have H12 := Lib.hid h12
          have L12 := Lib.hid l12
          clear h12 l12
          clear b
          have gH540 := H54.out.c0
          have gH541 := H54.out.c1
          have gH542 := H54.out.c2
          have gH543 := H54.out.c3
          have gH550 := H55.out.c0
          have gH551 := H55.out.c1
          have gH552 := H55.out.c2
          have gH553 := H55.out.c3
          go_wp2_with fail
          refine (fsub_any x y _ _ _ H54.out.2 H55.out.2 Zi.out Zk.out).mono ?_
          rintro e w58 ⟨v, rfl, h, b⟩
          obtain ⟨d58, A58, n58, c58, e58, E58, m58, f58, rfl⟩ := h.shape
          clear gH540 gH541 gH542 gH543 gH550 gH551 gH552 gH553
          have z58 := b.size
          replace z58 := Lib.hid z58
          replace HR := Lib.hid (HR.out.below b)
          replace HB := Lib.hid (bstep HB.out b)
          replace Hi := Lib.hid (Hi.out.below b)
          replace Hk := Lib.hid (Hk.out.below b)
          replace H54 := Lib.hid (H54.out.below b)
          replace H55 := Lib.hid (H55.out.below b)
          replace H56 := Lib.hid (H56.out.below b)
          replace H12 := Lib.hid (H12.out.below b)
          have V58 := Lib.hid h
          clear h b
          have h := HoldQ.new V58.out
          have b := al_below w58 (.cells #[.bool d58, .slice A58 n58 c58, .bool e58, .slice E58 m58 f58] 36)
          replace HR := Lib.hid (HR.out.below b)
          replace HB := Lib.hid (bstep HB.out b)
          replace Hi := Lib.hid (Hi.out.below b)
          replace Hk := Lib.hid (Hk.out.below b)
          replace H54 := Lib.hid (H54.out.below b)
          replace H55 := Lib.hid (H55.out.below b)
          replace H56 := Lib.hid (H56.out.below b)
          replace H12 := Lib.hid (H12.out.below b)
          clear b
          have H58 := Lib.hid h
          clear h V58
          go_wp2_with fail
          refine su_r15 (i := i) (k := k) rfl rfl rfl rfl (by omega) (by omega) Hi.out Hk.out Zi.out Zk.out ?_
          intro w59 u79 u80 u81 u82 u83 u84 u85 u86 u87 u78 u88 u89 u17 g16 d16 A16 n16 c16 e16 E16 m16 f16 b h16 l16 o17
          obtain rfl := o17
          simp only [List.foldl_cons, List.foldl_nil, List.setIfInBounds_toArray, List.set_cons_zero, List.set_cons_succ]
          simp only [World.size_alloc] at l16
          have z59 := b.size
          simp only [World.size_alloc] at z59
          replace z59 := Lib.hid z59
          replace HR := Lib.hid (HR.out.below b)
          replace HB := Lib.hid (bstep HB.out b)
          replace Hi := Lib.hid (Hi.out.below b)
          replace Hk := Lib.hid (Hk.out.below b)
          replace H54 := Lib.hid (H54.out.below b)
          replace H55 := Lib.hid (H55.out.below b)
          replace H56 := Lib.hid (H56.out.below b)
          replace H12 := Lib.hid (H12.out.below b)
          replace H58 := Lib.hid (H58.out.below b)
          have H16 := Lib.hid h16
          have L16 := Lib.hid l16
          clear h16 l16
          clear b
          have gH540 := H54.out.c0
          have gH541 := H54.out.c1
          have gH542 := H54.out.c2
          have gH543 := H54.out.c3
          have gH550 := H55.out.c0
          have gH551 := H55.out.c1
          have gH552 := H55.out.c2
          have gH553 := H55.out.c3
          go_wp2_with fail
          refine (fmul_any x y _ _ _ H54.out.2 H55.out.2 Zi.out Zk.out).mono ?_
          rintro e w60 ⟨v, rfl, h, b⟩
          obtain ⟨d60, A60, n60, c60, e60, E60, m60, f60, rfl⟩ := h.shape
          clear gH540 gH541 gH542 gH543 gH550 gH551 gH552 gH553
          have z60 := b.size
          replace z60 := Lib.hid z60
          replace HR := Lib.hid (HR.out.below b)
          replace HB := Lib.hid (bstep HB.out b)
          replace Hi := Lib.hid (Hi.out.below b)
          replace Hk := Lib.hid (Hk.out.below b)
          replace H54 := Lib.hid (H54.out.below b)
          replace H55 := Lib.hid (H55.out.below b)
          replace H56 := Lib.hid (H56.out.below b)
          replace H12 := Lib.hid (H12.out.below b)
          replace H58 := Lib.hid (H58.out.below b)
          replace H16 := Lib.hid (H16.out.below b)
          have V60 := Lib.hid h
          clear h b
          have h := HoldQ.new V60.out
          have b := al_below w60 (.cells #[.bool d60, .slice A60 n60 c60, .bool e60, .slice E60 m60 f60] 36)
          replace HR := Lib.hid (HR.out.below b)
          replace HB := Lib.hid (bstep HB.out b)
          replace Hi := Lib.hid (Hi.out.below b)
          replace Hk := Lib.hid (Hk.out.below b)
          replace H54 := Lib.hid (H54.out.below b)
          replace H55 := Lib.hid (H55.out.below b)
          replace H56 := Lib.hid (H56.out.below b)
          replace H12 := Lib.hid (H12.out.below b)
          replace H58 := Lib.hid (H58.out.below b)
          replace H16 := Lib.hid (H16.out.below b)
          clear b
          have H60 := Lib.hid h
          clear h V60
          go_wp2_with fail
          refine su_r17 (i := i) (k := k) rfl rfl rfl rfl (by omega) (by omega) Hi.out Hk.out Zi.out Zk.out ?_
          intro w61 u97 u98 u99 u100 u101 u102 u103 u104 u105 u96 u106 u107 u21 g20 d20 A20 n20 c20 e20 E20 m20 f20 b h20 l20 o21
          obtain rfl := o21
          simp only [List.foldl_cons, List.foldl_nil, List.setIfInBounds_toArray, List.set_cons_zero, List.set_cons_succ]
          simp only [World.size_alloc] at l20
          have z61 := b.size
          simp only [World.size_alloc] at z61
          replace z61 := Lib.hid z61
          replace HR := Lib.hid (HR.out.below b)
          replace HB := Lib.hid (bstep HB.out b)
          replace Hi := Lib.hid (Hi.out.below b)
          replace Hk := Lib.hid (Hk.out.below b)
          replace H54 := Lib.hid (H54.out.below b)
          replace H55 := Lib.hid (H55.out.below b)
          replace H56 := Lib.hid (H56.out.below b)
          replace H12 := Lib.hid (H12.out.below b)
          replace H58 := Lib.hid (H58.out.below b)
          replace H16 := Lib.hid (H16.out.below b)
          replace H60 := Lib.hid (H60.out.below b)
          have H20 := Lib.hid h20
          have L20 := Lib.hid l20
          clear h20 l20
          clear b
          have gH540 := H54.out.c0
          have gH541 := H54.out.c1
          have gH542 := H54.out.c2
          have gH543 := H54.out.c3
          have gH550 := H55.out.c0
          have gH551 := H55.out.c1
          have gH552 := H55.out.c2
          have gH553 := H55.out.c3
          go_wp2_with fail
          refine (fdiv_all H54.out.2 H55.out.2 Zi.out Zk.out).mono ?_
          rintro e w62 ⟨v, rfl, h, b⟩
          obtain ⟨d62, A62, n62, c62, e62, E62, m62, f62, rfl⟩ := h.shape
          clear gH540 gH541 gH542 gH543 gH550 gH551 gH552 gH553
          have z62 := b.size
          replace z62 := Lib.hid z62
          replace HR := Lib.hid (HR.out.below b)
          replace HB := Lib.hid (bstep HB.out b)
          replace Hi := Lib.hid (Hi.out.below b)
          replace Hk := Lib.hid (Hk.out.below b)
          replace H54 := Lib.hid (H54.out.below b)
          replace H55 := Lib.hid (H55.out.below b)
          replace H56 := Lib.hid (H56.out.below b)
          replace H12 := Lib.hid (H12.out.below b)
          replace H58 := Lib.hid (H58.out.below b)
          replace H16 := Lib.hid (H16.out.below b)
          replace H60 := Lib.hid (H60.out.below b)
          replace H20 := Lib.hid (H20.out.below b)
          have V62 := Lib.hid h
          clear h b
          have h := HoldQ.new V62.out
          have b := al_below w62 (.cells #[.bool d62, .slice A62 n62 c62, .bool e62, .slice E62 m62 f62] 36)
          replace HR := Lib.hid (HR.out.below b)
          replace HB := Lib.hid (bstep HB.out b)
          replace Hi := Lib.hid (Hi.out.below b)
          replace Hk := Lib.hid (Hk.out.below b)
          replace H54 := Lib.hid (H54.out.below b)
          replace H55 := Lib.hid (H55.out.below b)
          replace H56 := Lib.hid (H56.out.below b)
          replace H12 := Lib.hid (H12.out.below b)
          replace H58 := Lib.hid (H58.out.below b)
          replace H16 := Lib.hid (H16.out.below b)
          replace H60 := Lib.hid (H60.out.below b)
          replace H20 := Lib.hid (H20.out.below b)
          clear b
          have H62 := Lib.hid h
          clear h V62
          go_wp2_with fail
          refine su_r19 (i := i) (k := k) rfl rfl rfl rfl (by omega) (by omega) Hi.out Hk.out Zi.out Zk.out ?_
          intro w63 u115 u116 u117 u118 u119 u120 u121 u122 u123 u114 u124 u125 u25 g24 d24 A24 n24 c24 e24 E24 m24 f24 b h24 l24 o25
          obtain rfl := o25
          simp only [List.foldl_cons, List.foldl_nil, List.setIfInBounds_toArray, List.set_cons_zero, List.set_cons_succ]
          simp only [World.size_alloc] at l24
          have z63 := b.size
          simp only [World.size_alloc] at z63
          replace z63 := Lib.hid z63
          replace HR := Lib.hid (HR.out.below b)
          replace HB := Lib.hid (bstep HB.out b)
          replace Hi := Lib.hid (Hi.out.below b)
          replace Hk := Lib.hid (Hk.out.below b)
          replace H54 := Lib.hid (H54.out.below b)
          replace H55 := Lib.hid (H55.out.below b)
          replace H56 := Lib.hid (H56.out.below b)
          replace H12 := Lib.hid (H12.out.below b)
          replace H58 := Lib.hid (H58.out.below b)
          replace H16 := Lib.hid (H16.out.below b)
          replace H60 := Lib.hid (H60.out.below b)
          replace H20 := Lib.hid (H20.out.below b)
          replace H62 := Lib.hid (H62.out.below b)
          have H24 := Lib.hid h24
          have L24 := Lib.hid l24
          clear h24 l24
          clear b
          clear Hi
          clear Hk
          clear H54
          clear H55
          obtain ⟨E0, hE⟩ : ∃ E, addR x y = E := ⟨_, rfl⟩
          rw [hE]
          clear hE
          obtain ⟨E1, hE⟩ : ∃ E, addR x (-y) = E := ⟨_, rfl⟩
          rw [hE]
          clear hE
          obtain ⟨E2, hE⟩ : ∃ E, fitR (x * y) = E := ⟨_, rfl⟩
          rw [hE]
          clear hE
          obtain ⟨E3, hE⟩ : ∃ E, divR x y = E := ⟨_, rfl⟩
          rw [hE]
          clear hE
          have gH560 := H56.out.c0
          have gH561 := H56.out.c1
          have gH562 := H56.out.c2
          have gH563 := H56.out.c3
          have gH120 := H12.out.c0
          have gH121 := H12.out.c1
          have gH122 := H12.out.c2
          have gH123 := H12.out.c3
          go_wp2_with fail
          refine (same_law _ _ _ _ H56.out.2 H12.out.2 (addQ_bd _ _)).mono ?_
          rintro e w64 ⟨rfl, b⟩
          clear gH560 gH561 gH562 gH563 gH120 gH121 gH122 gH123
          have z64 := b.size
          replace z64 := Lib.hid z64
          replace HR := Lib.hid (HR.out.below b)
          replace HB := Lib.hid (bstep HB.out b)
          replace H56 := Lib.hid (H56.out.below b)
          replace H12 := Lib.hid (H12.out.below b)
          replace H58 := Lib.hid (H58.out.below b)
          replace H16 := Lib.hid (H16.out.below b)
          replace H60 := Lib.hid (H60.out.below b)
          replace H20 := Lib.hid (H20.out.below b)
          replace H62 := Lib.hid (H62.out.below b)
          replace H24 := Lib.hid (H24.out.below b)
          clear b
          clear H56
          clear H12
          have gH580 := H58.out.c0
          have gH581 := H58.out.c1
          have gH582 := H58.out.c2
          have gH583 := H58.out.c3
          have gH160 := H16.out.c0
          have gH161 := H16.out.c1
          have gH162 := H16.out.c2
          have gH163 := H16.out.c3
          go_wp2_with fail
          refine (same_law _ _ _ _ H58.out.2 H16.out.2 (addQ_bd _ _)).mono ?_
          rintro e w65 ⟨rfl, b⟩
          clear gH580 gH581 gH582 gH583 gH160 gH161 gH162 gH163
          have z65 := b.size
          replace z65 := Lib.hid z65
          replace HR := Lib.hid (HR.out.below b)
          replace HB := Lib.hid (bstep HB.out b)
          replace H58 := Lib.hid (H58.out.below b)
          replace H16 := Lib.hid (H16.out.below b)
          replace H60 := Lib.hid (H60.out.below b)
          replace H20 := Lib.hid (H20.out.below b)
          replace H62 := Lib.hid (H62.out.below b)
          replace H24 := Lib.hid (H24.out.below b)
          clear b
          clear H58
          clear H16
          have gH600 := H60.out.c0
          have gH601 := H60.out.c1
          have gH602 := H60.out.c2
          have gH603 := H60.out.c3
          have gH200 := H20.out.c0
          have gH201 := H20.out.c1
          have gH202 := H20.out.c2
          have gH203 := H20.out.c3
          go_wp2_with fail
          refine (same_law _ _ _ _ H60.out.2 H20.out.2 (fitQ_bd _)).mono ?_
          rintro e w66 ⟨rfl, b⟩
          clear gH600 gH601 gH602 gH603 gH200 gH201 gH202 gH203
          have z66 := b.size
          replace z66 := Lib.hid z66
          replace HR := Lib.hid (HR.out.below b)
          replace HB := Lib.hid (bstep HB.out b)
          replace H60 := Lib.hid (H60.out.below b)
          replace H20 := Lib.hid (H20.out.below b)
          replace H62 := Lib.hid (H62.out.below b)
          replace H24 := Lib.hid (H24.out.below b)
          clear b
          clear H60
          clear H20
          have gH620 := H62.out.c0
          have gH621 := H62.out.c1
          have gH622 := H62.out.c2
          have gH623 := H62.out.c3
          have gH240 := H24.out.c0
          have gH241 := H24.out.c1
          have gH242 := H24.out.c2
          have gH243 := H24.out.c3
          go_wp2_with fail
          refine (same_law _ _ _ _ H62.out.2 H24.out.2 (divQ_bd _ _)).mono ?_
          rintro e w67 ⟨rfl, b⟩
          clear gH620 gH621 gH622 gH623 gH240 gH241 gH242 gH243
          have z67 := b.size
          replace z67 := Lib.hid z67
          replace HR := Lib.hid (HR.out.below b)
          replace HB := Lib.hid (bstep HB.out b)
          replace H62 := Lib.hid (H62.out.below b)
          replace H24 := Lib.hid (H24.out.below b)
          clear b
          clear H62
          clear H24
          clear Zi Zk L12 L16 L20 L24
          go_wp2_with fail
          clear z54 z55 z56 z57 z58 z59 z60 z61 z62 z63 z64 z65 z66 z67
          go_roundg (gk - 1)
          case measure => omega
          case rel => exact ⟨k + 1, by omega, by go_num, HR, HB⟩
        · skip
          go_wp2_with fail
          go_roundg (go - 1)
          case measure => omega
          case rel => exact ⟨i + 1, by omega, by go_num, HR, HB⟩
    · clear HR HL HLL
      go_wp2_with fail
      refine (lives_law _).mono ?_
      rintro e w68 ⟨rfl, b⟩
      have z68 := b.size
      replace z68 := Lib.hid z68
      replace HB := Lib.hid (bstep HB.out b)
      clear b
      have HF := HB.out
      clear HB
      go_wp2_with fail
      go_ret
      exact ⟨rfl, HF⟩
end Go.Proofs.YtocooajlfpngdaaGreatDoor
