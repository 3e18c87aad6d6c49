/- Layer 3's laws: WideTexts. -/
import Derived.Deep.DeepCutAuto
import Derived.Deep.LoopGhost
import Derived.Test.YtpilpceclmppgaaDoorLaw3P
namespace Go.Proofs.YtpilpceclmppgaaDoor
open Go.RowKit
set_option linter.unusedVariables false

set_option linter.unusedSimpArgs false
set_option maxRecDepth 100000 in
set_option maxHeartbeats 8000000 in
theorem wideTexts_law (A0 : Option Addr) (n0 c0 : Nat) (zs : List Int) (w : World) (hI : InI w A0 n0 zs) (hn : n0 ≤ 9223372036854775807) (s : ByteArray) (at_ cc : Int) (hs : s.size ≤ maxLen) (hat : -9223372036854775808 ≤ at_ ∧ at_ ≤ 9223372036854775807) (hcc : byteI cc) :
    Calls Tryd.prog 3 #[.string s, .slice A0 n0 c0, .int .i64 at_, .int .u8 cc] w fun e w' => e = .returned (.bool true) ∧ Below w.heap.size w w' := by
  obtain ⟨k0, k1⟩ := hat
  have HCC := Lib.hid hcc
  have HSS := Lib.hid hs
  clear hcc hs
  have HB := Lib.hid (Below.refl w.heap.size w)
  have HI := Lib.hid hI
  clear hI
  go_enter Tryd.func3, Tryd.ntmps3
  go_wp2_with fail
  refine (number_any A0 n0 c0 0 zs _ HI.out hn (by omega) (by omega)).mono ?_
  rintro e w1 ⟨z1, hz, v, rfl, h, b⟩
  obtain ⟨d1, A1, n1, c1, rfl⟩ := h.shape
  replace HB := Lib.hid (bstep HB.out b)
  replace HI := Lib.hid (HI.out.below b)
  have Z1 := Lib.hid (show Num z1 from hz)
  have V1 := Lib.hid h
  clear h b hz
  obtain ⟨T, hT⟩ : ∃ T, strB (decT z1) = T := ⟨_, rfl⟩
  have HX := text_any z1 _ _ V1.out (Z1.out.bits _ (by omega))
  unfold TextPost at HX
  rw [hT] at HX
  obtain ⟨N, hN⟩ : ∃ N, T.size = N := ⟨_, rfl⟩
  have hN2 : N = (decT z1).length := by rw [← hN, ← hT]; simp [strB, ByteArray.size]
  have hp := dec_pos z1
  have hq := dec_short (z := z1) Z1.out.ltl
  have hN0 : 1 ≤ N := by omega
  have hN1 : N ≤ 4995 := by omega
  clear hN2 hp hq hT
  have hTS : T.data.size = N := hN
  have hmx : (N : Int) ≤ 4611686018427387904 := by omega
  go_wp2_with fail
  refine (HX).mono ?_
  rintro e w2 ⟨rfl, b⟩
  replace HB := Lib.hid (bstep HB.out b)
  replace HI := Lib.hid (HI.out.below b)
  replace V1 := Lib.hid (V1.out.step b)
  clear b
  clear HX
  clear V1
  clear HI
  have hb := aroundI_bd at_ N (by omega)
  obtain ⟨K, hK⟩ : ∃ K : Nat, aroundI at_ N = (K : Int) := ⟨(aroundI at_ N).toNat, by omega⟩
  have HA := around_any at_ N w2 k0 k1 (by omega) (by omega)
  rw [hK] at HA hb
  have hKN : K < N := by omega
  clear hb hK
  go_wp2_with fail
  refine HA.mono ?_
  rintro e w' ⟨rfl, rfl⟩
  clear HA
  have e1 : IntKind.i64.wrap ((K : Int) + 1) = (K : Int) + 1 := IntWalk.i64_in _ (by omega)
  have e2 : (0 : Int) ≤ (K : Int) := Int.natCast_nonneg _
  have e3 : (K : Int) ≤ (N : Int) := by omega
  have e4 : (K : Int) + 1 ≤ (N : Int) := by omega
  have e5 : (0 : Int) ≤ (K : Int) + 1 := by omega
  have e6 : K ≤ N := by omega
  have e7 : K + 1 ≤ N := by omega
  have hn1 : ¬ 9223372036854775807 < N + N := by omega
  have hn2 : ¬ 9223372036854775807 < T.size + T.size := by omega
  have cv1 := fun W => conv_one W cc HCC.out
  have cv2 := fun W => conv_one' W cc HCC.out
  obtain ⟨P1, ex1⟩ : ∃ P, T.extract 0 K = P := ⟨_, rfl⟩
  obtain ⟨P2, ex2⟩ : ∃ P, T.extract (K + 1) N = P := ⟨_, rfl⟩
  obtain ⟨C1, ex3⟩ : ∃ P, strOf [cc] = P := ⟨_, rfl⟩
  have z1 : P1.size ≤ 5000 := by rw [← ex1]; simp [ByteArray.size_extract]; omega
  have z2 : P2.size ≤ 5000 := by rw [← ex2]; simp [ByteArray.size_extract]; omega
  have z3 : C1.size = 1 := by rw [← ex3]; exact strOf_size [cc]
  rw [ex3] at cv1 cv2
  have hn3 : ¬ 9223372036854775807 < P1.size + C1.size := by omega
  have hn4 : ¬ 9223372036854775807 < P1.size + C1.size + P2.size := by omega
  have hn5 : ¬ 9223372036854775807 < (P1 ++ C1).size + P2.size := by rw [ByteArray.size_append]; omega
  have hn6 : ¬ 9223372036854775807 < P1.size + 1 := by omega
  have hn7 : ¬ 9223372036854775807 < P1.size + 1 + P2.size := by omega
  have Z0 := Lib.hid (short_le s 30 HSS.out)
  have Z1 := Lib.hid (show T.size ≤ maxLen from by unfold maxLen; omega)
  have Z2 := Lib.hid (show (P1 ++ C1 ++ P2).size ≤ maxLen from by rw [ByteArray.size_append, ByteArray.size_append]; unfold maxLen; omega)
  have Z3 := Lib.hid (show P1.size ≤ maxLen from by unfold maxLen; omega)
  have Z4 := Lib.hid (show (T ++ T).size ≤ maxLen from by rw [ByteArray.size_append]; unfold maxLen; omega)
  clear ex3
  go_upto_region 3 with (fail)
  skip
  have KP := Lib.hid (show ∀ W, Below w2.heap.size w2 W → Below w2.heap.size w2 W from fun W hb => hb)
  go_cut [11] (fun p wx => ∃ g1 : Nat, p = .slice (some ⟨g1, 0, none⟩) 5 5 ∧ Hid (ArrS wx g1) ∧ Hid (Below w2.heap.size w2 wx))
  case first =>
    have AR := ArrS.new (w2.alloc (.cells #[.int .u8 cc] 5)) 9 (shortB s 30) T (P1 ++ C1 ++ P2) P1 (T ++ T) Z0.out Z1.out Z2.out Z3.out Z4.out
    rw [World.size_alloc] at AR
    have HAR := Lib.hid AR
    have HBB := Lib.hid (show Below w2.heap.size w2 ((w2.alloc (.cells #[.int .u8 cc] 5)).alloc (.cells #[.string (shortB s 30), .string T, .string (P1 ++ C1 ++ P2), .string P1, .string (T ++ T)] 9)) from bal (bal (Below.refl _ _) _) _)
    clear AR
    go_region_with (first
      | (go_at_call 15
         refine (short30 s _ HSS.out).mono ?_
         rintro e w' ⟨rfl, rfl⟩))
    all_goals (go_wp2_with fail; go_meet; case rel => first | exact ⟨_, rfl, HAR, HBB⟩ | exact ⟨_, rfl, Lib.hid HAR.out, Lib.hid (below_drew HBB.out)⟩)
  case rest =>
    obtain ⟨g1, rfl, HR, HBW⟩ := hcut
    replace HB := Lib.hid (bstep HB.out HBW.out)
    clear HBW KP Z0 Z1 Z2 Z3 Z4 HSS HCC cv1 cv2 hn1 hn2 hn3 hn4 hn5 hn6 hn7 ex1 ex2 z1 z2 z3 e1 e2 e3 e4 e5 e6 e7
    go_wp2_with fail
    go_loopg [12] 5 (fun gk iv wr => ∃ i : Nat, gk + i = 5 ∧ iv = .int .i64 i ∧ Hid (ArrS wr g1) ∧ Hid (Below w.heap.size w wr))
    case atStart => exact ⟨0, by omega, rfl, HR, HB⟩
    case round =>
      clear HB HR
      obtain ⟨i, hgi, rfl, HR, HB⟩ := hrel
      by_cases hlt : (i : Int) < 5
      · obtain ⟨s1, hs1, hs2⟩ := HR.out.2 i (by omega)
        have hip : (0 : Int) ≤ (i : Int) := Int.natCast_nonneg _
        have ew : IntKind.i64.wrap ((i : Int) + 1) = (i : Int) + 1 := IntWalk.i64_in _ (by omega)
        obtain ⟨z, er, hpz⟩ : ∃ z er, parseT s1.data.toList = (z, er) := ⟨_, _, rfl⟩
        have HPZ := Lib.hid hpz
        have ZL := Lib.hid (parse_lt hpz)
        have HS1 := Lib.hid hs1
        have HS2 := Lib.hid hs2
        have HG := Lib.hid HR.out.1
        clear hpz hs2
        obtain ⟨E, hE⟩ : ∃ E : Int, (er : Int) = E := ⟨_, rfl⟩
        have HEE := Lib.hid hE
        clear hE
        go_wp2_with fail
        have HPI := iparse_as s1 _ rfl wr z er HPZ.out
        rw [HEE.out] at HPI
        refine HPI.mono ?_
        clear HPI
        skip
        rintro e w3 ⟨v, rfl, h, b⟩
        obtain ⟨d3, A3, n3, c3, rfl⟩ := h.shape
        clear hs1
        replace HR := Lib.hid (HR.out.below b)
        replace HB := Lib.hid (bstep HB.out b)
        have BW := Lib.hid (bstep b (al_below w3 (.cells #[.bool d3, .slice A3 n3 c3] 34)))
        have hs1 := cell_below HS1.out BW.out
        have h2 := HoldI.new h
        replace HR := Lib.hid (HR.out.below (al_below w3 (.cells #[.bool d3, .slice A3 n3 c3] 34)))
        replace HB := Lib.hid (bstep HB.out (al_below w3 (.cells #[.bool d3, .slice A3 n3 c3] 34)))
        have HX := Lib.hid h2
        clear h h2 b
        go_wp2_with fail
        have HPI := rparse_as s1 (w3.alloc (.cells #[.bool d3, .slice A3 n3 c3] 34)) HS2.out z er HPZ.out
        rw [HEE.out] at HPI
        refine HPI.mono ?_
        clear HPI
        skip
        rintro e w4 ⟨v, rfl, h, b⟩
        obtain ⟨d4, A4, n4, c4, rfl⟩ := h.shape
        clear hs1
        replace HR := Lib.hid (HR.out.below b)
        replace HB := Lib.hid (bstep HB.out b)
        replace HX := Lib.hid (HX.out.below b)
        replace BW := Lib.hid (bstep BW.out (bstep b (al_below w4 (.cells #[.bool d4, .slice A4 n4 c4] 25))))
        have HY := Lib.hid (HoldN.new h)
        replace HR := Lib.hid (HR.out.below (al_below w4 (.cells #[.bool d4, .slice A4 n4 c4] 25)))
        replace HX := Lib.hid (HX.out.below (al_below w4 (.cells #[.bool d4, .slice A4 n4 c4] 25)))
        replace HB := Lib.hid (bstep HB.out (al_below w4 (.cells #[.bool d4, .slice A4 n4 c4] 25)))
        clear h b
        obtain ⟨W9, hW⟩ : ∃ W, W = (w4.alloc (.cells #[.bool d4, .slice A4 n4 c4] 25)) := ⟨_, rfl⟩
        have HW := Lib.hid hW
        have HC9 := Lib.hid (cell_below HS1.out BW.out)
        rw [← hW] at HC9 HR HX HY HB
        clear hW BW HS1
        go_upto_region 9 with (fail)
        rw [← HW.out]
        clear HW
        have KP := Lib.hid (show ∀ W, Below W9.heap.size W9 W → W.cell? ⟨w3.heap.size, 0, none⟩ = some (.bool d3) ∧ W.cell? ⟨w3.heap.size, 1, none⟩ = some (.slice A3 n3 c3) ∧ W.cell? ⟨w4.heap.size, 0, none⟩ = some (.bool d4) ∧ W.cell? ⟨w4.heap.size, 1, none⟩ = some (.slice A4 n4 c4) ∧ W.cell? ⟨g1, i, none⟩ = some (.string s1) ∧ Below W9.heap.size W9 W from fun W hb => ⟨cell_below (HX.out.c0) hb, cell_below (HX.out.c1) hb, cell_below (HY.out.c0) hb, cell_below (HY.out.c1) hb, cell_below (HC9.out) hb, hb⟩)
        by_cases her : E = 0
        · subst her
          obtain rfl : er = 0 := by have h := HEE.out; omega
          have HST := Lib.hid (parse_text HPZ.out)
          go_region_held3 (fun w' => w'.cell? ⟨w3.heap.size, 0, none⟩ = some (.bool d3) ∧ w'.cell? ⟨w3.heap.size, 1, none⟩ = some (.slice A3 n3 c3) ∧ w'.cell? ⟨w4.heap.size, 0, none⟩ = some (.bool d4) ∧ w'.cell? ⟨w4.heap.size, 1, none⟩ = some (.slice A4 n4 c4) ∧ w'.cell? ⟨g1, i, none⟩ = some (.string s1) ∧ Below W9.heap.size W9 w')
            (first | with_reducible exact KP.out _ (Below.refl _ _) | with_reducible exact KP.out _ (below_drew (Below.refl _ _)) | with_reducible exact KP.out _ ((by first | assumption | exact And.right (And.right (And.right (And.right (And.right (by assumption))))))) | with_reducible exact KP.out _ (below_drew (by first | assumption | exact And.right (And.right (And.right (And.right (And.right (by assumption))))))) | with_reducible exact KP.out _ (bal (by first | assumption | exact And.right (And.right (And.right (And.right (And.right (by assumption)))))) _) | with_reducible exact KP.out _ (bal (Below.refl _ _) _) | with_reducible exact KP.out _ (below_drew (bal (Below.refl _ _) _)) | with_reducible exact KP.out _ (bal (bal (Below.refl _ _) _) _) | with_reducible exact KP.out _ (below_drew (bal (bal (Below.refl _ _) _) _)) | with_reducible exact KP.out _ (below_drew (below_drew (bal (bal (Below.refl _ _) _) _))) | with_reducible exact KP.out _ (below_off (by first | assumption | exact And.right (And.right (And.right (And.right (And.right (by assumption)))))) (by omega)))
            (first
              | (go_at_call 18
                 refine (equal_any z z _ _ _ (HX.out.2.step (by first | assumption | exact And.right (And.right (And.right (And.right (And.right (by assumption))))))) ZL.out (HY.out.2.step (by first | assumption | exact And.right (And.right (And.right (And.right (And.right (by assumption))))))) (fit_bits ZL.out)).mono ?_
                 rintro e wq ⟨he, bq⟩
                 rw [decide_eq_true rfl] at he
                 subst he
                 have hbq : Below W9.heap.size W9 wq := bstep (by first | assumption | exact And.right (And.right (And.right (And.right (And.right (by assumption)))))) bq)
              | (go_at_call 19
                 refine (istring_as z _ _ (HX.out.2.step (by first | assumption | exact And.right (And.right (And.right (And.right (And.right (by assumption))))))) ZL.out s1 HST.out).mono ?_
                 rintro e wq2 ⟨rfl, bq2⟩
                 have hbq2 : Below W9.heap.size W9 wq2 := bstep (by first | assumption | exact And.right (And.right (And.right (And.right (And.right (by assumption)))))) bq2))
          replace HR := Lib.hid (HR.out.below hbq2)
          replace HB := Lib.hid (bstep HB.out hbq2)
          clear HX HY HC9 KP ZL HPZ
          go_wp2_with fail
          go_roundg (gk - 1)
          case measure => omega
          case rel => exact ⟨i + 1, by omega, by go_num, HR, HB⟩
        · have her1 : (E == 0) = false := by simp [her]
          have her2 : decide (E = 0) = false := by simp [her]
          refine wp_region_noPanic ?_
          refine wp_region_held_drew (S := (fun w' => w'.cell? ⟨w3.heap.size, 0, none⟩ = some (.bool d3) ∧ w'.cell? ⟨w3.heap.size, 1, none⟩ = some (.slice A3 n3 c3) ∧ w'.cell? ⟨w4.heap.size, 0, none⟩ = some (.bool d4) ∧ w'.cell? ⟨w4.heap.size, 1, none⟩ = some (.slice A4 n4 c4) ∧ w'.cell? ⟨g1, i, none⟩ = some (.string s1) ∧ Below W9.heap.size W9 w')) (by kernel_rfl) (KP.out _ (below_drew (Below.refl _ _))) (fun hHeld => ?_)
          refine' wpAnyH_take (i := 0) (oi := { dst := some 68, op := Op.move (Operand.tmp 14), type := 35, pos := "law.go:39", after := #[], guard := none }) (v := _) rfl (by kernel_rfl) (by kernel_rfl) (by kernel_rfl) (fun _ _ _ h => h) (Or.inl ⟨by rfl, ?hy0⟩) (by assumption) ?rest0
          case hy0 =>
            intro w hSw
            try dsimp only at hSw
            go_simp
            try with_reducible rfl
          try simp only [Act.put, List.setIfInBounds_toArray, List.set_cons_zero, List.set_cons_succ]
          refine' wpAnyH_take (i := 1) (oi := { dst := some 69, op := Op.move (Operand.tmp 16), type := 35, pos := "law.go:39", after := #[], guard := none }) (v := _) rfl (by kernel_rfl) (by kernel_rfl) (by kernel_rfl) (fun _ _ _ h => h) (Or.inl ⟨by rfl, ?hy1⟩) (by assumption) ?rest1
          case hy1 =>
            intro w hSw
            try dsimp only at hSw
            go_simp
            try with_reducible rfl
          try simp only [Act.put, List.setIfInBounds_toArray, List.set_cons_zero, List.set_cons_succ]
          refine' wpAnyH_take (i := 2) (oi := { dst := some 70, op := Op.binOp BinOp.neq 35 (Operand.tmp 68) (Operand.tmp 69) 35, type := 4, pos := "law.go:39", after := #[{ on := 0, ground := Ground.data }, { on := 1, ground := Ground.data }], guard := none }) (v := _) rfl (by kernel_rfl) (by kernel_rfl) (by kernel_rfl) (fun _ _ _ h => h) (Or.inl ⟨by rfl, ?hy2⟩) (by assumption) ?rest2
          case hy2 =>
            intro w hSw
            try dsimp only at hSw
            go_simp
            try with_reducible rfl
          try simp only [Act.put, List.setIfInBounds_toArray, List.set_cons_zero, List.set_cons_succ]
          refine' wpAnyH_take (i := 3) (oi := { dst := some 71, op := Op.move (Operand.tmp 70), type := 4, pos := "law.go:39", after := #[{ on := 2, ground := Ground.data }], guard := none }) (v := _) rfl (by kernel_rfl) (by kernel_rfl) (by kernel_rfl) (fun _ _ _ h => h) (Or.inl ⟨by rfl, ?hy3⟩) (by assumption) ?rest3
          case hy3 =>
            intro w hSw
            try dsimp only at hSw
            go_simp
            try with_reducible rfl
          try simp only [Act.put, List.setIfInBounds_toArray, List.set_cons_zero, List.set_cons_succ]
          refine' wpAnyH_take (i := 4) (oi := { dst := some 72, op := Op.load 34 (Operand.tmp 13), type := 34, pos := "law.go:39", after := #[{ on := 3, ground := Ground.guard }], guard := some (3, false) }) (v := _) rfl (by kernel_rfl) (by kernel_rfl) (by kernel_rfl) (fun _ _ _ h => h) (Or.inl ⟨by rfl, ?hy4⟩) (by assumption) ?rest4
          case hy4 =>
            intro w hSw
            try dsimp only at hSw
            go_simp
            try with_reducible rfl
          try simp only [Act.put, List.setIfInBounds_toArray, List.set_cons_zero, List.set_cons_succ]
          refine' wpAnyH_take (i := 5) (oi := { dst := some 73, op := Op.load 25 (Operand.tmp 15), type := 25, pos := "law.go:39", after := #[{ on := 3, ground := Ground.guard }], guard := some (3, false) }) (v := _) rfl (by kernel_rfl) (by kernel_rfl) (by kernel_rfl) (fun _ _ _ h => h) (Or.inl ⟨by rfl, ?hy5⟩) (by assumption) ?rest5
          case hy5 =>
            intro w hSw
            try dsimp only at hSw
            go_simp
            try with_reducible rfl
          try simp only [Act.put, List.setIfInBounds_toArray, List.set_cons_zero, List.set_cons_succ]
          refine wpAnyH_ready (rs := [6]) (by kernel_rfl) (by simp) ?_
          refine AllReadyH.cons (o := { dst := some 74, op := Op.call { callee := Callee.value (Operand.func 18), args := #[Operand.tmp 72, Operand.tmp 73], argTypes := #[34, 25] }, type := 4, pos := "law.go:39", after := #[{ on := 4, ground := Ground.data }, { on := 5, ground := Ground.data }, { on := 3, ground := Ground.chain }, { on := 3, ground := Ground.guard }], guard := some (3, false) }) rfl (fun K hK => ?_) AllReadyH.nil
          go_simp
          go_at_call 18
          refine (equal_any z z _ _ _ (HX.out.2.step (by first | assumption | exact And.right (And.right (And.right (And.right (And.right (by assumption))))))) ZL.out (HY.out.2.step (by first | assumption | exact And.right (And.right (And.right (And.right (And.right (by assumption))))))) (fit_bits ZL.out)).mono ?_
          rintro e wq ⟨he, bq⟩
          rw [decide_eq_true rfl] at he
          subst he
          have hbq : Below W9.heap.size W9 wq := bstep (by first | assumption | exact And.right (And.right (And.right (And.right (And.right (by assumption)))))) bq
          go_wp2_with fail
          refine hK.out _ _ ?_ (fun hHeld => ?_)
          · (first | with_reducible exact KP.out _ (Below.refl _ _) | with_reducible exact KP.out _ (below_drew (Below.refl _ _)) | with_reducible exact KP.out _ ((by first | assumption | exact And.right (And.right (And.right (And.right (And.right (by assumption))))))) | with_reducible exact KP.out _ (below_drew (by first | assumption | exact And.right (And.right (And.right (And.right (And.right (by assumption))))))) | with_reducible exact KP.out _ (bal (by first | assumption | exact And.right (And.right (And.right (And.right (And.right (by assumption)))))) _) | with_reducible exact KP.out _ (bal (Below.refl _ _) _) | with_reducible exact KP.out _ (below_drew (bal (Below.refl _ _) _)) | with_reducible exact KP.out _ (bal (bal (Below.refl _ _) _) _) | with_reducible exact KP.out _ (below_drew (bal (bal (Below.refl _ _) _) _)) | with_reducible exact KP.out _ (below_drew (below_drew (bal (bal (Below.refl _ _) _) _))) | with_reducible exact KP.out _ (below_off (by first | assumption | exact And.right (And.right (And.right (And.right (And.right (by assumption)))))) (by omega)))
          clear hK K
          try simp only [Act.put, List.setIfInBounds_toArray, List.set_cons_zero, List.set_cons_succ]
          refine' wpAnyH_take (i := 7) (oi := { dst := some 75, op := Op.unOp UnOp.not 4 (Operand.tmp 74), type := 4, pos := "law.go:39", after := #[{ on := 6, ground := Ground.data }, { on := 3, ground := Ground.guard }], guard := some (3, false) }) (v := _) rfl (by kernel_rfl) (by kernel_rfl) (by kernel_rfl) (fun _ _ _ h => h) (Or.inl ⟨by rfl, ?hy7⟩) (by assumption) ?rest7
          case hy7 =>
            intro w hSw
            try dsimp only at hSw
            go_simp
            try with_reducible rfl
          try simp only [Act.put, List.setIfInBounds_toArray, List.set_cons_zero, List.set_cons_succ]
          refine' wpAnyH_take (i := 8) (oi := { dst := some 76, op := Op.pick (Operand.tmp 71) (Operand.const (Value.bool true)) (Operand.tmp 75), type := 4, pos := "law.go:39", after := #[{ on := 3, ground := Ground.data }, { on := 7, ground := Ground.data }], guard := none }) (v := _) rfl (by kernel_rfl) (by kernel_rfl) (by kernel_rfl) (fun _ _ _ h => h) (Or.inl ⟨by rfl, ?hy8⟩) (by assumption) ?rest8
          case hy8 =>
            intro w hSw
            try dsimp only at hSw
            go_simp
            try with_reducible rfl
          try simp only [Act.put, List.setIfInBounds_toArray, List.set_cons_zero, List.set_cons_succ]
          refine' wpAnyH_take (i := 9) (oi := { dst := some 77, op := Op.move (Operand.tmp 76), type := 4, pos := "law.go:39", after := #[{ on := 8, ground := Ground.data }, { on := 6, ground := Ground.chain }], guard := none }) (v := _) rfl (by kernel_rfl) (by kernel_rfl) (by kernel_rfl) (fun _ _ _ h => h) (Or.inl ⟨by rfl, ?hy9⟩) (by assumption) ?rest9
          case hy9 =>
            intro w hSw
            try dsimp only at hSw
            go_simp
            try with_reducible rfl
          try simp only [Act.put, List.setIfInBounds_toArray, List.set_cons_zero, List.set_cons_succ]
          refine' wpAnyH_take (i := 10) (oi := { dst := some 78, op := Op.move (Operand.tmp 14), type := 35, pos := "law.go:39", after := #[{ on := 9, ground := Ground.guard }], guard := some (9, false) }) (v := _) rfl (by kernel_rfl) (by kernel_rfl) (by kernel_rfl) (fun _ _ _ h => h) (Or.inl ⟨by rfl, ?hy10⟩) (by assumption) ?rest10
          case hy10 =>
            intro w hSw
            try dsimp only at hSw
            go_simp
            try with_reducible rfl
          try simp only [Act.put, List.setIfInBounds_toArray, List.set_cons_zero, List.set_cons_succ]
          refine' wpAnyH_take (i := 11) (oi := { dst := some 79, op := Op.binOp BinOp.eql 35 (Operand.tmp 78) (Operand.const (Value.int IntKind.i64 0)) 35, type := 4, pos := "law.go:39", after := #[{ on := 10, ground := Ground.data }, { on := 9, ground := Ground.guard }], guard := some (9, false) }) (v := _) rfl (by kernel_rfl) (by kernel_rfl) (by kernel_rfl) (fun _ _ _ h => h) (Or.inl ⟨by rfl, ?hy11⟩) (by assumption) ?rest11
          case hy11 =>
            intro w hSw
            try dsimp only at hSw
            go_simp
            try with_reducible rfl
          try simp only [Act.put, List.setIfInBounds_toArray, List.set_cons_zero, List.set_cons_succ]
          refine' wpAnyH_take (i := 12) (oi := { dst := some 80, op := Op.move (Operand.tmp 79), type := 4, pos := "law.go:39", after := #[{ on := 11, ground := Ground.data }, { on := 9, ground := Ground.chain }, { on := 9, ground := Ground.guard }], guard := some (9, false) }) (v := _) rfl (by kernel_rfl) (by kernel_rfl) (by kernel_rfl) (fun _ _ _ h => h) (Or.inl ⟨by rfl, ?hy12⟩) (by assumption) ?rest12
          case hy12 =>
            intro w hSw
            try dsimp only at hSw
            go_simp
            try with_reducible rfl
          try simp only [Act.put, List.setIfInBounds_toArray, List.set_cons_zero, List.set_cons_succ]
          refine wpAnyH_take (i := 13) (oi := { dst := some 81, op := Op.load 34 (Operand.tmp 13), type := 34, pos := "law.go:39", after := #[{ on := 12, ground := Ground.guard }], guard := some (12, true) }) (v := undef) rfl (by kernel_rfl) (by kernel_rfl) (by kernel_rfl) (fun _ _ _ h => h) (Or.inr ⟨by rfl, rfl⟩) (by assumption) ?_
          try simp only [Act.put, List.setIfInBounds_toArray, List.set_cons_zero, List.set_cons_succ]
          refine wpAnyH_take (i := 14) (oi := { dst := some 82, op := Op.call { callee := Callee.value (Operand.func 19), args := #[Operand.tmp 81], argTypes := #[34] }, type := 9, pos := "law.go:39", after := #[{ on := 13, ground := Ground.data }, { on := 12, ground := Ground.chain }, { on := 12, ground := Ground.guard }], guard := some (12, true) }) (v := undef) rfl (by kernel_rfl) (by kernel_rfl) (by kernel_rfl) (fun _ _ _ h => h) (Or.inr ⟨by rfl, rfl⟩) (by assumption) ?_
          try simp only [Act.put, List.setIfInBounds_toArray, List.set_cons_zero, List.set_cons_succ]
          refine wpAnyH_take (i := 15) (oi := { dst := some 83, op := Op.move (Operand.tmp 11), type := 30, pos := "law.go:39", after := #[{ on := 12, ground := Ground.guard }], guard := some (12, true) }) (v := undef) rfl (by kernel_rfl) (by kernel_rfl) (by kernel_rfl) (fun _ _ _ h => h) (Or.inr ⟨by rfl, rfl⟩) (by assumption) ?_
          try simp only [Act.put, List.setIfInBounds_toArray, List.set_cons_zero, List.set_cons_succ]
          refine wpAnyH_take (i := 16) (oi := { dst := some 84, op := Op.move (Operand.tmp 12), type := 3, pos := "law.go:39", after := #[{ on := 12, ground := Ground.guard }], guard := some (12, true) }) (v := undef) rfl (by kernel_rfl) (by kernel_rfl) (by kernel_rfl) (fun _ _ _ h => h) (Or.inr ⟨by rfl, rfl⟩) (by assumption) ?_
          try simp only [Act.put, List.setIfInBounds_toArray, List.set_cons_zero, List.set_cons_succ]
          refine wpAnyH_take (i := 17) (oi := { dst := some 85, op := Op.indexAddr 30 (Operand.tmp 83) (Operand.tmp 84), type := 0, pos := "law.go:39", after := #[{ on := 15, ground := Ground.data }, { on := 16, ground := Ground.data }, { on := 12, ground := Ground.guard }], guard := some (12, true) }) (v := undef) rfl (by kernel_rfl) (by kernel_rfl) (by kernel_rfl) (fun _ _ _ h => h) (Or.inr ⟨by rfl, rfl⟩) (by assumption) ?_
          try simp only [Act.put, List.setIfInBounds_toArray, List.set_cons_zero, List.set_cons_succ]
          refine wpAnyH_take (i := 18) (oi := { dst := some 86, op := Op.load 9 (Operand.tmp 85), type := 9, pos := "law.go:39", after := #[{ on := 17, ground := Ground.data }, { on := 12, ground := Ground.guard }], guard := some (12, true) }) (v := undef) rfl (by kernel_rfl) (by kernel_rfl) (by kernel_rfl) (fun _ _ _ h => h) (Or.inr ⟨by rfl, rfl⟩) (by assumption) ?_
          try simp only [Act.put, List.setIfInBounds_toArray, List.set_cons_zero, List.set_cons_succ]
          refine wpAnyH_take (i := 19) (oi := { dst := some 87, op := Op.binOp BinOp.neq 9 (Operand.tmp 82) (Operand.tmp 86) 9, type := 4, pos := "law.go:39", after := #[{ on := 14, ground := Ground.data }, { on := 18, ground := Ground.data }, { on := 12, ground := Ground.guard }], guard := some (12, true) }) (v := undef) rfl (by kernel_rfl) (by kernel_rfl) (by kernel_rfl) (fun _ _ _ h => h) (Or.inr ⟨by rfl, rfl⟩) (by assumption) ?_
          try simp only [Act.put, List.setIfInBounds_toArray, List.set_cons_zero, List.set_cons_succ]
          refine' wpAnyH_take (i := 20) (oi := { dst := some 88, op := Op.pick (Operand.tmp 80) (Operand.tmp 87) (Operand.const (Value.bool false)), type := 4, pos := "law.go:39", after := #[{ on := 12, ground := Ground.data }, { on := 19, ground := Ground.data }, { on := 9, ground := Ground.guard }], guard := some (9, false) }) (v := _) rfl (by kernel_rfl) (by kernel_rfl) (by kernel_rfl) (fun _ _ _ h => h) (Or.inl ⟨by rfl, ?hy20⟩) (by assumption) ?rest20
          case hy20 =>
            intro w hSw
            try dsimp only at hSw
            go_simp
            try with_reducible rfl
          try simp only [Act.put, List.setIfInBounds_toArray, List.set_cons_zero, List.set_cons_succ]
          refine' wpAnyH_take (i := 21) (oi := { dst := some 89, op := Op.pick (Operand.tmp 77) (Operand.const (Value.bool true)) (Operand.tmp 88), type := 4, pos := "law.go:39", after := #[{ on := 9, ground := Ground.data }, { on := 20, ground := Ground.data }], guard := none }) (v := _) rfl (by kernel_rfl) (by kernel_rfl) (by kernel_rfl) (fun _ _ _ h => h) (Or.inl ⟨by rfl, ?hy21⟩) (by assumption) ?rest21
          case hy21 =>
            intro w hSw
            try dsimp only at hSw
            go_simp
            try with_reducible rfl
          try simp only [Act.put, List.setIfInBounds_toArray, List.set_cons_zero, List.set_cons_succ]
          refine wpAnyH_done (by kernel_rfl) ?_ _
          refine NoPanic.normal ?_
          replace HR := Lib.hid (HR.out.below hbq)
          replace HB := Lib.hid (bstep HB.out hbq)
          clear HX HY HC9 KP ZL HPZ
          go_wp2_with fail
          go_roundg (gk - 1)
          case measure => omega
          case rel => exact ⟨i + 1, by omega, by go_num, HR, HB⟩
      · clear HR
        go_wp2_with fail
        refine (lives_any _).mono ?_
        rintro e w5 ⟨rfl, b⟩
        replace HB := Lib.hid (bstep HB.out b)
        clear b
        go_wp2_with fail
        go_ret
        exact ⟨rfl, HB.out⟩
end Go.Proofs.YtpilpceclmppgaaDoor
