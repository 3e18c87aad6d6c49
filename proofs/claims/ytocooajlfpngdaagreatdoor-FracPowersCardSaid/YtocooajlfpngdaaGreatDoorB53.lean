/- Layer 4's laws: FracPowers. -/
import Derived.Deep.LoopGhost
import Derived.Test.YtocooajlfpngdaaGreatDoorB52
import Derived.Test.YtocooajlfpngdaaGreatDoorB44
namespace Go.Proofs.YtocooajlfpngdaaGreatDoor
open Go.RowKit
set_option linter.unusedVariables false

theorem rpow_add (a : Rat) (m n : Nat) : a ^ (m + n) = a ^ m * a ^ n := by
  induction n with
  | zero => rw [Nat.add_zero, Rat.pow_zero, Rat.mul_one]
  | succ n ih => rw [← Nat.add_assoc, Rat.pow_succ, ih, Rat.pow_succ, Rat.mul_assoc]
theorem powQ_bd (a : Rat) (n : Int) : InF (powQ a n) := by
  unfold powQ
  split
  · exact in_zero
  · exact fitQ_bd _
theorem powR_ok {a : Rat} {n : Int} (h0 : ¬ n < 0) (h : powR a n = 0) : InF (a ^ n.toNat) ∧ powQ a n = a ^ n.toNat := by
  unfold powR powQ at *
  rw [if_neg h0] at h ⊢
  by_cases h1 : InF (a ^ n.toNat)
  · exact ⟨h1, (fitQ_in h1).1⟩
  · rw [(fitQ_out h1).2] at h
    cases h
theorem pow_sum {a : Rat} {i k : Int} (hi : ¬ i < 0) (hk : ¬ k < 0) (ei : powR a i = 0) (ek : powR a k = 0) (es : powR a (i + k) = 0) : powQ a i * powQ a k = powQ a (i + k) := by
  rw [(powR_ok hi ei).2, (powR_ok hk ek).2, (powR_ok (by omega) es).2, show (i + k).toNat = i.toNat + k.toNat by omega]
  exact (rpow_add a i.toNat k.toNat).symm
theorem one_bd {u : Int} (h0 : -1 ≤ u) (h1 : u ≤ 2) : InF (u : Rat) := by
  have h := quo_in (p := u) (q := 1) (bits_lt (Bits.i64 (by omega) (by omega)) (by omega)) (bits_lt (Bits.i64 (by omega) (by omega)) (by omega))
  rwa [divInt_one] at h
set_option maxRecDepth 100000 in
set_option maxHeartbeats 8000000 in
theorem fracPowers_law (m n : Int) (A0 : Option Addr) (n0 c0 : Nat) (zs : List Int) (w : World) (hI : InI w A0 n0 zs) (hn : n0 ≤ 9223372036854775807) (hm : -9223372036854775808 ≤ m ∧ m ≤ 9223372036854775807) (hn' : -9223372036854775808 ≤ n ∧ n ≤ 9223372036854775807) :
    Calls Tryz.prog 6 #[.slice A0 n0 c0, .int .i64 m, .int .i64 n] w (fun e w' => e = .returned (.bool true) ∧ Below w.heap.size w w') := by
  obtain ⟨n1, n2⟩ := hn'
  have HI := Lib.hid hI
  clear hI hm
  obtain ⟨i, hi⟩ : ∃ t, t = m.tmod 41 := ⟨_, rfl⟩
  have ei : m.tmod 41 = i := hi.symm
  have bi : -41 < i ∧ i < 41 := hi ▸ ⟨Int.lt_tmod_of_pos m (by omega), Int.tmod_lt_of_pos m (by omega)⟩
  clear hi
  obtain ⟨k, hk⟩ : ∃ t, t = n.tmod 41 := ⟨_, rfl⟩
  have ek : n.tmod 41 = k := hk.symm
  have bk : -41 < k ∧ k < 41 := hk ▸ ⟨Int.lt_tmod_of_pos n (by omega), Int.tmod_lt_of_pos n (by omega)⟩
  clear hk
  have eik : IntKind.i64.wrap (i + k) = i + k := IntWalk.i64_in _ (by omega)
  have fik : wrap64 (i + k) = i + k := IntWalk.wrap64_in _ (by omega)
  have HB := Lib.hid (Below.refl w.heap.size w)
  go_enter Tryz.func6, Tryz.ntmps6
  go_wp2_with fail
  refine (gfrac_any A0 n0 c0 0 zs _ HI.out hn (by omega) (by omega)).mono ?_
  rintro e w51 ⟨x51, hx, v, rfl, h, b⟩
  obtain ⟨d51, A51, n51, c51, e51, E51, m51, f51, rfl⟩ := h.shape
  have z51 := b.size
  replace z51 := Lib.hid z51
  replace HI := Lib.hid (HI.out.below b)
  replace HB := Lib.hid (bstep HB.out b)
  have V51 := Lib.hid h
  have S51 := Lib.hid (fr_sz hx)
  clear h b hx
  have h := HoldG.new V51.out
  have b := al_below w51 (.cells #[.bool d51, .slice A51 n51 c51, .bool e51, .slice E51 m51 f51] 42)
  replace HI := Lib.hid (HI.out.below b)
  replace HB := Lib.hid (bstep HB.out b)
  clear b
  have H51 := Lib.hid h
  clear h V51
  clear HI
  have IA := Lib.hid (S51.out.inF (by omega))
  clear S51
  obtain ⟨x, hx⟩ : ∃ x, x51 = x := ⟨_, rfl⟩
  rw [hx] at H51 IA
  clear hx hn
  have gH510 := H51.out.c0
  have gH511 := H51.out.c1
  have gH512 := H51.out.c2
  have gH513 := H51.out.c3
  go_wp2_with fail
  refine (of_law x _ _ H51.out.2 IA.out).mono ?_
  rintro e w52 ⟨v, rfl, h, b⟩
  obtain ⟨d52, A52, n52, c52, e52, E52, m52, f52, rfl⟩ := h.shape
  clear gH510 gH511 gH512 gH513
  have z52 := b.size
  simp only [World.size_alloc] at z52
  replace z52 := Lib.hid z52
  replace HB := Lib.hid (bstep HB.out b)
  replace H51 := Lib.hid (H51.out.below b)
  have V52 := Lib.hid h
  clear h b
  go_wp2_with fail
  refine (fpow_any x _ _ V52.out IA.out i (by omega)).mono ?_
  rintro e w53 ⟨v, rfl, h, b⟩
  obtain ⟨d53, A53, n53, c53, e53, E53, m53, f53, rfl⟩ := h.shape
  have z53 := b.size
  replace z53 := Lib.hid z53
  replace HB := Lib.hid (bstep HB.out b)
  replace H51 := Lib.hid (H51.out.below b)
  replace V52 := Lib.hid (V52.out.step b)
  have V53 := Lib.hid h
  clear h b
  clear V52
  have h := HoldQ.new V53.out
  have b := al_below w53 (.cells #[.bool d53, .slice A53 n53 c53, .bool e53, .slice E53 m53 f53] 36)
  replace HB := Lib.hid (bstep HB.out b)
  replace H51 := Lib.hid (H51.out.below b)
  clear b
  have H53 := Lib.hid h
  clear h V53
  have gH510 := H51.out.c0
  have gH511 := H51.out.c1
  have gH512 := H51.out.c2
  have gH513 := H51.out.c3
  go_wp2_with fail
  refine (gpow_any x _ _ H51.out.2 IA.out i (by omega)).mono ?_
  rintro e w54 ⟨v, rfl, h, b⟩
  obtain ⟨d54, A54, n54, c54, e54, E54, m54, f54, rfl⟩ := h.shape
  clear gH510 gH511 gH512 gH513
  have z54 := b.size
  simp only [World.size_alloc] at z54
  replace z54 := Lib.hid z54
  replace HB := Lib.hid (bstep HB.out b)
  replace H51 := Lib.hid (H51.out.below b)
  replace H53 := Lib.hid (H53.out.below b)
  have V54 := Lib.hid h
  clear h b
  have h := HoldG.new V54.out
  have b := al_below w54 (.cells #[.bool d54, .slice A54 n54 c54, .bool e54, .slice E54 m54 f54] 42)
  replace HB := Lib.hid (bstep HB.out b)
  replace H51 := Lib.hid (H51.out.below b)
  replace H53 := Lib.hid (H53.out.below b)
  clear b
  have H54 := Lib.hid h
  clear h V54
  obtain ⟨E, hE⟩ : ∃ E, powR x i = E := ⟨_, rfl⟩
  rw [hE]
  have HE := Lib.hid hE
  clear hE
  have gH530 := H53.out.c0
  have gH531 := H53.out.c1
  have gH532 := H53.out.c2
  have gH533 := H53.out.c3
  have gH540 := H54.out.c0
  have gH541 := H54.out.c1
  have gH542 := H54.out.c2
  have gH543 := H54.out.c3
  go_wp2_with fail
  refine (same_law _ _ _ _ H53.out.2 H54.out.2 (powQ_bd _ _)).mono ?_
  rintro e w55 ⟨rfl, b⟩
  clear gH530 gH531 gH532 gH533 gH540 gH541 gH542 gH543
  have z55 := b.size
  simp only [World.size_alloc] at z55
  replace z55 := Lib.hid z55
  replace HB := Lib.hid (bstep HB.out b)
  replace H51 := Lib.hid (H51.out.below b)
  replace H53 := Lib.hid (H53.out.below b)
  replace H54 := Lib.hid (H54.out.below b)
  clear b
  clear H54
  go_wp2_with fail
  clear z51 z52 z53 z54 z55
  go_loopg [14] 3 (fun gk iv wr => ∃ u : Int, (gk : Int) + u = 2 ∧ -1 ≤ u ∧ iv = .int .i64 u ∧ Hid (HoldG wr (w51.heap.size) x d51 A51 n51 c51 e51 E51 m51 f51) ∧ Hid (HoldQ wr (w53.heap.size) (powQ x i) d53 A53 n53 c53 e53 E53 m53 f53) ∧ Hid (Below w.heap.size w wr))
  case atStart => exact ⟨-1, by omega, by omega, rfl, H51, H53, HB⟩
  case round =>
    clear H51 H53 HB
    obtain ⟨u, hgu, hu, rfl, H51, H53, HB⟩ := hrel
    by_cases hlt : u < 2
    · have eu : IntKind.i64.wrap (u + 1) = u + 1 := IntWalk.i64_in _ (by omega)
      have IU := Lib.hid (one_bd hu (by omega))
      go_wp2_with fail
      refine (whole_law u _ (by omega)).mono ?_
      rintro e w56 ⟨v, rfl, h, b⟩
      obtain ⟨d56, A56, n56, c56, e56, E56, m56, f56, rfl⟩ := h.shape
      have z56 := b.size
      replace z56 := Lib.hid z56
      replace H51 := Lib.hid (H51.out.below b)
      replace H53 := Lib.hid (H53.out.below b)
      replace HB := Lib.hid (bstep HB.out b)
      have V56 := Lib.hid h
      clear h b
      go_wp2_with fail
      refine (fpow_any (u : Rat) _ _ V56.out IU.out n n2).mono ?_
      rintro e w57 ⟨v, rfl, h, b⟩
      obtain ⟨d57, A57, n57, c57, e57, E57, m57, f57, rfl⟩ := h.shape
      have z57 := b.size
      replace z57 := Lib.hid z57
      replace H51 := Lib.hid (H51.out.below b)
      replace H53 := Lib.hid (H53.out.below b)
      replace HB := Lib.hid (bstep HB.out b)
      replace V56 := Lib.hid (V56.out.step b)
      have V57 := Lib.hid h
      clear h b
      clear V56
      have h := HoldQ.new V57.out
      have b := al_below w57 (.cells #[.bool d57, .slice A57 n57 c57, .bool e57, .slice E57 m57 f57] 36)
      replace H51 := Lib.hid (H51.out.below b)
      replace H53 := Lib.hid (H53.out.below b)
      replace HB := Lib.hid (bstep HB.out b)
      clear b
      have H57 := Lib.hid h
      clear h V57
      go_wp2_with fail
      refine (gof_any u _ (by omega)).mono ?_
      rintro e w58 ⟨v, rfl, h, b⟩
      obtain ⟨d58, A58, n58, c58, e58, E58, m58, f58, rfl⟩ := h.shape
      have z58 := b.size
      simp only [World.size_alloc] at z58
      replace z58 := Lib.hid z58
      replace H51 := Lib.hid (H51.out.below b)
      replace H53 := Lib.hid (H53.out.below b)
      replace HB := Lib.hid (bstep HB.out b)
      replace H57 := Lib.hid (H57.out.below b)
      have V58 := Lib.hid h
      clear h b
      go_wp2_with fail
      refine (gpow_any (u : Rat) _ _ V58.out IU.out n n2).mono ?_
      rintro e w59 ⟨v, rfl, h, b⟩
      obtain ⟨d59, A59, n59, c59, e59, E59, m59, f59, rfl⟩ := h.shape
      have z59 := b.size
      replace z59 := Lib.hid z59
      replace H51 := Lib.hid (H51.out.below b)
      replace H53 := Lib.hid (H53.out.below b)
      replace HB := Lib.hid (bstep HB.out b)
      replace H57 := Lib.hid (H57.out.below b)
      replace V58 := Lib.hid (V58.out.step b)
      have V59 := Lib.hid h
      clear h b
      clear V58
      have h := HoldG.new V59.out
      have b := al_below w59 (.cells #[.bool d59, .slice A59 n59 c59, .bool e59, .slice E59 m59 f59] 42)
      replace H51 := Lib.hid (H51.out.below b)
      replace H53 := Lib.hid (H53.out.below b)
      replace HB := Lib.hid (bstep HB.out b)
      replace H57 := Lib.hid (H57.out.below b)
      clear b
      have H59 := Lib.hid h
      clear h V59
      obtain ⟨F, hF⟩ : ∃ F, powR (u : Rat) n = F := ⟨_, rfl⟩
      rw [hF]
      clear hF
      have gH570 := H57.out.c0
      have gH571 := H57.out.c1
      have gH572 := H57.out.c2
      have gH573 := H57.out.c3
      have gH590 := H59.out.c0
      have gH591 := H59.out.c1
      have gH592 := H59.out.c2
      have gH593 := H59.out.c3
      go_wp2_with fail
      refine (same_law _ _ _ _ H57.out.2 H59.out.2 (powQ_bd _ _)).mono ?_
      rintro e w60 ⟨rfl, b⟩
      clear gH570 gH571 gH572 gH573 gH590 gH591 gH592 gH593
      have z60 := b.size
      simp only [World.size_alloc] at z60
      replace z60 := Lib.hid z60
      replace H51 := Lib.hid (H51.out.below b)
      replace H53 := Lib.hid (H53.out.below b)
      replace HB := Lib.hid (bstep HB.out b)
      replace H57 := Lib.hid (H57.out.below b)
      replace H59 := Lib.hid (H59.out.below b)
      clear b
      clear H57
      clear H59
      clear IU
      go_wp2_with fail
      clear z56 z57 z58 z59 z60
      go_roundg (gk - 1)
      case measure => omega
      case rel => exact ⟨u + 1, by omega, by omega, by go_num, H51, H53, HB⟩
    · skip
      by_cases c1 : i < 0
      · skip
        clear HE IA
        go_wp2_with fail
        refine (lives_law _).mono ?_
        rintro e w61 ⟨rfl, b⟩
        have z61 := b.size
        replace z61 := Lib.hid z61
        replace H51 := Lib.hid (H51.out.below b)
        replace H53 := Lib.hid (H53.out.below b)
        replace HB := Lib.hid (bstep HB.out b)
        clear b
        have HF := HB.out
        clear H51 H53 HB
        go_wp2_with fail
        go_ret
        exact ⟨rfl, HF⟩
      · skip
        by_cases c2 : k < 0
        · skip
          clear HE IA
          go_wp2_with fail
          refine (lives_law _).mono ?_
          rintro e w62 ⟨rfl, b⟩
          have z62 := b.size
          replace z62 := Lib.hid z62
          replace H51 := Lib.hid (H51.out.below b)
          replace H53 := Lib.hid (H53.out.below b)
          replace HB := Lib.hid (bstep HB.out b)
          clear b
          have HF := HB.out
          clear H51 H53 HB
          go_wp2_with fail
          go_ret
          exact ⟨rfl, HF⟩
        · skip
          by_cases c3 : ¬ E = 0
          · skip
            have c3' : (E == 0) = false := by simp [c3]
            clear HE IA
            go_wp2_with fail
            refine (lives_law _).mono ?_
            rintro e w63 ⟨rfl, b⟩
            have z63 := b.size
            replace z63 := Lib.hid z63
            replace H51 := Lib.hid (H51.out.below b)
            replace H53 := Lib.hid (H53.out.below b)
            replace HB := Lib.hid (bstep HB.out b)
            clear b
            have HF := HB.out
            clear H51 H53 HB
            go_wp2_with fail
            go_ret
            exact ⟨rfl, HF⟩
          · skip
            obtain rfl : E = 0 := Decidable.not_not.1 c3
            have gH510 := H51.out.c0
            have gH511 := H51.out.c1
            have gH512 := H51.out.c2
            have gH513 := H51.out.c3
            go_wp2_with fail
            refine (of_law x _ _ H51.out.2 IA.out).mono ?_
            rintro e w64 ⟨v, rfl, h, b⟩
            obtain ⟨d64, A64, n64, c64, e64, E64, m64, f64, rfl⟩ := h.shape
            clear gH510 gH511 gH512 gH513
            have z64 := b.size
            replace z64 := Lib.hid z64
            replace H51 := Lib.hid (H51.out.below b)
            replace H53 := Lib.hid (H53.out.below b)
            replace HB := Lib.hid (bstep HB.out b)
            have V64 := Lib.hid h
            clear h b
            go_wp2_with fail
            refine (fpow_any x _ _ V64.out IA.out k (by omega)).mono ?_
            rintro e w65 ⟨v, rfl, h, b⟩
            obtain ⟨d65, A65, n65, c65, e65, E65, m65, f65, rfl⟩ := h.shape
            have z65 := b.size
            replace z65 := Lib.hid z65
            replace H51 := Lib.hid (H51.out.below b)
            replace H53 := Lib.hid (H53.out.below b)
            replace HB := Lib.hid (bstep HB.out b)
            replace V64 := Lib.hid (V64.out.step b)
            have V65 := Lib.hid h
            clear h b
            clear V64
            have h := HoldQ.new V65.out
            have b := al_below w65 (.cells #[.bool d65, .slice A65 n65 c65, .bool e65, .slice E65 m65 f65] 36)
            replace H51 := Lib.hid (H51.out.below b)
            replace H53 := Lib.hid (H53.out.below b)
            replace HB := Lib.hid (bstep HB.out b)
            clear b
            have H65 := Lib.hid h
            clear h V65
            have gH510 := H51.out.c0
            have gH511 := H51.out.c1
            have gH512 := H51.out.c2
            have gH513 := H51.out.c3
            go_wp2_with fail
            refine (of_law x _ _ H51.out.2 IA.out).mono ?_
            rintro e w66 ⟨v, rfl, h, b⟩
            obtain ⟨d66, A66, n66, c66, e66, E66, m66, f66, rfl⟩ := h.shape
            clear gH510 gH511 gH512 gH513
            have z66 := b.size
            simp only [World.size_alloc] at z66
            replace z66 := Lib.hid z66
            replace H51 := Lib.hid (H51.out.below b)
            replace H53 := Lib.hid (H53.out.below b)
            replace HB := Lib.hid (bstep HB.out b)
            replace H65 := Lib.hid (H65.out.below b)
            have V66 := Lib.hid h
            clear h b
            go_wp2_with fail
            refine (fpow_any x _ _ V66.out IA.out (i + k) (by omega)).mono ?_
            rintro e w67 ⟨v, rfl, h, b⟩
            obtain ⟨d67, A67, n67, c67, e67, E67, m67, f67, rfl⟩ := h.shape
            have z67 := b.size
            replace z67 := Lib.hid z67
            replace H51 := Lib.hid (H51.out.below b)
            replace H53 := Lib.hid (H53.out.below b)
            replace HB := Lib.hid (bstep HB.out b)
            replace H65 := Lib.hid (H65.out.below b)
            replace V66 := Lib.hid (V66.out.step b)
            have V67 := Lib.hid h
            clear h b
            clear V66
            have h := HoldQ.new V67.out
            have b := al_below w67 (.cells #[.bool d67, .slice A67 n67 c67, .bool e67, .slice E67 m67 f67] 36)
            replace H51 := Lib.hid (H51.out.below b)
            replace H53 := Lib.hid (H53.out.below b)
            replace HB := Lib.hid (bstep HB.out b)
            replace H65 := Lib.hid (H65.out.below b)
            clear b
            have H67 := Lib.hid h
            clear h V67
            clear H51
            obtain ⟨G, hG⟩ : ∃ G, powR x k = G := ⟨_, rfl⟩
            obtain ⟨H, hH⟩ : ∃ H, powR x (i + k) = H := ⟨_, rfl⟩
            rw [hG, hH]
            have HG := Lib.hid hG
            have HH := Lib.hid hH
            clear hG hH
            by_cases c4 : ¬ H = 0
            · skip
              have c4' : (H == 0) = false := by simp [c4]
              clear HE HG HH IA
              go_wp2_with fail
              refine (lives_law _).mono ?_
              rintro e w68 ⟨rfl, b⟩
              have z68 := b.size
              simp only [World.size_alloc] at z68
              replace z68 := Lib.hid z68
              replace H53 := Lib.hid (H53.out.below b)
              replace HB := Lib.hid (bstep HB.out b)
              replace H65 := Lib.hid (H65.out.below b)
              replace H67 := Lib.hid (H67.out.below b)
              clear b
              have HF := HB.out
              clear H53 HB H65 H67
              go_wp2_with fail
              go_ret
              exact ⟨rfl, HF⟩
            · skip
              obtain rfl : H = 0 := Decidable.not_not.1 c4
              by_cases c5 : ¬ G = 0
              · skip
                have c5' : (G == 0) = false := by simp [c5]
                clear HE HG HH IA
                go_wp2_with fail
                refine (lives_law _).mono ?_
                rintro e w69 ⟨rfl, b⟩
                have z69 := b.size
                simp only [World.size_alloc] at z69
                replace z69 := Lib.hid z69
                replace H53 := Lib.hid (H53.out.below b)
                replace HB := Lib.hid (bstep HB.out b)
                replace H65 := Lib.hid (H65.out.below b)
                replace H67 := Lib.hid (H67.out.below b)
                clear b
                have HF := HB.out
                clear H53 HB H65 H67
                go_wp2_with fail
                go_ret
                exact ⟨rfl, HF⟩
              · skip
                obtain rfl : G = 0 := Decidable.not_not.1 c5
                have SM := pow_sum (by omega) (by omega) HE.out HG.out HH.out
                have IY := powQ_bd x (i + k)
                have MQ := fitQ_in (SM ▸ IY : InF (powQ x i * powQ x k))
                replace SM := Lib.hid SM
                replace IY := Lib.hid IY
                replace MQ := Lib.hid MQ
                have gH530 := H53.out.c0
                have gH531 := H53.out.c1
                have gH532 := H53.out.c2
                have gH533 := H53.out.c3
                have gH650 := H65.out.c0
                have gH651 := H65.out.c1
                have gH652 := H65.out.c2
                have gH653 := H65.out.c3
                go_wp2_with fail
                have HM := fmul_any (powQ x i) (powQ x k) _ _ _ H53.out.2 H65.out.2 (powQ_bd _ _) (powQ_bd _ _)
                rw [MQ.out.1, MQ.out.2, SM.out] at HM
                refine (HM).mono ?_
                rintro e w70 ⟨v, rfl, h, b⟩
                obtain ⟨d70, A70, n70, c70, e70, E70, m70, f70, rfl⟩ := h.shape
                clear gH530 gH531 gH532 gH533 gH650 gH651 gH652 gH653
                have z70 := b.size
                simp only [World.size_alloc] at z70
                replace z70 := Lib.hid z70
                replace H53 := Lib.hid (H53.out.below b)
                replace HB := Lib.hid (bstep HB.out b)
                replace H65 := Lib.hid (H65.out.below b)
                replace H67 := Lib.hid (H67.out.below b)
                have V70 := Lib.hid h
                clear h b
                clear HM
                have h := HoldQ.new V70.out
                have b := al_below w70 (.cells #[.bool d70, .slice A70 n70 c70, .bool e70, .slice E70 m70 f70] 36)
                replace H53 := Lib.hid (H53.out.below b)
                replace HB := Lib.hid (bstep HB.out b)
                replace H65 := Lib.hid (H65.out.below b)
                replace H67 := Lib.hid (H67.out.below b)
                clear b
                have H70 := Lib.hid h
                clear h V70
                clear H53
                clear H65
                have gH670 := H67.out.c0
                have gH671 := H67.out.c1
                have gH672 := H67.out.c2
                have gH673 := H67.out.c3
                have gH700 := H70.out.c0
                have gH701 := H70.out.c1
                have gH702 := H70.out.c2
                have gH703 := H70.out.c3
                go_wp2_with fail
                refine (equal_law _ _ _ _ _ H67.out.2 H70.out.2 IY.out IY.out).mono ?_
                rintro e w71 ⟨rfl, b⟩
                clear gH670 gH671 gH672 gH673 gH700 gH701 gH702 gH703
                have z71 := b.size
                simp only [World.size_alloc] at z71
                replace z71 := Lib.hid z71
                replace HB := Lib.hid (bstep HB.out b)
                replace H67 := Lib.hid (H67.out.below b)
                replace H70 := Lib.hid (H70.out.below b)
                clear b
                clear H67
                clear H70
                clear SM IY MQ HE HG HH IA
                go_wp2_with fail
                refine (lives_law _).mono ?_
                rintro e w72 ⟨rfl, b⟩
                have z72 := b.size
                replace z72 := Lib.hid z72
                replace HB := Lib.hid (bstep HB.out b)
                clear b
                have HF := HB.out
                clear HB
                go_wp2_with fail
                go_ret
                exact ⟨rfl, HF⟩
end Go.Proofs.YtocooajlfpngdaaGreatDoor
