/- Contracts of the reader's methods. -/
import Derived.Test.YtjnjglkmabnlfaaMemR
import Derived.Test.YtjnjglkmabnlfaaWireW
namespace Go.Proofs.Ytjnjglkmabnlfaa
open Go.RowKit
set_option linter.unusedVariables false

/-- a reader of package wire -/
def RdW (w : World) (p B : Nat) (s : RS) : Prop := Rd 77 w p B s

theorem ok_tail {b : Int} {t : List Int} (h : RS.ok ⟨b :: t, 0⟩) : RS.ok ⟨t, 0⟩ := ⟨fun x hx => h.1 x (by simp only at hx; simp [hx]), fun h => absurd rfl h, .inl rfl⟩

set_option maxHeartbeats 1000000 in
theorem r_octet (p B : Nat) (s : RS) (w : World) (h : RdW w p B s) :
    Calls Try.prog 56 #[.pointer (some ⟨p, 0, none⟩)] w fun e w' => e = .returned (.int .u8 (rdO s).1) ∧ RdW w' p B (rdO s).2 ∧ w.grownBy w' (some p) := by
  obtain ⟨A, n, c, h1, h2, h3, h4, h5, h6, h7⟩ := h
  have c0 := h1.c0
  have c1 := h1.c1
  have f0 := h1.f0
  have f1 := h1.f1
  have H1 := Lib.hid h1
  clear h1
  by_cases he : s.er = 0
  · obtain ⟨bs, er⟩ := s
    simp only at he
    subst he
    have hsl := h5 rfl
    have H6 := Lib.hid h6
    have H4 := Lib.hid h4
    have hl := hsl.len
    clear h5 h6 h4
    unfold maxLen at h3
    cases bs with
    | nil =>
      have hn : n = 0 := by simpa using hl.symm
      subst hn
      clear hl
      go_enter Try.func56, Try.ntmps56
      go_wp2
      go_ret
      exact ⟨ret_int rfl, ⟨A, 0, c, H1.out.set1 _, by omega, by unfold maxLen; omega, H4.out, (fun h => by simp [rdO, bad] at h), bad_ok 3 (.inr rfl), Nat.le_trans h7 (grown_set _ _ _ _).size⟩, grown_set _ _ _ _⟩
    | cons b t =>
      have hn : n = t.length + 1 := by simpa using hl.symm
      obtain ⟨bl, off, rfl, hb, hcl⟩ := hsl.at_ (by omega)
      have hcell := hcl 0 (by omega)
      simp only [Nat.add_zero, List.getElem?_cons_zero, Option.getD_some] at hcell
      have HT : Hid (∀ j, j < t.length → w.cell? ⟨bl, off + 1 + j, none⟩ = some (.int .u8 (t[j]?.getD 0))) := fun j hj => by
        have := hcl (j + 1) (by omega)
        rw [List.getElem?_cons_succ] at this
        rw [show off + 1 + j = off + (j + 1) by omega]; exact this
      have hg1 : 1 ≤ n := by omega
      have HN := Lib.hid hn
      clear hl hcl hn hsl
      by_cases hc1 : c = 1
      · subst hc1
        obtain rfl : n = 1 := by omega
        go_enter Try.func56, Try.ntmps56
        go_wp2
        go_ret
        refine ⟨ret_int rfl, ⟨_, 0, _, H1.out.set0 _, by omega, by unfold maxLen; omega, (fun h => by cases h), fun _ => ?_, ok_tail H6.out, Nat.le_trans h7 (grown_set _ _ _ _).size⟩, grown_set _ _ _ _⟩
        have ht : t = [] := List.eq_nil_of_length_eq_zero (by have := HN.out; omega)
        subst ht
        exact Sl.nil _ _ _ _
      · go_enter Try.func56, Try.ntmps56
        go_wp2
        go_ret
        refine ⟨ret_int rfl, ⟨_, n - 1, _, H1.out.set0 _, by omega, by unfold maxLen; omega, (fun h => by cases h), fun _ => ?_, ok_tail H6.out, Nat.le_trans h7 (grown_set _ _ _ _).size⟩, grown_set _ _ _ _⟩
        have hs : Sl .u8 w B (some ⟨bl, off + 1, none⟩) (n - 1) t := ⟨by have := HN.out; omega, .inr ⟨bl, off + 1, rfl, hb, fun j hj => HT.out j (by have := HN.out; omega)⟩⟩
        exact hs.two h7 H1.out (grown_set _ _ _ _)
  · have hr : rdO s = (0, s) := by unfold rdO; rw [if_neg he]
    rw [hr]
    have hne : (s.er != 0) = true := by simpa using he
    clear hr
    go_enter Try.func56, Try.ntmps56
    go_wp2
    go_ret
    exact ⟨rfl, ⟨A, n, c, H1.out, h2, h3, h4, h5, h6, h7⟩, World.grownBy.refl _ _⟩

theorem r_octet_cons (p B : Nat) (b : Int) (t : List Int) (w : World) (h : RdW w p B ⟨b :: t, 0⟩) :
    Calls Try.prog 56 #[.pointer (some ⟨p, 0, none⟩)] w fun e w' => e = .returned (.int .u8 b) ∧ RdW w' p B ⟨t, 0⟩ ∧ w.grownBy w' (some p) := r_octet p B _ w h
theorem r_octet_nil (p B : Nat) (w : World) (h : RdW w p B ⟨[], 0⟩) :
    Calls Try.prog 56 #[.pointer (some ⟨p, 0, none⟩)] w fun e w' => e = .returned (.int .u8 0) ∧ RdW w' p B (bad 3) ∧ w.grownBy w' (some p) := r_octet p B _ w h
theorem rdO_bad (s : RS) (h : s.er ≠ 0) : rdO s = (0, s) := by unfold rdO; rw [if_neg h]
theorem r_octet_bad (p B : Nat) (s : RS) (w : World) (h : RdW w p B s) (he : s.er ≠ 0) :
    Calls Try.prog 56 #[.pointer (some ⟨p, 0, none⟩)] w fun e w' => e = .returned (.int .u8 0) ∧ RdW w' p B s ∧ w.grownBy w' (some p) := by
  have := r_octet p B s w h
  rw [rdO_bad s he] at this; exact this
/-- a reader's cells -/
theorem RdW.cells {w : World} {p B : Nat} {s : RS} (h : RdW w p B s) : ∃ A n c, w.cell? ⟨p, 0, none⟩ = some (.slice A n c) ∧ w.cell? ⟨p, 1, none⟩ = some (.int .i64 s.er) ∧ w.frozen? ⟨p, 0, none⟩ = false ∧ w.frozen? ⟨p, 1, none⟩ = false ∧ n ≤ c ∧ c ≤ maxLen ∧ (s.er = 0 → n = s.bs.length) := by
  obtain ⟨A, n, c, h1, h2, h3, h4, h5, h6, _⟩ := h
  exact ⟨A, n, c, h1.c0, h1.c1, h1.f0, h1.f1, h2, h3, fun h0 => (h5 h0).len.symm⟩
/-- an error is recorded -/
theorem RdW.fail {w : World} {p B : Nat} {s : RS} (h : RdW w p B s) (e : Int) (he : e = 2 ∨ e = 3) : RdW (w.setCell ⟨p, 1, none⟩ (.int .i64 e)) p B (bad e) := by
  obtain ⟨A, n, c, h1, h2, h3, h4, h5, h6, h7⟩ := h
  exact ⟨A, n, c, h1.set1 _, h2, h3, h4, (fun h => by simp only [bad] at h; omega), bad_ok e he, Nat.le_trans h7 (grown_set _ _ _ _).size⟩
/-! ### Uint -/
theorem andNot128 (b : Int) (h0 : 0 ≤ b) (h1 : b ≤ 255) : bits BinOp.andNot IntKind.u8 b 128 = b % 128 := by
  rw [u8_andNot _ _ (by omega) (by omega) (by omega) (by omega)]
  have e : ∀ a : Fin 256, (a.val &&& (255 - 128)) = a.val % 128 := by decide +kernel
  have := e ⟨b.toNat, by omega⟩
  simp only at this
  show ((b.toNat &&& (255 - 128) : Nat) : Int) = _
  rw [this]; omega
theorem or_step7 (W z : Int) (k : Nat) (hk : k ≤ 9) (hW : 0 ≤ W ∧ W < 128 ^ k) (hz : 0 ≤ z ∧ z ≤ 127) (h9 : k = 9 → z ≤ 1) :
    bits BinOp.or IntKind.u64 W (IntKind.u64.wrap (z * 2 ^ (7 * k))) = W + z * 128 ^ k := by
  obtain ⟨hz0, hz1⟩ := hz
  obtain ⟨a, rfl⟩ := Int.eq_ofNat_of_zero_le hW.1
  obtain ⟨y, rfl⟩ := Int.eq_ofNat_of_zero_le hz0
  have hp : (128 : Int) ^ k = ((2 ^ (7 * k) : Nat) : Int) := by
    rw [Nat.pow_mul]; simp
  have hp2 : (2 : Int) ^ (7 * k) = ((2 ^ (7 * k) : Nat) : Int) := by simp
  rw [hp] at hW ⊢
  rw [hp2]
  have ha : a < 2 ^ (7 * k) := by omega
  have hy : y * 2 ^ (7 * k) ≤ 9223372036854775808 := by
    by_cases h : k = 9
    · subst h
      have : y ≤ 1 := by have := h9 rfl; omega
      exact Nat.le_trans (Nat.mul_le_mul this (Nat.le_refl _)) (by decide)
    · have hP : 2 ^ (7 * k) ≤ 2 ^ 56 := Nat.pow_le_pow_right (by omega) (by omega)
      exact Nat.le_trans (Nat.mul_le_mul (show y ≤ 128 by omega) hP) (by decide)
  have hP : 2 ^ (7 * k) ≤ 2 ^ 63 := Nat.pow_le_pow_right (by omega) (by omega)
  have e1 : ((y : Int) * ((2 ^ (7 * k) : Nat) : Int)) = ((y * 2 ^ (7 * k) : Nat) : Int) := by simp
  rw [e1]
  have e2 : IntKind.u64.wrap ((y * 2 ^ (7 * k) : Nat) : Int) = ((y * 2 ^ (7 * k) : Nat) : Int) := by
    rw [IntKind.wrap_u64]; omega
  rw [e2, u64_or_nat _ _ (by omega) (by omega)]
  have h := Nat.shiftLeft_add_eq_or_of_lt ha y
  rw [Nat.shiftLeft_eq] at h
  rw [Nat.or_comm, ← h]
  omega

theorem rdU_nil (s : RS) (h : s.er = 0) (e : Int) (hd : decA 0 0 s.bs = .err e) : rdU s = (0, bad e) := by
  unfold rdU; rw [if_pos h, hd]; rfl
theorem rdU_got (s : RS) (h : s.er = 0) (v : Int) (r : List Int) (hd : decA 0 0 s.bs = .got v r) : rdU s = (v, ⟨r, 0⟩) := by
  unfold rdU; rw [if_pos h, hd]; rfl

theorem decA_nil (v : Int) (k : Nat) : decA v k [] = .err 3 := rfl
theorem decA_badc (v : Int) (k : Nat) (b : Int) (t : List Int) (h : (0 < k ∧ b = 0) ∨ (k = 9 ∧ 1 < b)) : decA v k (b :: t) = .err 2 := by rw [decA, if_pos h]
theorem decA_last (v : Int) (k : Nat) (b : Int) (t : List Int) (h : ¬ ((0 < k ∧ b = 0) ∨ (k = 9 ∧ 1 < b))) (hb : b < 128) : decA v k (b :: t) = .got (v + b * 128 ^ k) t := by rw [decA, if_neg h, if_pos hb]
theorem decA_more (v : Int) (k : Nat) (b : Int) (t : List Int) (h : ¬ ((0 < k ∧ b = 0) ∨ (k = 9 ∧ 1 < b))) (hb : ¬ b < 128) : decA v k (b :: t) = decA (v + (b - 128) * 128 ^ k) (k + 1) t := by rw [decA, if_neg h, if_neg hb]
theorem next_bd (v b : Int) (k : Nat) (hk : k ≤ 9) (hv0 : 0 ≤ v) (hv1 : v < 128 ^ k) (hb0 : 128 ≤ b) (hb1 : b ≤ 255) : 0 ≤ v + (b - 128) * 128 ^ k ∧ v + (b - 128) * 128 ^ k < 128 ^ (k + 1) := by
  have hP := pow128 k hk
  have := mul_bd (b - 128) (128 ^ k) (by omega) (by omega) hP.1
  rw [pow128_succ]; omega

theorem or9 (v b : Int) (h0 : 0 ≤ b) (h1 : b ≤ 1) (h : bits BinOp.or IntKind.u64 v (IntKind.u64.wrap (b * 2 ^ (7 * 9))) = v + b * 128 ^ 9) : bits BinOp.or IntKind.u64 v (b * 9223372036854775808) = v + b * 128 ^ 9 := by
  have e : IntKind.u64.wrap (b * 2 ^ (7 * 9)) = b * 9223372036854775808 := by
    rw [IntKind.wrap_u64, show (2 : Int) ^ (7 * 9) = 9223372036854775808 by decide]; omega
  rw [e] at h; exact h

set_option maxHeartbeats 4000000 in
theorem r_uint (p B : Nat) (s : RS) (w : World) (h : RdW w p B s) :
    Calls Try.prog 45 #[.pointer (some ⟨p, 0, none⟩)] w fun e w' => e = .returned (.int .u64 (rdU s).1) ∧ RdW w' p B (rdU s).2 ∧ w.grownBy w' (some p) := by
  have HR := Lib.hid h
  clear h
  by_cases he : s.er = 0
  · have HE := Lib.hid he
    clear he
    go_enter Try.func45, Try.ntmps45
    go_wp2_with fail
    go_loopw [3, 8] (fun n i wr => ∃ (k : Nat) (v : Int) (bs : List Int), k ≤ 9 ∧ i = .int .i64 k ∧ n = .int .u64 v ∧ 0 ≤ v ∧ Hid (v < 128 ^ k) ∧ Hid (decA v k bs = decA 0 0 s.bs) ∧ RdW wr p B ⟨bs, 0⟩ ∧ w.grownBy wr (some p)) (fun _ i _ => 10 - (intOf i).toNat)
    case atStart => exact ⟨0, 0, s.bs, by omega, rfl, rfl, by omega, by show (0 : Int) < 128 ^ 0; decide, rfl, by have := HR.out; have e := HE.out; cases s; simp only at e; subst e; exact this, World.grownBy.refl _ _⟩
    case round =>
      obtain ⟨k, v, bs, hk, rfl, rfl, hv0, HV, HD, hrd, hg⟩ := hrel
      have HG := Lib.hid hg
      have HRD := Lib.hid hrd
      clear hrd hg
      cases bs with
      | nil =>
        go_wp2_with fail
        refine (r_octet_nil p B _ HRD.out).mono ?_
        rintro e w1 ⟨rfl, h1, hg1⟩
        obtain ⟨A, n, c, _, c1, _, _, _, _, _⟩ := h1.cells
        have H1 := Lib.hid h1
        have he1 : ((bad 3).er != 0) = true := rfl
        clear h1
        go_wp2_with fail
        go_ret
        rw [rdU_nil s HE.out 3 HD.out.symm]
        exact ⟨rfl, H1.out, grown_trans HG.out hg1⟩
      | cons b t =>
        have hbb := HRD.out.ok.1 b (by simp)
        unfold byteI at hbb
        obtain ⟨hb0, hb1⟩ := hbb
        go_wp2_with fail
        refine (r_octet_cons p B b t _ HRD.out).mono ?_
        rintro e w1 ⟨rfl, h1, hg1⟩
        obtain ⟨A, n, c, _, c1, _, f1, _, _, _⟩ := h1.cells
        have H1 := Lib.hid h1
        have HG1 := Lib.hid (grown_trans HG.out hg1)
        clear h1 hg1
        simp only at c1
        by_cases hbad : (0 < k ∧ b = 0) ∨ (k = 9 ∧ 1 < b)
        · have HB := Lib.hid (HD.out.symm.trans (decA_badc v k b t hbad))
          rcases hbad with ⟨hk0, hb⟩ | ⟨hk9, hb⟩
          · subst hb
            go_wp2_with fail
            all_goals
              go_ret
              rw [rdU_nil s HE.out 2 HB.out]
              exact ⟨rfl, H1.out.fail 2 (.inl rfl), grown_trans HG1.out (grown_set _ _ _ _)⟩
          · subst hk9
            have hbn : (b == 0) = false := by simp; omega
            go_wp2_with fail
            all_goals
              go_ret
              rw [rdU_nil s HE.out 2 HB.out]
              exact ⟨rfl, H1.out.fail 2 (.inl rfl), grown_trans HG1.out (grown_set _ _ _ _)⟩
        · have hbn : 0 < k → (b == 0) = false := fun h => by simp; intro e; exact hbad (.inl ⟨h, e⟩)
          have h9 : k = 9 → b ≤ 1 := fun h => by
            rcases Int.lt_or_le 1 b with h' | h'
            · exact absurd (.inr ⟨h, h'⟩) hbad
            · exact h'
          have hPk := pow128 k hk
          have han := andNot128 b hb0 hb1
          by_cases hlt : b < 128
          · have HB := Lib.hid (HD.out.symm.trans (decA_last v k b t hbad hlt))
            have HO := Lib.hid (or_step7 v b k hk ⟨hv0, HV.out⟩ ⟨hb0, by omega⟩ h9)
            have hmod : b % 128 = b := by omega
            clear hbad hPk
            by_cases hk9 : k = 9
            · subst hk9
              have hb9 := h9 rfl
              have HO9 := Lib.hid (or9 v b hb0 hb9 HO.out)
              clear h9
              go_wp2_with fail
              go_ret
              rw [rdU_got s HE.out _ _ HB.out]
              exact ⟨ret_int HO9.out, H1.out, HG1.out⟩
            · clear h9
              go_wp2_with fail
              all_goals
                go_ret
                rw [rdU_got s HE.out _ _ HB.out]
                exact ⟨ret_int HO.out, H1.out, HG1.out⟩
          · have hk9 : k ≠ 9 := fun h => by have := h9 h; omega
            have HB := Lib.hid ((decA_more v k b t hbad hlt).symm.trans HD.out)
            have HO := Lib.hid (or_step7 v (b % 128) k hk ⟨hv0, HV.out⟩ ⟨by omega, by omega⟩ (fun h => absurd h hk9))
            have hbd := next_bd v b k hk hv0 HV.out (by omega) hb1
            have HBD := Lib.hid hbd
            have hm : b % 128 = b - 128 := by omega
            have HM := Lib.hid hm
            clear hbad h9 hPk hbd hm
            go_wp2_with fail
            all_goals
              go_roundw
              case rel => exact ⟨k + 1, _, t, by omega, by go_num, by rw [HO.out, HM.out], HBD.out.1, HBD.out.2, HB.out, H1.out, HG1.out⟩
              case measure => simp [intOf]; omega
  · have hr : rdU s = (0, s) := by unfold rdU; rw [if_neg he]
    rw [hr]
    have hne : (s.er != 0) = true := by simpa using he
    have HNE := Lib.hid hne
    clear hr hne
    go_enter Try.func45, Try.ntmps45
    go_wp2_with fail
    go_loopw [3, 8] (fun n i wr => i = .int .i64 0 ∧ n = .int .u64 0 ∧ wr = w) (fun _ i _ => 10 - (intOf i).toNat)
    case atStart => exact ⟨rfl, rfl, rfl⟩
    case round =>
      obtain ⟨rfl, rfl, rfl⟩ := hrel
      go_wp2_with fail
      refine (r_octet_bad p B s _ HR.out he).mono ?_
      rintro e w1 ⟨rfl, h1, hg1⟩
      obtain ⟨A, n, c, _, c1, _, f1, _, _, _⟩ := h1.cells
      have H1 := Lib.hid h1
      have hne := HNE.out
      clear h1
      go_wp2_with fail
      go_ret
      exact ⟨rfl, H1.out, hg1⟩
end Go.Proofs.Ytjnjglkmabnlfaa
