/- The reference's reader: Int, Bool, length, End, Raw. -/
import Derived.Test.YtjnjglkmabnlfaaRefR
namespace Go.Proofs.Ytjnjglkmabnlfaa
open Go.RowKit
set_option linter.unusedVariables false

theorem back_any (z : Int) (w : World) (h : u64 z) :
    Calls Try.prog 62 #[.int .u64 z] w fun e w' => e = .returned (.int .i64 (unzig z)) ∧ w = w' := by
  obtain ⟨h0, h1⟩ := h
  by_cases hz : z % 2 = 1
  · have hz1 : (z % 2 == 1) = true := by simpa using hz
    have HZ := Lib.hid hz
    clear hz
    go_enter Try.func62, Try.ntmps62
    go_wp2
    go_ret
    exact ⟨ret_int (by rw [unzig, if_pos HZ.out]), rfl⟩
  · have hz1 : (z % 2 == 1) = false := by simpa using hz
    have HZ := Lib.hid hz
    clear hz
    go_enter Try.func62, Try.ntmps62
    go_wp2
    go_ret
    exact ⟨ret_int (by rw [unzig, if_neg HZ.out]), rfl⟩
theorem rr_int (p B : Nat) (s : RS) (w : World) (h : RdR w p B s) (hl : s.bs.length ≤ 1000000) :
    Calls Try.prog 50 #[.pointer (some ⟨p, 0, none⟩)] w fun e w' => e = .returned (.int .i64 (rdI s).1) ∧ RdR w' p B (rdI s).2 ∧ w.grownBy w' (some p) := by
  have hu := (rdU_ok s h.ok).1
  go_enter Try.func50, Try.ntmps50
  go_wp2_with fail
  refine (rr_uint p B s _ h hl).mono ?_
  rintro e w1 ⟨rfl, h1, hg1⟩
  go_wp2_with fail
  refine (back_any _ _ hu).mono ?_
  rintro e w1 ⟨rfl, rfl⟩
  go_wp2_with fail
  go_ret
  exact ⟨rfl, h1, hg1⟩

set_option maxHeartbeats 1000000 in
theorem rr_bool (p B : Nat) (s : RS) (w : World) (h : RdR w p B s) :
    Calls Try.prog 51 #[.pointer (some ⟨p, 0, none⟩)] w fun e w' => e = .returned (.bool (rdB s).1) ∧ RdR w' p B (rdB s).2 ∧ w.grownBy w' (some p) := by
  obtain ⟨A, n, c, c0, c1, f0, f1, hnc, hcm, hnl, hA, hsl⟩ := h.cells
  unfold maxLen at hcm
  by_cases he : s.er = 0
  · obtain ⟨bs, er⟩ := s
    simp only at he
    subst he
    have hnl' := hnl rfl
    have hsl' := hsl rfl
    simp only at hnl' hsl' c1
    have HR := Lib.hid h
    have HNL := Lib.hid hnl'
    clear h hnl hsl hnl'
    cases bs with
    | nil =>
      obtain rfl : n = 0 := by simpa using HNL.out
      go_enter Try.func51, Try.ntmps51
      go_wp2
      go_ret
      exact ⟨rfl, HR.out.fail 3 (.inr rfl), grown_set _ _ _ _⟩
    | cons b t =>
      have hn : n = t.length + 1 := by simpa using HNL.out
      obtain ⟨bl, off, rfl, hb, hcl⟩ := hsl'.at_ (by omega)
      have hcell := hcl 0 (by omega)
      simp only [Nat.add_zero, List.getElem?_cons_zero, Option.getD_some] at hcell
      have hbb := HR.out.ok.1 b (by simp)
      obtain ⟨hb0, hb1⟩ := hbb
      have hg1 : 1 ≤ n := by omega
      have hne0 : ((n : Int) == 0) = false := by simp; omega
      have HN := Lib.hid hn
      clear hcl hn hsl' hA
      by_cases h1 : 1 < b
      · have hr : rdB ⟨b :: t, 0⟩ = (false, bad 2) := by simp [rdB, h1]
        rw [hr]
        clear hr
        go_enter Try.func51, Try.ntmps51
        go_wp2
        go_ret
        exact ⟨rfl, HR.out.fail 2 (.inl rfl), grown_set _ _ _ _⟩
      · have hr : rdB ⟨b :: t, 0⟩ = (b == 1, ⟨t, 0⟩) := by simp [rdB, h1]
        rw [hr]
        clear hr
        by_cases hc1 : c = 1
        · subst hc1
          obtain rfl : n = 1 := by omega
          go_enter Try.func51, Try.ntmps51
          go_wp2
          go_ret
          exact ⟨rfl, HR.out.cut (k := 1) c0 (by omega) (fun h => by omega) (fun h => by cases h), grown_set _ _ _ _⟩
        · go_enter Try.func51, Try.ntmps51
          go_wp2
          go_ret
          exact ⟨rfl, HR.out.cut (k := 1) c0 (by omega) (fun _ => by simp [add_lit]) (fun h => by cases h), grown_set _ _ _ _⟩
  · rw [rdB_bad s he]
    have hne : (s.er == 0) = false := by simpa using he
    have hne2 : (s.er != 0) = true := by simpa using he
    have HR := Lib.hid h
    clear he h hnl hsl
    go_enter Try.func51, Try.ntmps51
    go_wp2
    go_ret
    exact ⟨rfl, HR.out, World.grownBy.refl _ _⟩

theorem rr_end (p B : Nat) (s : RS) (w : World) (h : RdR w p B s) (hl : s.bs.length ≤ 1000000) :
    Calls Try.prog 25 #[.pointer (some ⟨p, 0, none⟩)] w fun e w' => e = .returned (.int .i64 (endE s)) ∧ w = w' := by
  obtain ⟨A, n, c, c0, c1, _, _, h2, h3, h4, _, _⟩ := h.cells
  unfold maxLen at h3
  by_cases he : s.er = 0
  · have hn := h4 he
    by_cases hz : 0 < n
    · have hE : endE s = 2 := by unfold endE; rw [if_pos ⟨he, by omega⟩]
      rw [he] at c1
      rw [hE]
      clear hE hn h4 he
      go_enter Try.func25, Try.ntmps25
      go_wp2
      go_ret
      exact ⟨rfl, rfl⟩
    · have hE : endE s = s.er := by unfold endE; rw [if_neg (by omega)]
      rw [hE]
      obtain rfl : n = 0 := by omega
      rw [he] at c1 ⊢
      clear hE hn h4 he
      go_enter Try.func25, Try.ntmps25
      go_wp2
      go_ret
      exact ⟨rfl, rfl⟩
  · have hE : endE s = s.er := by unfold endE; rw [if_neg (fun h => he h.1)]
    rw [hE]
    have hne : (s.er == 0) = false := by simpa using he
    clear hE h4 he
    go_enter Try.func25, Try.ntmps25
    go_wp2
    go_ret
    exact ⟨rfl, rfl⟩

/-- a length -/
def lenR (s : RS) : Int × RS := if (rdU s).2.er = 0 then (if (rdU s).1 ≤ (rdU s).2.bs.length then rdU s else (0, bad 3)) else (0, (rdU s).2)
theorem rdL_lenR (f : RS → Int × RS) (s : RS) : rdL f s = if (lenR s).2.er = 0 then rdN f (lenR s).1.toNat [] (lenR s).2 else ([], (lenR s).2) := by
  unfold rdL lenR
  by_cases h : (rdU s).2.er = 0
  · rw [if_pos h, if_pos h]
    by_cases h2 : (rdU s).1 ≤ ((rdU s).2.bs.length : Int)
    · rw [if_pos h2, if_pos h2, if_pos h]
    · rw [if_neg h2, if_neg h2, if_neg (by simp [bad])]
  · rw [if_neg h, if_neg h, if_neg h]
theorem lenR_ok (s : RS) (hs : s.ok) : 0 ≤ (lenR s).1 ∧ (lenR s).1 ≤ (lenR s).2.bs.length ∧ (lenR s).2.ok ∧ (lenR s).2.bs.length ≤ s.bs.length := by
  obtain ⟨h1, h2, h3, _⟩ := rdU_ok s hs
  unfold lenR
  split
  · split
    · rename_i h; exact ⟨h1.1, h, h2, h3⟩
    · exact ⟨by simp, by simp [bad], bad_ok 3 (.inr rfl), by simp [bad]⟩
  · exact ⟨by simp, by simp, h2, h3⟩
theorem rr_length (p B : Nat) (s : RS) (w : World) (h : RdR w p B s) (hl : s.bs.length ≤ 1000000) :
    Calls Try.prog 63 #[.pointer (some ⟨p, 0, none⟩)] w fun e w' => e = .returned (.int .i64 (lenR s).1) ∧ RdR w' p B (lenR s).2 ∧ w.grownBy w' (some p) := by
  obtain ⟨hu, hok, hle, hzero⟩ := rdU_ok s h.ok
  obtain ⟨N, hN⟩ : ∃ N : Nat, (rdU s).1 = N := ⟨(rdU s).1.toNat, by unfold u64 at hu; omega⟩
  have hN64 : N ≤ 18446744073709551615 := by unfold u64 at hu; omega
  obtain ⟨R, hR⟩ : ∃ R, R = lenR s := ⟨_, rfl⟩
  rw [← hR]
  have HRL := Lib.hid hR
  have HLE := Lib.hid hle
  clear hR hle
  go_enter Try.func63, Try.ntmps63
  go_wp2_with fail
  refine (rr_uint p B s _ h hl).mono ?_
  rintro e w1 ⟨rfl, h1, hg1⟩
  rw [hN]
  obtain ⟨A, n, c, c0, c1, f0, f1, hnc, hcm, hnl, _, _⟩ := h1.cells
  unfold maxLen at hcm
  have H1 := Lib.hid h1
  have HG := Lib.hid hg1
  have HN := Lib.hid hN
  have HNL := Lib.hid hnl
  clear h1 hg1 hN hnl hzero h
  by_cases he : (rdU s).2.er = 0
  · have hnl := HNL.out he
    have hn6 : n ≤ 1000000 := by have := HLE.out; omega
    have HE := Lib.hid he
    rw [he] at c1
    by_cases hm : n < N
    · obtain rfl : R = (0, bad 3) := by rw [HRL.out, lenR, if_pos HE.out, if_neg (by rw [HN.out]; omega)]
      clear he hnl
      go_wp2_with fail
      go_ret
      exact ⟨rfl, H1.out.fail 3 (.inr rfl), grown_trans HG.out (grown_set _ _ _ _)⟩
    · obtain rfl : R = rdU s := by rw [HRL.out, lenR, if_pos HE.out, if_pos (by rw [HN.out]; omega)]
      clear he hnl
      go_wp2_with fail
      go_ret
      exact ⟨ret_int HN.out.symm, H1.out, HG.out⟩
  · obtain rfl : R = (0, (rdU s).2) := by rw [HRL.out, lenR, if_neg he]
    have hne : ((rdU s).2.er == 0) = false := by simpa using he
    have hne2 : ((rdU s).2.er != 0) = true := by simpa using he
    clear he
    go_wp2_with fail
    go_ret
    exact ⟨rfl, H1.out, HG.out⟩
end Go.Proofs.Ytjnjglkmabnlfaa
