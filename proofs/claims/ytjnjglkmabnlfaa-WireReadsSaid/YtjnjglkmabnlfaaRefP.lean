/- The reference's reader: Read. -/
import Derived.Test.YtjnjglkmabnlfaaRefT
namespace Go.Proofs.Ytjnjglkmabnlfaa
open Go.RowKit
set_option linter.unusedVariables false

theorem TwoB.below' {q : Nat} {w W : World} (h : TwoB q w W) : Below q w W := ⟨h.os, h.tape, h.output, by rw [h.size]; exact Nat.le_refl _, fun i hi => h.block i (by omega) (by omega)⟩
/-- what the reference's Read leaves -/
def RReadPost (p B : Nat) (s : RS) (k : Int) (w : World) (e : Ending) (w' : World) : Prop :=
  ∃ Ab cb Al cl, e = .returned (vAgg (rdV k s).1 Ab cb Al cl) ∧ Sl .u8 w' w'.heap.size Ab (rdV k s).1.b.length (rdV k s).1.b ∧ Sl .i64 w' w'.heap.size Al (rdV k s).1.l.length (rdV k s).1.l ∧ RdR w' p B (rdV k s).2 ∧ w.grownBy w' (some p)

set_option maxHeartbeats 2000000 in
theorem rr_read (p B : Nat) (s : RS) (k : Int) (w : World) (h : RdR w p B s) (hk : 0 ≤ k ∧ k < 6) (hl : s.bs.length ≤ 1000000) :
    Calls Try.prog 23 #[.pointer (some ⟨p, 0, none⟩), .int .i64 k] w (RReadPost p B s k w) := by
  have hcase : k = 0 ∨ k = 1 ∨ k = 2 ∨ k = 3 ∨ k = 4 ∨ k = 5 := by omega
  clear hk
  have hpw := h.lt
  have hal : ∀ o1 o2 : Obj, Below w.heap.size w ((w.alloc o1).alloc o2) := fun _ _ => two_alloc _ _ _
  have HAL := Lib.hid hal
  have HR := Lib.hid h
  clear hal h
  rcases hcase with rfl | rfl | rfl | rfl | rfl | rfl
  · go_enter Try.func23, Try.ntmps23
    go_wp2_with fail
    refine (rr_uint p B s _ (Rd.below HR.out (HAL.out _ _)) hl).mono ?_
    rintro e w1 ⟨rfl, h1, hg1⟩
    have b4 : Blk5 w1 w.heap.size (.int .i64 0) (.int .u64 0) (.int .i64 0) (.slice none 0 0) (.slice none 0 0) := ((Blk5.new w _ _ _ _ _).below ((Below.refl _ _).alloc (Nat.le_refl _) _)).grown hg1 (fun e => by injection e with e; omega)
    have b5 : Blk5 w1 (w.heap.size + 1) (.int .i64 0) (.int .u64 0) (.int .i64 0) (.slice none 0 0) (.slice none 0 0) := by
      have := Blk5.new (w.alloc (.cells #[.int .i64 0, .int .u64 0, .int .i64 0, .slice none 0 0, .slice none 0 0] 28)) (.int .i64 0) (.int .u64 0) (.int .i64 0) (.slice none 0 0) (.slice none 0 0)
      rw [World.size_alloc] at this
      exact this.grown hg1 (fun e => by injection e with e; omega)
    have hgw : w.grownBy w1 (some p) := grown_trans (grown_below (HAL.out _ _) _) hg1
    have B4 := Lib.hid b4
    have B5 := Lib.hid b5
    have GW := Lib.hid hgw
    have H1 := Lib.hid h1
    clear h1 hg1 b4 b5 hgw
    have x0 := B5.out.c0
    have x1 := B5.out.c1
    have x2 := B5.out.c2
    have x3 := B5.out.c3
    have x4 := B5.out.c4
    have y0 := B4.out.c0
    have y1 := B4.out.c1
    have y2 := B4.out.c2
    have y3 := B4.out.c3
    have y4 := B4.out.c4
    have fx := B5.out.fr
    have fy := B4.out.fr
    go_wp2_with fail
    have ht : TwoB w.heap.size w1 ((((((w1.setCell ⟨w.heap.size + 1, 1, none⟩ (.int .u64 (rdU s).1)).setCell ⟨w.heap.size, 0, none⟩ (.int .i64 0)).setCell ⟨w.heap.size, 1, none⟩ (.int .u64 (rdU s).1)).setCell ⟨w.heap.size, 2, none⟩ (.int .i64 0)).setCell ⟨w.heap.size, 3, none⟩ (.slice none 0 0)).setCell ⟨w.heap.size, 4, none⟩ (.slice none 0 0)) :=
      ((((((TwoB.refl _ _).set _ _ _ (.inr rfl)).set _ _ _ (.inl rfl)).set _ _ _ (.inl rfl)).set _ _ _ (.inl rfl)).set _ _ _ (.inl rfl)).set _ _ _ (.inl rfl)
    have HT := Lib.hid ht
    clear ht
    refine bodyPost_ret (v := .agg #[.int .i64 0, (.int .u64 (rdU s).1), (.int .i64 0), (.slice none 0 0), (.slice none 0 0)]) (by simp [results, Try.results23, go_sem, y0, y1, y2, y3, y4]) rfl ?_
    exact ⟨none, 0, none, 0, rfl, Sl.nil _ _ _ _, Sl.nil _ _ _ _, HT.out.rd H1.out (by have := HR.out.size; omega) (by omega) (by omega), HT.out.grown GW.out (Nat.le_refl _)⟩
  · go_enter Try.func23, Try.ntmps23
    go_wp2_with fail
    refine (rr_int p B s _ (Rd.below HR.out (HAL.out _ _)) hl).mono ?_
    rintro e w1 ⟨rfl, h1, hg1⟩
    have b4 : Blk5 w1 w.heap.size (.int .i64 0) (.int .u64 0) (.int .i64 0) (.slice none 0 0) (.slice none 0 0) := ((Blk5.new w _ _ _ _ _).below ((Below.refl _ _).alloc (Nat.le_refl _) _)).grown hg1 (fun e => by injection e with e; omega)
    have b5 : Blk5 w1 (w.heap.size + 1) (.int .i64 1) (.int .u64 0) (.int .i64 0) (.slice none 0 0) (.slice none 0 0) := by
      have := Blk5.new (w.alloc (.cells #[.int .i64 0, .int .u64 0, .int .i64 0, .slice none 0 0, .slice none 0 0] 28)) (.int .i64 1) (.int .u64 0) (.int .i64 0) (.slice none 0 0) (.slice none 0 0)
      rw [World.size_alloc] at this
      exact this.grown hg1 (fun e => by injection e with e; omega)
    have hgw : w.grownBy w1 (some p) := grown_trans (grown_below (HAL.out _ _) _) hg1
    have B4 := Lib.hid b4
    have B5 := Lib.hid b5
    have GW := Lib.hid hgw
    have H1 := Lib.hid h1
    clear h1 hg1 b4 b5 hgw
    have x0 := B5.out.c0
    have x1 := B5.out.c1
    have x2 := B5.out.c2
    have x3 := B5.out.c3
    have x4 := B5.out.c4
    have y0 := B4.out.c0
    have y1 := B4.out.c1
    have y2 := B4.out.c2
    have y3 := B4.out.c3
    have y4 := B4.out.c4
    have fx := B5.out.fr
    have fy := B4.out.fr
    go_wp2_with fail
    have ht : TwoB w.heap.size w1 ((((((w1.setCell ⟨w.heap.size + 1, 2, none⟩ (.int .i64 (rdI s).1)).setCell ⟨w.heap.size, 0, none⟩ (.int .i64 1)).setCell ⟨w.heap.size, 1, none⟩ (.int .u64 0)).setCell ⟨w.heap.size, 2, none⟩ (.int .i64 (rdI s).1)).setCell ⟨w.heap.size, 3, none⟩ (.slice none 0 0)).setCell ⟨w.heap.size, 4, none⟩ (.slice none 0 0)) :=
      ((((((TwoB.refl _ _).set _ _ _ (.inr rfl)).set _ _ _ (.inl rfl)).set _ _ _ (.inl rfl)).set _ _ _ (.inl rfl)).set _ _ _ (.inl rfl)).set _ _ _ (.inl rfl)
    have HT := Lib.hid ht
    clear ht
    refine bodyPost_ret (v := .agg #[.int .i64 1, (.int .u64 0), (.int .i64 (rdI s).1), (.slice none 0 0), (.slice none 0 0)]) (by simp [results, Try.results23, go_sem, y0, y1, y2, y3, y4]) rfl ?_
    exact ⟨none, 0, none, 0, rfl, Sl.nil _ _ _ _, Sl.nil _ _ _ _, HT.out.rd H1.out (by have := HR.out.size; omega) (by omega) (by omega), HT.out.grown GW.out (Nat.le_refl _)⟩
  · go_enter Try.func23, Try.ntmps23
    go_wp2_with fail
    refine (rr_bool p B s _ (Rd.below HR.out (HAL.out _ _))).mono ?_
    rintro e w1 ⟨rfl, h1, hg1⟩
    have b4 : Blk5 w1 w.heap.size (.int .i64 0) (.int .u64 0) (.int .i64 0) (.slice none 0 0) (.slice none 0 0) := ((Blk5.new w _ _ _ _ _).below ((Below.refl _ _).alloc (Nat.le_refl _) _)).grown hg1 (fun e => by injection e with e; omega)
    have b5 : Blk5 w1 (w.heap.size + 1) (.int .i64 2) (.int .u64 0) (.int .i64 0) (.slice none 0 0) (.slice none 0 0) := by
      have := Blk5.new (w.alloc (.cells #[.int .i64 0, .int .u64 0, .int .i64 0, .slice none 0 0, .slice none 0 0] 28)) (.int .i64 2) (.int .u64 0) (.int .i64 0) (.slice none 0 0) (.slice none 0 0)
      rw [World.size_alloc] at this
      exact this.grown hg1 (fun e => by injection e with e; omega)
    have hgw : w.grownBy w1 (some p) := grown_trans (grown_below (HAL.out _ _) _) hg1
    have B4 := Lib.hid b4
    have B5 := Lib.hid b5
    have GW := Lib.hid hgw
    have H1 := Lib.hid h1
    clear h1 hg1 b4 b5 hgw
    have hV : rdV 2 s = (⟨2, 0, if (rdB s).1 then 1 else 0, [], []⟩, (rdB s).2) := rfl
    have HV := Lib.hid hV
    clear hV
    cases hbv : (rdB s).1
    · have HBV := Lib.hid hbv
      clear hbv
      have x0 := B5.out.c0
      have x1 := B5.out.c1
      have x2 := B5.out.c2
      have x3 := B5.out.c3
      have x4 := B5.out.c4
      have y0 := B4.out.c0
      have y1 := B4.out.c1
      have y2 := B4.out.c2
      have y3 := B4.out.c3
      have y4 := B4.out.c4
      have fx := B5.out.fr
      have fy := B4.out.fr
      go_wp2_with fail
      have ht : TwoB w.heap.size w1 (((((w1.setCell ⟨w.heap.size, 0, none⟩ (.int .i64 2)).setCell ⟨w.heap.size, 1, none⟩ (.int .u64 0)).setCell ⟨w.heap.size, 2, none⟩ (.int .i64 0)).setCell ⟨w.heap.size, 3, none⟩ (.slice none 0 0)).setCell ⟨w.heap.size, 4, none⟩ (.slice none 0 0)) :=
        ((((((TwoB.refl _ _).set _ _ _ (.inl rfl)).set _ _ _ (.inl rfl)).set _ _ _ (.inl rfl)).set _ _ _ (.inl rfl)).set _ _ _ (.inl rfl))
      have HT := Lib.hid ht
      clear ht
      refine bodyPost_ret (v := .agg #[.int .i64 2, (.int .u64 0), (.int .i64 0), (.slice none 0 0), (.slice none 0 0)]) (by simp [results, Try.results23, go_sem, y0, y1, y2, y3, y4]) rfl ?_
      unfold RReadPost
      rw [HV.out, HBV.out]
      exact ⟨none, 0, none, 0, rfl, Sl.nil _ _ _ _, Sl.nil _ _ _ _, HT.out.rd H1.out (by have := HR.out.size; omega) (by omega) (by omega), HT.out.grown GW.out (Nat.le_refl _)⟩
    · have HBV := Lib.hid hbv
      clear hbv
      have x0 := B5.out.c0
      have x1 := B5.out.c1
      have x2 := B5.out.c2
      have x3 := B5.out.c3
      have x4 := B5.out.c4
      have y0 := B4.out.c0
      have y1 := B4.out.c1
      have y2 := B4.out.c2
      have y3 := B4.out.c3
      have y4 := B4.out.c4
      have fx := B5.out.fr
      have fy := B4.out.fr
      go_wp2_with fail
      have ht : TwoB w.heap.size w1 ((((((w1.setCell ⟨w.heap.size + 1, 2, none⟩ (.int .i64 1)).setCell ⟨w.heap.size, 0, none⟩ (.int .i64 2)).setCell ⟨w.heap.size, 1, none⟩ (.int .u64 0)).setCell ⟨w.heap.size, 2, none⟩ (.int .i64 1)).setCell ⟨w.heap.size, 3, none⟩ (.slice none 0 0)).setCell ⟨w.heap.size, 4, none⟩ (.slice none 0 0)) :=
        (((((((TwoB.refl _ _).set _ _ _ (.inr rfl)).set _ _ _ (.inl rfl)).set _ _ _ (.inl rfl)).set _ _ _ (.inl rfl)).set _ _ _ (.inl rfl)).set _ _ _ (.inl rfl))
      have HT := Lib.hid ht
      clear ht
      refine bodyPost_ret (v := .agg #[.int .i64 2, (.int .u64 0), (.int .i64 1), (.slice none 0 0), (.slice none 0 0)]) (by simp [results, Try.results23, go_sem, y0, y1, y2, y3, y4]) rfl ?_
      unfold RReadPost
      rw [HV.out, HBV.out]
      exact ⟨none, 0, none, 0, rfl, Sl.nil _ _ _ _, Sl.nil _ _ _ _, HT.out.rd H1.out (by have := HR.out.size; omega) (by omega) (by omega), HT.out.grown GW.out (Nat.le_refl _)⟩
  · go_enter Try.func23, Try.ntmps23
    go_wp2_with fail
    refine (rr_raw p B s _ (Rd.below HR.out (HAL.out _ _)) hl).mono ?_
    rintro e w1 ⟨A1, c1, rfl, hown, h1, hg1⟩
    have b4 : Blk5 w1 w.heap.size (.int .i64 0) (.int .u64 0) (.int .i64 0) (.slice none 0 0) (.slice none 0 0) := ((Blk5.new w _ _ _ _ _).below ((Below.refl _ _).alloc (Nat.le_refl _) _)).grown hg1 (fun e => by injection e with e; omega)
    have b5 : Blk5 w1 (w.heap.size + 1) (.int .i64 3) (.int .u64 0) (.int .i64 0) (.slice none 0 0) (.slice none 0 0) := by
      have := Blk5.new (w.alloc (.cells #[.int .i64 0, .int .u64 0, .int .i64 0, .slice none 0 0, .slice none 0 0] 28)) (.int .i64 3) (.int .u64 0) (.int .i64 0) (.slice none 0 0) (.slice none 0 0)
      rw [World.size_alloc] at this
      exact this.grown hg1 (fun e => by injection e with e; omega)
    have hgw : w.grownBy w1 (some p) := grown_trans (grown_below (HAL.out _ _) _) hg1
    have B4 := Lib.hid b4
    have B5 := Lib.hid b5
    have GW := Lib.hid hgw
    have H1 := Lib.hid h1
    clear h1 hg1 b4 b5 hgw
    obtain ⟨l, hl'⟩ : ∃ l, l = (rdL rdO s).1 := ⟨_, rfl⟩
    obtain ⟨s', hs'⟩ : ∃ s', s' = (rdL rdO s).2 := ⟨_, rfl⟩
    have hV : rdV 3 s = (⟨3, 0, 0, l, []⟩, s') := by rw [hl', hs']; rfl
    rw [← hl'] at hown ⊢
    rw [← hs'] at H1
    have HV := Lib.hid hV
    have ROW := Lib.hid hown
    clear hV hl' hs' hown
    have x0 := B5.out.c0
    have x1 := B5.out.c1
    have x2 := B5.out.c2
    have x3 := B5.out.c3
    have x4 := B5.out.c4
    have y0 := B4.out.c0
    have y1 := B4.out.c1
    have y2 := B4.out.c2
    have y3 := B4.out.c3
    have y4 := B4.out.c4
    have fx := B5.out.fr
    have fy := B4.out.fr
    go_wp2_with fail
    have ht : TwoB w.heap.size w1 ((((((w1.setCell ⟨w.heap.size + 1, 3, none⟩ (.slice A1 l.length c1)).setCell ⟨w.heap.size, 0, none⟩ (.int .i64 3)).setCell ⟨w.heap.size, 1, none⟩ (.int .u64 0)).setCell ⟨w.heap.size, 2, none⟩ (.int .i64 0)).setCell ⟨w.heap.size, 3, none⟩ (.slice A1 l.length c1)).setCell ⟨w.heap.size, 4, none⟩ (.slice none 0 0)) :=
      (((((((TwoB.refl _ _).set _ _ _ (.inr rfl)).set _ _ _ (.inl rfl)).set _ _ _ (.inl rfl)).set _ _ _ (.inl rfl)).set _ _ _ (.inl rfl)).set _ _ _ (.inl rfl))
    have HT := Lib.hid ht
    clear ht
    refine bodyPost_ret (v := .agg #[.int .i64 3, (.int .u64 0), (.int .i64 0), (.slice A1 l.length c1), (.slice none 0 0)]) (by simp [results, Try.results23, go_sem, y0, y1, y2, y3, y4]) rfl ?_
    unfold RReadPost
    rw [HV.out]
    exact ⟨A1, c1, none, 0, rfl, (ROW.out.below (HT.out.below'.mono HR.out.size)).more (by rw [HT.out.size]; exact H1.out.size), Sl.nil _ _ _ _, HT.out.rd H1.out (by have := HR.out.size; omega) (by omega) (by omega), HT.out.grown GW.out (Nat.le_refl _)⟩
  · go_enter Try.func23, Try.ntmps23
    go_wp2_with fail
    refine (rr_raw p B s _ (Rd.below HR.out (HAL.out _ _)) hl).mono ?_
    rintro e w1 ⟨A1, c1, rfl, hown, h1, hg1⟩
    have b4 : Blk5 w1 w.heap.size (.int .i64 0) (.int .u64 0) (.int .i64 0) (.slice none 0 0) (.slice none 0 0) := ((Blk5.new w _ _ _ _ _).below ((Below.refl _ _).alloc (Nat.le_refl _) _)).grown hg1 (fun e => by injection e with e; omega)
    have b5 : Blk5 w1 (w.heap.size + 1) (.int .i64 4) (.int .u64 0) (.int .i64 0) (.slice none 0 0) (.slice none 0 0) := by
      have := Blk5.new (w.alloc (.cells #[.int .i64 0, .int .u64 0, .int .i64 0, .slice none 0 0, .slice none 0 0] 28)) (.int .i64 4) (.int .u64 0) (.int .i64 0) (.slice none 0 0) (.slice none 0 0)
      rw [World.size_alloc] at this
      exact this.grown hg1 (fun e => by injection e with e; omega)
    have hgw : w.grownBy w1 (some p) := grown_trans (grown_below (HAL.out _ _) _) hg1
    have B4 := Lib.hid b4
    have B5 := Lib.hid b5
    have GW := Lib.hid hgw
    have H1 := Lib.hid h1
    clear h1 hg1 b4 b5 hgw
    obtain ⟨l, hl'⟩ : ∃ l, l = (rdL rdO s).1 := ⟨_, rfl⟩
    obtain ⟨s', hs'⟩ : ∃ s', s' = (rdL rdO s).2 := ⟨_, rfl⟩
    have hV : rdV 4 s = (⟨4, 0, 0, l, []⟩, s') := by rw [hl', hs']; rfl
    rw [← hl'] at hown ⊢
    rw [← hs'] at H1
    have HV := Lib.hid hV
    have ROW := Lib.hid hown
    clear hV hl' hs' hown
    have x0 := B5.out.c0
    have x1 := B5.out.c1
    have x2 := B5.out.c2
    have x3 := B5.out.c3
    have x4 := B5.out.c4
    have y0 := B4.out.c0
    have y1 := B4.out.c1
    have y2 := B4.out.c2
    have y3 := B4.out.c3
    have y4 := B4.out.c4
    have fx := B5.out.fr
    have fy := B4.out.fr
    go_wp2_with fail
    have ht : TwoB w.heap.size w1 ((((((w1.setCell ⟨w.heap.size + 1, 3, none⟩ (.slice A1 l.length c1)).setCell ⟨w.heap.size, 0, none⟩ (.int .i64 4)).setCell ⟨w.heap.size, 1, none⟩ (.int .u64 0)).setCell ⟨w.heap.size, 2, none⟩ (.int .i64 0)).setCell ⟨w.heap.size, 3, none⟩ (.slice A1 l.length c1)).setCell ⟨w.heap.size, 4, none⟩ (.slice none 0 0)) :=
      (((((((TwoB.refl _ _).set _ _ _ (.inr rfl)).set _ _ _ (.inl rfl)).set _ _ _ (.inl rfl)).set _ _ _ (.inl rfl)).set _ _ _ (.inl rfl)).set _ _ _ (.inl rfl))
    have HT := Lib.hid ht
    clear ht
    refine bodyPost_ret (v := .agg #[.int .i64 4, (.int .u64 0), (.int .i64 0), (.slice A1 l.length c1), (.slice none 0 0)]) (by simp [results, Try.results23, go_sem, y0, y1, y2, y3, y4]) rfl ?_
    unfold RReadPost
    rw [HV.out]
    exact ⟨A1, c1, none, 0, rfl, (ROW.out.below (HT.out.below'.mono HR.out.size)).more (by rw [HT.out.size]; exact H1.out.size), Sl.nil _ _ _ _, HT.out.rd H1.out (by have := HR.out.size; omega) (by omega) (by omega), HT.out.grown GW.out (Nat.le_refl _)⟩
  · go_enter Try.func23, Try.ntmps23
    go_wp2_with fail
    refine (rr_ints p B s _ (Rd.below HR.out (HAL.out _ _)) hl).mono ?_
    rintro e w1 ⟨v, rfl, hown, h1, hg1⟩
    have b4 : Blk5 w1 w.heap.size (.int .i64 0) (.int .u64 0) (.int .i64 0) (.slice none 0 0) (.slice none 0 0) := ((Blk5.new w _ _ _ _ _).below ((Below.refl _ _).alloc (Nat.le_refl _) _)).grown hg1 (fun e => by injection e with e; omega)
    have b5 : Blk5 w1 (w.heap.size + 1) (.int .i64 5) (.int .u64 0) (.int .i64 0) (.slice none 0 0) (.slice none 0 0) := by
      have := Blk5.new (w.alloc (.cells #[.int .i64 0, .int .u64 0, .int .i64 0, .slice none 0 0, .slice none 0 0] 28)) (.int .i64 5) (.int .u64 0) (.int .i64 0) (.slice none 0 0) (.slice none 0 0)
      rw [World.size_alloc] at this
      exact this.grown hg1 (fun e => by injection e with e; omega)
    have hgw : w.grownBy w1 (some p) := grown_trans (grown_below (HAL.out _ _) _) hg1
    have B4 := Lib.hid b4
    have B5 := Lib.hid b5
    have GW := Lib.hid hgw
    have H1 := Lib.hid h1
    clear h1 hg1 b4 b5 hgw
    obtain ⟨l, hl'⟩ : ∃ l, l = (rdL rdI s).1 := ⟨_, rfl⟩
    obtain ⟨s', hs'⟩ : ∃ s', s' = (rdL rdI s).2 := ⟨_, rfl⟩
    have hV : rdV 5 s = (⟨5, 0, 0, [], l⟩, s') := by rw [hl', hs']; rfl
    rw [← hl'] at hown
    rw [← hs'] at H1
    have HV := Lib.hid hV
    obtain ⟨A1, c1, rfl, hrow⟩ := RowB.of_own (k := .i64) hown
    have ROW := Lib.hid hrow
    clear hV hl' hs' hown hrow
    have x0 := B5.out.c0
    have x1 := B5.out.c1
    have x2 := B5.out.c2
    have x3 := B5.out.c3
    have x4 := B5.out.c4
    have y0 := B4.out.c0
    have y1 := B4.out.c1
    have y2 := B4.out.c2
    have y3 := B4.out.c3
    have y4 := B4.out.c4
    have fx := B5.out.fr
    have fy := B4.out.fr
    go_wp2_with fail
    have ht : TwoB w.heap.size w1 ((((((w1.setCell ⟨w.heap.size + 1, 4, none⟩ (.slice A1 l.length c1)).setCell ⟨w.heap.size, 0, none⟩ (.int .i64 5)).setCell ⟨w.heap.size, 1, none⟩ (.int .u64 0)).setCell ⟨w.heap.size, 2, none⟩ (.int .i64 0)).setCell ⟨w.heap.size, 3, none⟩ (.slice none 0 0)).setCell ⟨w.heap.size, 4, none⟩ (.slice A1 l.length c1)) :=
      (((((((TwoB.refl _ _).set _ _ _ (.inr rfl)).set _ _ _ (.inl rfl)).set _ _ _ (.inl rfl)).set _ _ _ (.inl rfl)).set _ _ _ (.inl rfl)).set _ _ _ (.inl rfl))
    have HT := Lib.hid ht
    clear ht
    refine bodyPost_ret (v := .agg #[.int .i64 5, (.int .u64 0), (.int .i64 0), (.slice none 0 0), (.slice A1 l.length c1)]) (by simp [results, Try.results23, go_sem, y0, y1, y2, y3, y4]) rfl ?_
    unfold RReadPost
    rw [HV.out]
    exact ⟨none, 0, A1, c1, rfl, Sl.nil _ _ _ _, (HT.out.row (ROW.out.more (by rw [HT.out.size]; omega)) B4.out B5.out (by decide)).1, HT.out.rd H1.out (by have := HR.out.size; omega) (by omega) (by omega), HT.out.grown GW.out (Nat.le_refl _)⟩
end Go.Proofs.Ytjnjglkmabnlfaa
