/- The laws' function read. -/
import Derived.Test.YtjnjglkmabnlfaaValF
namespace Go.Proofs.Ytjnjglkmabnlfaa
open Go.RowKit
set_option linter.unusedVariables false

theorem conv_row {P : Program} (w : World) (src dst e : TypeId) (s : ByteArray) {u : TypeDesc} (hm : s.size ≤ maxLen)
    (hs : P.underlying src = some u) (hd : P.underlying dst = some (.slice e)) (he : P.underlying e = some (.int .u8)) :
    ∃ cap w1, (convert src dst (.string s)).run P w = .ok (.slice (some ⟨w.heap.size, 0, none⟩) s.size cap) w1 ∧ Below w.heap.size w w1 ∧ w.heap.size < w1.heap.size ∧
      RowB w1 w1.heap.size e .u8 (some ⟨w.heap.size, 0, none⟩) s.size cap (sB s) := by
  refine ⟨_, _, Lib.run_convert_string_bytes w src dst e s hs hd he, bytesWorld_below w e s, by rw [Lib.bytesWorld_size]; omega, ⟨sB_len s, .inr ⟨_, 0, rfl, by rw [Lib.bytesWorld_size]; omega, fun j hj => ?_⟩⟩, grownCap_ge w s.size 0 e, grownCap_le_maxLen w s.size 0 e hm, (fun h => by cases h), fun ad ha => ?_⟩
  · rw [Nat.zero_add, Lib.bytesWorld_cell w e s j hj, sB_at s j hj]
  · cases ha
    exact ⟨by rw [Lib.bytesWorld_size]; simp, _, _, Lib.bytesWorld_at_new w e s⟩

/-- only blocks q and q + 1 have turned -/
structure TwoB (q : Nat) (w W : World) : Prop where
  os : W.os = w.os
  tape : W.tape = w.tape
  output : W.output = w.output
  size : W.heap.size = w.heap.size
  block : ∀ i, i ≠ q → i ≠ q + 1 → W.heap[i]? = w.heap[i]?
theorem TwoB.refl (q : Nat) (w : World) : TwoB q w w := ⟨rfl, rfl, rfl, rfl, fun _ _ _ => rfl⟩
theorem TwoB.set {q : Nat} {w W : World} (h : TwoB q w W) (b o : Nat) (v : Value) (hb : b = q ∨ b = q + 1) : TwoB q w (W.setCell ⟨b, o, none⟩ v) :=
  ⟨h.os, h.tape, h.output, by simpa [World.setCell] using h.size, fun i h1 h2 => (Below.heap_setCell W ⟨b, o, none⟩ v i (by simp; omega)).trans (h.block i h1 h2)⟩
theorem TwoB.grown {q p : Nat} {w0 w W : World} (h : TwoB q w W) (hg : w0.grownBy w (some p)) (hq : w0.heap.size ≤ q) : w0.grownBy W (some p) :=
  ⟨h.os.trans hg.os, h.tape.trans hg.tape, h.output.trans hg.output, by rw [h.size]; exact hg.size, fun i hi hn => (h.block i (by omega) (by omega)).trans (hg.block i hi hn)⟩
theorem TwoB.rd {q p B : Nat} {w W : World} {t : TypeId} {s : RS} (h : TwoB q w W) (hr : Rd t w p B s) (hB : B ≤ q) (h1 : p ≠ q) (h2 : p ≠ q + 1) : Rd t W p B s := by
  obtain ⟨A, n, c, k1, k2, k3, k4, k5, k6, k7⟩ := hr
  have hb : Below B w W := ⟨h.os, h.tape, h.output, by rw [h.size]; omega, fun i hi => h.block i (by omega) (by omega)⟩
  exact ⟨A, n, c, (h.block p h1 h2).trans k1, k2, k3, k4, fun h0 => (k5 h0).below hb, k6, by rw [h.size]; exact k7⟩
theorem TwoB.row {q B n c : Nat} {w W : World} {e : TypeId} {k : IntKind} {A : Option Addr} {zs : List Int} {a0 a1 a2 a3 a4 b0 b1 b2 b3 b4 : Value} (h : TwoB q w W) (hr : RowB w B e k A n c zs)
    (hq : Blk5 w q a0 a1 a2 a3 a4) (hq1 : Blk5 w (q + 1) b0 b1 b2 b3 b4) (hne : 28 ≠ e) : RowB W B e k A n c zs := by
  have hk : ∀ ad, A = some ad → W.heap[ad.block]? = w.heap[ad.block]? := fun ad ha => by
    obtain ⟨_, cur, fr, h2⟩ := hr.2.2.2.2 ad ha
    refine h.block _ (fun e' => ?_) (fun e' => ?_)
    · rw [e', show w.heap[q]? = _ from hq] at h2
      simp at h2
      exact hne h2.2.1
    · rw [e', show w.heap[q + 1]? = _ from hq1] at h2
      simp at h2
      exact hne h2.2.1
  refine ⟨⟨hr.1.1, ?_⟩, hr.2.1, hr.2.2.1, hr.2.2.2.1, fun ad ha => ?_⟩
  · rcases hr.1.2 with h0 | ⟨b, off, rfl, hlt, hcl⟩
    · exact .inl h0
    · exact .inr ⟨b, off, rfl, hlt, fun j hj => (World.cell?_of_block (a := ⟨b, off + j, none⟩) (hk ⟨b, off, none⟩ rfl)).trans (hcl j hj)⟩
  · obtain ⟨h1, cur, fr, h2⟩ := hr.2.2.2.2 ad ha
    exact ⟨h1, cur, fr, (hk ad ha).trans h2⟩

theorem rdN_O_len : ∀ (k : Nat) (acc : List Int) (s : RS), s.ok → (rdN rdO k acc s).1.length ≤ acc.length + s.bs.length := by
  intro k
  induction k with
  | zero => intro acc s _; simp [rdN]
  | succ k ih =>
    intro acc s hs
    by_cases h : (rdO s).2.er = 0
    · rw [rdN_step _ _ _ _ h]
      have h1 := ih (acc ++ [(rdO s).1]) _ (rdO_ok s hs).2.1
      obtain ⟨_, h2⟩ := rdO_one s h
      have h3 := congrArg List.length h2
      simp only [List.length_append, List.length_cons, List.length_nil] at h1 h3
      omega
    · rw [rdN_fail _ _ _ _ h]; simp
theorem rdL_len (s : RS) (hs : s.ok) : (rdL rdO s).1.length ≤ s.bs.length := by
  obtain ⟨_, h2, h3, _⟩ := rdU_ok s hs
  unfold rdL
  split
  · split
    · have := rdN_O_len (rdU s).1.toNat [] (rdU s).2 h2
      simp only [List.length_nil] at this
      omega
    · simp
  · simp

/-- what read leaves -/
def ReadPost (p B : Nat) (s : RS) (k : Int) (w : World) (e : Ending) (w' : World) : Prop :=
  ∃ Ab cb Al cl, e = .returned (vAgg (rdV k s).1 Ab cb Al cl) ∧ VOk w' w'.heap.size (rdV k s).1 Ab cb Al cl ∧ RdW w' p B (rdV k s).2 ∧ w.grownBy w' (some p)

set_option maxHeartbeats 2000000 in
theorem read_any (p B : Nat) (s : RS) (k : Int) (w : World) (h : RdW w p B s) (hk : 0 ≤ k ∧ k < 6) (hl : s.bs.length ≤ 1000000) :
    Calls Try.prog 22 #[.pointer (some ⟨p, 0, none⟩), .int .i64 k] w (ReadPost p B s k w) := by
  have hcase : k = 0 ∨ k = 1 ∨ k = 2 ∨ k = 3 ∨ k = 4 ∨ k = 5 := by omega
  clear hk
  have hpw := h.lt
  have hal : ∀ o1 o2 : Obj, Below w.heap.size w ((w.alloc o1).alloc o2) := fun _ _ => two_alloc _ _ _
  have HAL := Lib.hid hal
  have HR := Lib.hid h
  clear hal h
  rcases hcase with rfl | rfl | rfl | rfl | rfl | rfl
  · go_enter Try.func22, Try.ntmps22
    go_wp2_with fail
    refine (r_uint p B s _ (Rd.below HR.out (HAL.out _ _))).mono ?_
    rintro e w1 ⟨rfl, h1, hg1⟩
    have b4 : Blk5 w1 w.heap.size (.int .i64 0) (.int .u64 0) (.int .i64 0) (.slice none 0 0) (.slice none 0 0) := ((Blk5.new w _ _ _ _ _).below ((Below.refl _ _).alloc (Nat.le_refl _) _)).grown hg1 (fun e => by injection e with e; omega)
    have b5 : Blk5 w1 (w.heap.size + 1) (.int .i64 0) (.int .u64 0) (.int .i64 0) (.slice none 0 0) (.slice none 0 0) := by
      have := Blk5.new (w.alloc (.cells #[.int .i64 0, .int .u64 0, .int .i64 0, .slice none 0 0, .slice none 0 0] 28)) (.int .i64 0) (.int .u64 0) (.int .i64 0) (.slice none 0 0) (.slice none 0 0)
      rw [World.size_alloc] at this
      exact this.grown hg1 (fun e => by injection e with e; omega)
    have hgw : w.grownBy w1 (some p) := grown_trans (grown_below (HAL.out _ _) _) hg1
    have B4 := Lib.hid b4
    have B5 := Lib.hid b5
    have GW := Lib.hid hgw
    have H1 := Lib.hid h1
    clear h1 hg1 b4 b5 hgw
    have x0 := B5.out.c0
    have x1 := B5.out.c1
    have x2 := B5.out.c2
    have x3 := B5.out.c3
    have x4 := B5.out.c4
    have y0 := B4.out.c0
    have y1 := B4.out.c1
    have y2 := B4.out.c2
    have y3 := B4.out.c3
    have y4 := B4.out.c4
    have fx := B5.out.fr
    have fy := B4.out.fr
    go_wp2_with fail
    have ht : TwoB w.heap.size w1 ((((((w1.setCell ⟨w.heap.size + 1, 1, none⟩ (.int .u64 (rdU s).1)).setCell ⟨w.heap.size, 0, none⟩ (.int .i64 0)).setCell ⟨w.heap.size, 1, none⟩ (.int .u64 (rdU s).1)).setCell ⟨w.heap.size, 2, none⟩ (.int .i64 0)).setCell ⟨w.heap.size, 3, none⟩ (.slice none 0 0)).setCell ⟨w.heap.size, 4, none⟩ (.slice none 0 0)) :=
      ((((((TwoB.refl _ _).set _ _ _ (.inr rfl)).set _ _ _ (.inl rfl)).set _ _ _ (.inl rfl)).set _ _ _ (.inl rfl)).set _ _ _ (.inl rfl)).set _ _ _ (.inl rfl)
    have HT := Lib.hid ht
    clear ht
    refine bodyPost_ret (v := .agg #[.int .i64 0, (.int .u64 (rdU s).1), (.int .i64 0), (.slice none 0 0), (.slice none 0 0)]) (by simp [results, Try.results22, go_sem, y0, y1, y2, y3, y4]) rfl ?_
    exact ⟨none, 0, none, 0, rfl, ⟨RowB.nil, RowB.nil⟩, HT.out.rd H1.out (by have := HR.out.size; omega) (by omega) (by omega), HT.out.grown GW.out (Nat.le_refl _)⟩
  · go_enter Try.func22, Try.ntmps22
    go_wp2_with fail
    refine (r_int p B s _ (Rd.below HR.out (HAL.out _ _))).mono ?_
    rintro e w1 ⟨rfl, h1, hg1⟩
    have b4 : Blk5 w1 w.heap.size (.int .i64 0) (.int .u64 0) (.int .i64 0) (.slice none 0 0) (.slice none 0 0) := ((Blk5.new w _ _ _ _ _).below ((Below.refl _ _).alloc (Nat.le_refl _) _)).grown hg1 (fun e => by injection e with e; omega)
    have b5 : Blk5 w1 (w.heap.size + 1) (.int .i64 1) (.int .u64 0) (.int .i64 0) (.slice none 0 0) (.slice none 0 0) := by
      have := Blk5.new (w.alloc (.cells #[.int .i64 0, .int .u64 0, .int .i64 0, .slice none 0 0, .slice none 0 0] 28)) (.int .i64 1) (.int .u64 0) (.int .i64 0) (.slice none 0 0) (.slice none 0 0)
      rw [World.size_alloc] at this
      exact this.grown hg1 (fun e => by injection e with e; omega)
    have hgw : w.grownBy w1 (some p) := grown_trans (grown_below (HAL.out _ _) _) hg1
    have B4 := Lib.hid b4
    have B5 := Lib.hid b5
    have GW := Lib.hid hgw
    have H1 := Lib.hid h1
    clear h1 hg1 b4 b5 hgw
    have x0 := B5.out.c0
    have x1 := B5.out.c1
    have x2 := B5.out.c2
    have x3 := B5.out.c3
    have x4 := B5.out.c4
    have y0 := B4.out.c0
    have y1 := B4.out.c1
    have y2 := B4.out.c2
    have y3 := B4.out.c3
    have y4 := B4.out.c4
    have fx := B5.out.fr
    have fy := B4.out.fr
    go_wp2_with fail
    have ht : TwoB w.heap.size w1 ((((((w1.setCell ⟨w.heap.size + 1, 2, none⟩ (.int .i64 (rdI s).1)).setCell ⟨w.heap.size, 0, none⟩ (.int .i64 1)).setCell ⟨w.heap.size, 1, none⟩ (.int .u64 0)).setCell ⟨w.heap.size, 2, none⟩ (.int .i64 (rdI s).1)).setCell ⟨w.heap.size, 3, none⟩ (.slice none 0 0)).setCell ⟨w.heap.size, 4, none⟩ (.slice none 0 0)) :=
      ((((((TwoB.refl _ _).set _ _ _ (.inr rfl)).set _ _ _ (.inl rfl)).set _ _ _ (.inl rfl)).set _ _ _ (.inl rfl)).set _ _ _ (.inl rfl)).set _ _ _ (.inl rfl)
    have HT := Lib.hid ht
    clear ht
    refine bodyPost_ret (v := .agg #[.int .i64 1, (.int .u64 0), (.int .i64 (rdI s).1), (.slice none 0 0), (.slice none 0 0)]) (by simp [results, Try.results22, go_sem, y0, y1, y2, y3, y4]) rfl ?_
    exact ⟨none, 0, none, 0, rfl, ⟨RowB.nil, RowB.nil⟩, HT.out.rd H1.out (by have := HR.out.size; omega) (by omega) (by omega), HT.out.grown GW.out (Nat.le_refl _)⟩
  · go_enter Try.func22, Try.ntmps22
    go_wp2_with fail
    refine (r_bool p B s _ (Rd.below HR.out (HAL.out _ _))).mono ?_
    rintro e w1 ⟨rfl, h1, hg1⟩
    have b4 : Blk5 w1 w.heap.size (.int .i64 0) (.int .u64 0) (.int .i64 0) (.slice none 0 0) (.slice none 0 0) := ((Blk5.new w _ _ _ _ _).below ((Below.refl _ _).alloc (Nat.le_refl _) _)).grown hg1 (fun e => by injection e with e; omega)
    have b5 : Blk5 w1 (w.heap.size + 1) (.int .i64 2) (.int .u64 0) (.int .i64 0) (.slice none 0 0) (.slice none 0 0) := by
      have := Blk5.new (w.alloc (.cells #[.int .i64 0, .int .u64 0, .int .i64 0, .slice none 0 0, .slice none 0 0] 28)) (.int .i64 2) (.int .u64 0) (.int .i64 0) (.slice none 0 0) (.slice none 0 0)
      rw [World.size_alloc] at this
      exact this.grown hg1 (fun e => by injection e with e; omega)
    have hgw : w.grownBy w1 (some p) := grown_trans (grown_below (HAL.out _ _) _) hg1
    have B4 := Lib.hid b4
    have B5 := Lib.hid b5
    have GW := Lib.hid hgw
    have H1 := Lib.hid h1
    clear h1 hg1 b4 b5 hgw
    have hV : rdV 2 s = (⟨2, 0, if (rdB s).1 then 1 else 0, [], []⟩, (rdB s).2) := rfl
    have HV := Lib.hid hV
    clear hV
    cases hbv : (rdB s).1
    · have HBV := Lib.hid hbv
      clear hbv
      have x0 := B5.out.c0
      have x1 := B5.out.c1
      have x2 := B5.out.c2
      have x3 := B5.out.c3
      have x4 := B5.out.c4
      have y0 := B4.out.c0
      have y1 := B4.out.c1
      have y2 := B4.out.c2
      have y3 := B4.out.c3
      have y4 := B4.out.c4
      have fx := B5.out.fr
      have fy := B4.out.fr
      go_wp2_with fail
      have ht : TwoB w.heap.size w1 (((((w1.setCell ⟨w.heap.size, 0, none⟩ (.int .i64 2)).setCell ⟨w.heap.size, 1, none⟩ (.int .u64 0)).setCell ⟨w.heap.size, 2, none⟩ (.int .i64 0)).setCell ⟨w.heap.size, 3, none⟩ (.slice none 0 0)).setCell ⟨w.heap.size, 4, none⟩ (.slice none 0 0)) :=
        ((((((TwoB.refl _ _).set _ _ _ (.inl rfl)).set _ _ _ (.inl rfl)).set _ _ _ (.inl rfl)).set _ _ _ (.inl rfl)).set _ _ _ (.inl rfl))
      have HT := Lib.hid ht
      clear ht
      refine bodyPost_ret (v := .agg #[.int .i64 2, (.int .u64 0), (.int .i64 0), (.slice none 0 0), (.slice none 0 0)]) (by simp [results, Try.results22, go_sem, y0, y1, y2, y3, y4]) rfl ?_
      unfold ReadPost
      rw [HV.out, HBV.out]
      exact ⟨none, 0, none, 0, rfl, ⟨RowB.nil, RowB.nil⟩, HT.out.rd H1.out (by have := HR.out.size; omega) (by omega) (by omega), HT.out.grown GW.out (Nat.le_refl _)⟩
    · have HBV := Lib.hid hbv
      clear hbv
      have x0 := B5.out.c0
      have x1 := B5.out.c1
      have x2 := B5.out.c2
      have x3 := B5.out.c3
      have x4 := B5.out.c4
      have y0 := B4.out.c0
      have y1 := B4.out.c1
      have y2 := B4.out.c2
      have y3 := B4.out.c3
      have y4 := B4.out.c4
      have fx := B5.out.fr
      have fy := B4.out.fr
      go_wp2_with fail
      have ht : TwoB w.heap.size w1 ((((((w1.setCell ⟨w.heap.size + 1, 2, none⟩ (.int .i64 1)).setCell ⟨w.heap.size, 0, none⟩ (.int .i64 2)).setCell ⟨w.heap.size, 1, none⟩ (.int .u64 0)).setCell ⟨w.heap.size, 2, none⟩ (.int .i64 1)).setCell ⟨w.heap.size, 3, none⟩ (.slice none 0 0)).setCell ⟨w.heap.size, 4, none⟩ (.slice none 0 0)) :=
        (((((((TwoB.refl _ _).set _ _ _ (.inr rfl)).set _ _ _ (.inl rfl)).set _ _ _ (.inl rfl)).set _ _ _ (.inl rfl)).set _ _ _ (.inl rfl)).set _ _ _ (.inl rfl))
      have HT := Lib.hid ht
      clear ht
      refine bodyPost_ret (v := .agg #[.int .i64 2, (.int .u64 0), (.int .i64 1), (.slice none 0 0), (.slice none 0 0)]) (by simp [results, Try.results22, go_sem, y0, y1, y2, y3, y4]) rfl ?_
      unfold ReadPost
      rw [HV.out, HBV.out]
      exact ⟨none, 0, none, 0, rfl, ⟨RowB.nil, RowB.nil⟩, HT.out.rd H1.out (by have := HR.out.size; omega) (by omega) (by omega), HT.out.grown GW.out (Nat.le_refl _)⟩
  · go_enter Try.func22, Try.ntmps22
    go_wp2_with fail
    refine (r_text p B s _ (Rd.below HR.out (HAL.out _ _)) hl).mono ?_
    rintro e w1 ⟨rfl, h1, hg1⟩
    have b4 : Blk5 w1 w.heap.size (.int .i64 0) (.int .u64 0) (.int .i64 0) (.slice none 0 0) (.slice none 0 0) := ((Blk5.new w _ _ _ _ _).below ((Below.refl _ _).alloc (Nat.le_refl _) _)).grown hg1 (fun e => by injection e with e; omega)
    have b5 : Blk5 w1 (w.heap.size + 1) (.int .i64 3) (.int .u64 0) (.int .i64 0) (.slice none 0 0) (.slice none 0 0) := by
      have := Blk5.new (w.alloc (.cells #[.int .i64 0, .int .u64 0, .int .i64 0, .slice none 0 0, .slice none 0 0] 28)) (.int .i64 3) (.int .u64 0) (.int .i64 0) (.slice none 0 0) (.slice none 0 0)
      rw [World.size_alloc] at this
      exact this.grown hg1 (fun e => by injection e with e; omega)
    have hgw : w.grownBy w1 (some p) := grown_trans (grown_below (HAL.out _ _) _) hg1
    have B4 := Lib.hid b4
    have B5 := Lib.hid b5
    have GW := Lib.hid hgw
    have H1 := Lib.hid h1
    clear h1 hg1 b4 b5 hgw
    have hby := rdL_byte s HR.out.ok
    obtain ⟨l, hl'⟩ : ∃ l, l = (rdL rdO s).1 := ⟨_, rfl⟩
    obtain ⟨s', hs'⟩ : ∃ s', s' = (rdL rdO s).2 := ⟨_, rfl⟩
    have hV : rdV 3 s = (⟨3, 0, 0, l, []⟩, s') := by rw [hl', hs']; rfl
    rw [← hl'] at hby ⊢
    rw [← hs'] at H1
    have HV := Lib.hid hV
    have hll : l.length ≤ 1000000 := by
      have := rdL_len s HR.out.ok; rw [← hl'] at this; omega
    clear hV hl' hs'
    obtain ⟨cap, w2, hconv, hb2, hsz2, hrow⟩ := conv_row (P := Try.prog) w1 9 24 5 (strOf l) (by rw [strOf_size]; unfold maxLen; omega) Try.underlying9 Try.underlying24 Try.underlying5
    rw [sB_strOf l hby, strOf_size] at hrow
    rw [strOf_size] at hconv
    have B4' := Lib.hid (B4.out.below hb2)
    have B5' := Lib.hid (B5.out.below hb2)
    have GW' := Lib.hid (grown_trans GW.out (grown_below hb2 (some p)))
    have H1' := Lib.hid (Rd.below H1.out hb2)
    have ROW := Lib.hid hrow
    clear hb2 hrow hby
    have x0 := B5'.out.c0
    have x1 := B5'.out.c1
    have x2 := B5'.out.c2
    have x3 := B5'.out.c3
    have x4 := B5'.out.c4
    have y0 := B4'.out.c0
    have y1 := B4'.out.c1
    have y2 := B4'.out.c2
    have y3 := B4'.out.c3
    have y4 := B4'.out.c4
    have fx := B5'.out.fr
    have fy := B4'.out.fr
    go_wp2_with fail
    have ht : TwoB w.heap.size w2 ((((((w2.setCell ⟨w.heap.size + 1, 3, none⟩ (.slice (some ⟨w1.heap.size, 0, none⟩) l.length cap)).setCell ⟨w.heap.size, 0, none⟩ (.int .i64 3)).setCell ⟨w.heap.size, 1, none⟩ (.int .u64 0)).setCell ⟨w.heap.size, 2, none⟩ (.int .i64 0)).setCell ⟨w.heap.size, 3, none⟩ (.slice (some ⟨w1.heap.size, 0, none⟩) l.length cap)).setCell ⟨w.heap.size, 4, none⟩ (.slice none 0 0)) :=
      (((((((TwoB.refl _ _).set _ _ _ (.inr rfl)).set _ _ _ (.inl rfl)).set _ _ _ (.inl rfl)).set _ _ _ (.inl rfl)).set _ _ _ (.inl rfl)).set _ _ _ (.inl rfl))
    have HT := Lib.hid ht
    clear ht
    refine bodyPost_ret (v := .agg #[.int .i64 3, (.int .u64 0), (.int .i64 0), (.slice (some ⟨w1.heap.size, 0, none⟩) l.length cap), (.slice none 0 0)]) (by simp [results, Try.results22, go_sem, y0, y1, y2, y3, y4]) rfl ?_
    unfold ReadPost
    rw [HV.out]
    exact ⟨some ⟨w1.heap.size, 0, none⟩, cap, none, 0, rfl, ⟨HT.out.row (ROW.out.more (by rw [HT.out.size]; omega)) B4'.out B5'.out (by decide), RowB.nil⟩, HT.out.rd H1'.out (by have := HR.out.size; omega) (by omega) (by omega), HT.out.grown GW'.out (Nat.le_refl _)⟩
  · go_enter Try.func22, Try.ntmps22
    go_wp2_with fail
    refine (r_raw p B s _ (Rd.below HR.out (HAL.out _ _)) hl).mono ?_
    rintro e w1 ⟨v, rfl, hown, h1, hg1⟩
    have b4 : Blk5 w1 w.heap.size (.int .i64 0) (.int .u64 0) (.int .i64 0) (.slice none 0 0) (.slice none 0 0) := ((Blk5.new w _ _ _ _ _).below ((Below.refl _ _).alloc (Nat.le_refl _) _)).grown hg1 (fun e => by injection e with e; omega)
    have b5 : Blk5 w1 (w.heap.size + 1) (.int .i64 4) (.int .u64 0) (.int .i64 0) (.slice none 0 0) (.slice none 0 0) := by
      have := Blk5.new (w.alloc (.cells #[.int .i64 0, .int .u64 0, .int .i64 0, .slice none 0 0, .slice none 0 0] 28)) (.int .i64 4) (.int .u64 0) (.int .i64 0) (.slice none 0 0) (.slice none 0 0)
      rw [World.size_alloc] at this
      exact this.grown hg1 (fun e => by injection e with e; omega)
    have hgw : w.grownBy w1 (some p) := grown_trans (grown_below (HAL.out _ _) _) hg1
    have B4 := Lib.hid b4
    have B5 := Lib.hid b5
    have GW := Lib.hid hgw
    have H1 := Lib.hid h1
    clear h1 hg1 b4 b5 hgw
    obtain ⟨l, hl'⟩ : ∃ l, l = (rdL rdO s).1 := ⟨_, rfl⟩
    obtain ⟨s', hs'⟩ : ∃ s', s' = (rdL rdO s).2 := ⟨_, rfl⟩
    have hV : rdV 4 s = (⟨4, 0, 0, l, []⟩, s') := by rw [hl', hs']; rfl
    rw [← hl'] at hown
    rw [← hs'] at H1
    have HV := Lib.hid hV
    obtain ⟨A1, c1, rfl, hrow⟩ := RowB.of_own (k := .u8) hown
    have ROW := Lib.hid hrow
    clear hV hl' hs' hown hrow
    have x0 := B5.out.c0
    have x1 := B5.out.c1
    have x2 := B5.out.c2
    have x3 := B5.out.c3
    have x4 := B5.out.c4
    have y0 := B4.out.c0
    have y1 := B4.out.c1
    have y2 := B4.out.c2
    have y3 := B4.out.c3
    have y4 := B4.out.c4
    have fx := B5.out.fr
    have fy := B4.out.fr
    go_wp2_with fail
    have ht : TwoB w.heap.size w1 ((((((w1.setCell ⟨w.heap.size + 1, 3, none⟩ (.slice A1 l.length c1)).setCell ⟨w.heap.size, 0, none⟩ (.int .i64 4)).setCell ⟨w.heap.size, 1, none⟩ (.int .u64 0)).setCell ⟨w.heap.size, 2, none⟩ (.int .i64 0)).setCell ⟨w.heap.size, 3, none⟩ (.slice A1 l.length c1)).setCell ⟨w.heap.size, 4, none⟩ (.slice none 0 0)) :=
      (((((((TwoB.refl _ _).set _ _ _ (.inr rfl)).set _ _ _ (.inl rfl)).set _ _ _ (.inl rfl)).set _ _ _ (.inl rfl)).set _ _ _ (.inl rfl)).set _ _ _ (.inl rfl))
    have HT := Lib.hid ht
    clear ht
    refine bodyPost_ret (v := .agg #[.int .i64 4, (.int .u64 0), (.int .i64 0), (.slice A1 l.length c1), (.slice none 0 0)]) (by simp [results, Try.results22, go_sem, y0, y1, y2, y3, y4]) rfl ?_
    unfold ReadPost
    rw [HV.out]
    exact ⟨A1, c1, none, 0, rfl, ⟨HT.out.row (ROW.out.more (by rw [HT.out.size]; omega)) B4.out B5.out (by decide), RowB.nil⟩, HT.out.rd H1.out (by have := HR.out.size; omega) (by omega) (by omega), HT.out.grown GW.out (Nat.le_refl _)⟩
  · go_enter Try.func22, Try.ntmps22
    go_wp2_with fail
    refine (r_ints p B s _ (Rd.below HR.out (HAL.out _ _)) hl).mono ?_
    rintro e w1 ⟨v, rfl, hown, h1, hg1⟩
    have b4 : Blk5 w1 w.heap.size (.int .i64 0) (.int .u64 0) (.int .i64 0) (.slice none 0 0) (.slice none 0 0) := ((Blk5.new w _ _ _ _ _).below ((Below.refl _ _).alloc (Nat.le_refl _) _)).grown hg1 (fun e => by injection e with e; omega)
    have b5 : Blk5 w1 (w.heap.size + 1) (.int .i64 5) (.int .u64 0) (.int .i64 0) (.slice none 0 0) (.slice none 0 0) := by
      have := Blk5.new (w.alloc (.cells #[.int .i64 0, .int .u64 0, .int .i64 0, .slice none 0 0, .slice none 0 0] 28)) (.int .i64 5) (.int .u64 0) (.int .i64 0) (.slice none 0 0) (.slice none 0 0)
      rw [World.size_alloc] at this
      exact this.grown hg1 (fun e => by injection e with e; omega)
    have hgw : w.grownBy w1 (some p) := grown_trans (grown_below (HAL.out _ _) _) hg1
    have B4 := Lib.hid b4
    have B5 := Lib.hid b5
    have GW := Lib.hid hgw
    have H1 := Lib.hid h1
    clear h1 hg1 b4 b5 hgw
    obtain ⟨l, hl'⟩ : ∃ l, l = (rdL rdI s).1 := ⟨_, rfl⟩
    obtain ⟨s', hs'⟩ : ∃ s', s' = (rdL rdI s).2 := ⟨_, rfl⟩
    have hV : rdV 5 s = (⟨5, 0, 0, [], l⟩, s') := by rw [hl', hs']; rfl
    rw [← hl'] at hown
    rw [← hs'] at H1
    have HV := Lib.hid hV
    obtain ⟨A1, c1, rfl, hrow⟩ := RowB.of_own (k := .i64) hown
    have ROW := Lib.hid hrow
    clear hV hl' hs' hown hrow
    have x0 := B5.out.c0
    have x1 := B5.out.c1
    have x2 := B5.out.c2
    have x3 := B5.out.c3
    have x4 := B5.out.c4
    have y0 := B4.out.c0
    have y1 := B4.out.c1
    have y2 := B4.out.c2
    have y3 := B4.out.c3
    have y4 := B4.out.c4
    have fx := B5.out.fr
    have fy := B4.out.fr
    go_wp2_with fail
    have ht : TwoB w.heap.size w1 ((((((w1.setCell ⟨w.heap.size + 1, 4, none⟩ (.slice A1 l.length c1)).setCell ⟨w.heap.size, 0, none⟩ (.int .i64 5)).setCell ⟨w.heap.size, 1, none⟩ (.int .u64 0)).setCell ⟨w.heap.size, 2, none⟩ (.int .i64 0)).setCell ⟨w.heap.size, 3, none⟩ (.slice none 0 0)).setCell ⟨w.heap.size, 4, none⟩ (.slice A1 l.length c1)) :=
      (((((((TwoB.refl _ _).set _ _ _ (.inr rfl)).set _ _ _ (.inl rfl)).set _ _ _ (.inl rfl)).set _ _ _ (.inl rfl)).set _ _ _ (.inl rfl)).set _ _ _ (.inl rfl))
    have HT := Lib.hid ht
    clear ht
    refine bodyPost_ret (v := .agg #[.int .i64 5, (.int .u64 0), (.int .i64 0), (.slice none 0 0), (.slice A1 l.length c1)]) (by simp [results, Try.results22, go_sem, y0, y1, y2, y3, y4]) rfl ?_
    unfold ReadPost
    rw [HV.out]
    exact ⟨none, 0, A1, c1, rfl, ⟨RowB.nil, HT.out.row (ROW.out.more (by rw [HT.out.size]; omega)) B4.out B5.out (by decide)⟩, HT.out.rd H1.out (by have := HR.out.size; omega) (by omega) (by omega), HT.out.grown GW.out (Nat.le_refl _)⟩
end Go.Proofs.Ytjnjglkmabnlfaa
