/- Contracts of package frac: Pow. · Layer 4's laws: lives. -/
import Derived.Test.YtocooajlfpngdaaGreatDoorB37
import Derived.Test.YtocooajlfpngdaaGreatDoorB41
import Derived.Test.YtocooajlfpngdaaGreatDoorB38
namespace Go.Proofs.YtocooajlfpngdaaGreatDoor
open Go.RowKit
set_option linter.unusedVariables false

set_option maxRecDepth 100000 in
set_option maxHeartbeats 4000000 in
theorem pow_tt (a : Rat) (u : Value) (w : World) (ha : RepF w w.heap.size a u) (ia : InF a) (n : Int) (h0 : 0 ≤ n) (hn : n ≤ 9223372036854775807) (hp : ((a.num ^ n.toNat).natAbs : Int) < lim) (hq : (((a.den : Int) ^ n.toNat).natAbs : Int) < lim) :
    Calls Tryz.prog 39 #[u, .int .i64 n] w (NewFE (a ^ n.toNat) 0 w) := by
  replace ia := Lib.hid ia
  replace hp := Lib.hid hp
  replace hq := Lib.hid hq
  have hnn : ¬ n < 0 := by omega
  have HN := Lib.hid hn
  have HZ := Lib.hid h0
  have HB := Lib.hid (Below.refl w.heap.size w)
  obtain ⟨da, Aa, na, ca, ea, Ea, ma, fa, rfl⟩ := ha.shape
  have Va := Lib.hid ha
  clear ha
  go_enter Tryz.func39, Tryz.ntmps39
  have h := HoldQ.new Va.out
  have b := al_below w (.cells #[.bool da, .slice Aa na ca, .bool ea, .slice Ea ma fa] 36)
  replace HB := Lib.hid (bstep HB.out b)
  clear b
  have Ha := Lib.hid h
  clear h Va
  have h := Blk4.new (w.alloc (.cells #[.bool da, .slice Aa na ca, .bool ea, .slice Ea ma fa] 36)) 36 (.bool false) (.slice none 0 0) (.bool false) (.slice none 0 0)
  simp only [World.size_alloc] at h
  have b := al_below (w.alloc (.cells #[.bool da, .slice Aa na ca, .bool ea, .slice Ea ma fa] 36)) (.cells #[.bool false, .slice none 0 0, .bool false, .slice none 0 0] 36)
  replace HB := Lib.hid (bstep HB.out b)
  replace Ha := Lib.hid (Ha.out.below b)
  clear b
  have R0 := Lib.hid (show Blk4 _ (w.heap.size + 1) 36 (.bool false) (.slice none 0 0) (.bool false) (.slice none 0 0) from h)
  clear h
  have gHa0 := Ha.out.c0
  have gHa1 := Ha.out.c1
  have gHa2 := Ha.out.c2
  have gHa3 := Ha.out.c3
  go_wp2_with fail
  have HMP := fpower_any a.num n _ _ Ha.out.2.num ia.out.1 HZ.out HN.out
  rw [(fit_in hp.out).1, (fit_in hp.out).2] at HMP
  refine (HMP).mono ?_
  rintro e w51 ⟨v, rfl, h, b⟩
  obtain ⟨d51, A51, n51, c51, rfl⟩ := h.shape
  clear gHa0 gHa1 gHa2 gHa3
  have z51 := b.size
  simp only [World.size_alloc] at z51
  replace z51 := Lib.hid z51
  replace HB := Lib.hid (bstep HB.out b)
  replace Ha := Lib.hid (Ha.out.below b)
  replace R0 := Lib.hid (R0.out.below b)
  have V51 := Lib.hid h
  clear h b
  clear HMP
  have h := HoldI.new V51.out
  have b := al_below w51 (.cells #[.bool d51, .slice A51 n51 c51] 34)
  replace HB := Lib.hid (bstep HB.out b)
  replace Ha := Lib.hid (Ha.out.below b)
  replace R0 := Lib.hid (R0.out.below b)
  clear b
  have H51 := Lib.hid h
  clear h V51
  have gHa0 := Ha.out.c0
  have gHa1 := Ha.out.c1
  have gHa2 := Ha.out.c2
  have gHa3 := Ha.out.c3
  go_wp2_with fail
  refine (den_any a _ _ Ha.out.2 ia.out).mono ?_
  rintro e w52 ⟨v, rfl, h, b⟩
  obtain ⟨d52, A52, n52, c52, rfl⟩ := h.shape
  clear gHa0 gHa1 gHa2 gHa3
  have z52 := b.size
  simp only [World.size_alloc] at z52
  replace z52 := Lib.hid z52
  replace HB := Lib.hid (bstep HB.out b)
  replace Ha := Lib.hid (Ha.out.below b)
  replace R0 := Lib.hid (R0.out.below b)
  replace H51 := Lib.hid (H51.out.below b)
  have V52 := Lib.hid h
  clear h b
  go_wp2_with fail
  have HMP := fpower_any (a.den : Int) n _ _ V52.out (den_lim ia.out) HZ.out HN.out
  rw [(fit_in hq.out).1, (fit_in hq.out).2] at HMP
  refine (HMP).mono ?_
  rintro e w53 ⟨v, rfl, h, b⟩
  obtain ⟨d53, A53, n53, c53, rfl⟩ := h.shape
  have z53 := b.size
  replace z53 := Lib.hid z53
  replace HB := Lib.hid (bstep HB.out b)
  replace Ha := Lib.hid (Ha.out.below b)
  replace R0 := Lib.hid (R0.out.below b)
  replace H51 := Lib.hid (H51.out.below b)
  replace V52 := Lib.hid (V52.out.step b)
  have V53 := Lib.hid h
  clear h b
  clear HMP
  have h := HoldI.new V53.out
  have b := al_below w53 (.cells #[.bool d53, .slice A53 n53 c53] 34)
  replace HB := Lib.hid (bstep HB.out b)
  replace Ha := Lib.hid (Ha.out.below b)
  replace R0 := Lib.hid (R0.out.below b)
  replace H51 := Lib.hid (H51.out.below b)
  replace V52 := Lib.hid (V52.out.step b)
  clear b
  have H53 := Lib.hid h
  clear h V53
  have gR00 := R0.out.c0
  have yR00 := R0.out.f0
  have gR01 := R0.out.c1
  have yR01 := R0.out.f1
  have gR02 := R0.out.c2
  have yR02 := R0.out.f2
  have gR03 := R0.out.c3
  have yR03 := R0.out.f3
  have gH510 := H51.out.c0
  have gH511 := H51.out.c1
  have gH530 := H53.out.c0
  have gH531 := H53.out.c1
  have HF := Lib.hid (retQ (RepF.mk' (x := a ^ n.toNat) H51.out.2 H53.out.2 rfl (rat_pow a n.toNat).2.symm) R0.out HB.out (by omega))
  clear HB Ha R0 H51 V52 H53
  clear ia hp hq HN HZ
  go_wp2_with fail
  exact bodyPost_ret (v := .tuple #[.agg #[.bool d51, .slice A51 n51 c51, .bool d53, .slice A53 n53 c53], .int .i64 0]) (by simp [results, Tryz.results39, go_sem, gR00, gR01, gR02, gR03]) rfl ⟨_, rfl, HF.out.1, HF.out.2.1⟩
set_option maxRecDepth 100000 in
set_option maxHeartbeats 4000000 in
theorem pow_tf (a : Rat) (u : Value) (w : World) (ha : RepF w w.heap.size a u) (ia : InF a) (n : Int) (h0 : 0 ≤ n) (hn : n ≤ 9223372036854775807) (hp : ((a.num ^ n.toNat).natAbs : Int) < lim) (hq : lim ≤ (((a.den : Int) ^ n.toNat).natAbs : Int)) :
    Calls Tryz.prog 39 #[u, .int .i64 n] w (NewFE 0 4 w) := by
  replace ia := Lib.hid ia
  replace hp := Lib.hid hp
  replace hq := Lib.hid hq
  have hnn : ¬ n < 0 := by omega
  have HN := Lib.hid hn
  have HZ := Lib.hid h0
  have HB := Lib.hid (Below.refl w.heap.size w)
  obtain ⟨da, Aa, na, ca, ea, Ea, ma, fa, rfl⟩ := ha.shape
  have Va := Lib.hid ha
  clear ha
  go_enter Tryz.func39, Tryz.ntmps39
  have h := HoldQ.new Va.out
  have b := al_below w (.cells #[.bool da, .slice Aa na ca, .bool ea, .slice Ea ma fa] 36)
  replace HB := Lib.hid (bstep HB.out b)
  clear b
  have Ha := Lib.hid h
  clear h Va
  have h := Blk4.new (w.alloc (.cells #[.bool da, .slice Aa na ca, .bool ea, .slice Ea ma fa] 36)) 36 (.bool false) (.slice none 0 0) (.bool false) (.slice none 0 0)
  simp only [World.size_alloc] at h
  have b := al_below (w.alloc (.cells #[.bool da, .slice Aa na ca, .bool ea, .slice Ea ma fa] 36)) (.cells #[.bool false, .slice none 0 0, .bool false, .slice none 0 0] 36)
  replace HB := Lib.hid (bstep HB.out b)
  replace Ha := Lib.hid (Ha.out.below b)
  clear b
  have R0 := Lib.hid (show Blk4 _ (w.heap.size + 1) 36 (.bool false) (.slice none 0 0) (.bool false) (.slice none 0 0) from h)
  clear h
  have gHa0 := Ha.out.c0
  have gHa1 := Ha.out.c1
  have gHa2 := Ha.out.c2
  have gHa3 := Ha.out.c3
  go_wp2_with fail
  have HMP := fpower_any a.num n _ _ Ha.out.2.num ia.out.1 HZ.out HN.out
  rw [(fit_in hp.out).1, (fit_in hp.out).2] at HMP
  refine (HMP).mono ?_
  rintro e w51 ⟨v, rfl, h, b⟩
  obtain ⟨d51, A51, n51, c51, rfl⟩ := h.shape
  clear gHa0 gHa1 gHa2 gHa3
  have z51 := b.size
  simp only [World.size_alloc] at z51
  replace z51 := Lib.hid z51
  replace HB := Lib.hid (bstep HB.out b)
  replace Ha := Lib.hid (Ha.out.below b)
  replace R0 := Lib.hid (R0.out.below b)
  have V51 := Lib.hid h
  clear h b
  clear HMP
  have h := HoldI.new V51.out
  have b := al_below w51 (.cells #[.bool d51, .slice A51 n51 c51] 34)
  replace HB := Lib.hid (bstep HB.out b)
  replace Ha := Lib.hid (Ha.out.below b)
  replace R0 := Lib.hid (R0.out.below b)
  clear b
  have H51 := Lib.hid h
  clear h V51
  have gHa0 := Ha.out.c0
  have gHa1 := Ha.out.c1
  have gHa2 := Ha.out.c2
  have gHa3 := Ha.out.c3
  go_wp2_with fail
  refine (den_any a _ _ Ha.out.2 ia.out).mono ?_
  rintro e w52 ⟨v, rfl, h, b⟩
  obtain ⟨d52, A52, n52, c52, rfl⟩ := h.shape
  clear gHa0 gHa1 gHa2 gHa3
  have z52 := b.size
  simp only [World.size_alloc] at z52
  replace z52 := Lib.hid z52
  replace HB := Lib.hid (bstep HB.out b)
  replace Ha := Lib.hid (Ha.out.below b)
  replace R0 := Lib.hid (R0.out.below b)
  replace H51 := Lib.hid (H51.out.below b)
  have V52 := Lib.hid h
  clear h b
  go_wp2_with fail
  have HMP := fpower_any (a.den : Int) n _ _ V52.out (den_lim ia.out) HZ.out HN.out
  rw [(fit_out (Int.not_lt.2 hq.out)).1, (fit_out (Int.not_lt.2 hq.out)).2] at HMP
  refine (HMP).mono ?_
  rintro e w53 ⟨v, rfl, h, b⟩
  obtain ⟨d53, A53, n53, c53, rfl⟩ := h.shape
  have z53 := b.size
  replace z53 := Lib.hid z53
  replace HB := Lib.hid (bstep HB.out b)
  replace Ha := Lib.hid (Ha.out.below b)
  replace R0 := Lib.hid (R0.out.below b)
  replace H51 := Lib.hid (H51.out.below b)
  replace V52 := Lib.hid (V52.out.step b)
  have V53 := Lib.hid h
  clear h b
  clear HMP
  have h := HoldI.new V53.out
  have b := al_below w53 (.cells #[.bool d53, .slice A53 n53 c53] 34)
  replace HB := Lib.hid (bstep HB.out b)
  replace Ha := Lib.hid (Ha.out.below b)
  replace R0 := Lib.hid (R0.out.below b)
  replace H51 := Lib.hid (H51.out.below b)
  replace V52 := Lib.hid (V52.out.step b)
  clear b
  have H53 := Lib.hid h
  clear h V53
  have gR00 := R0.out.c0
  have yR00 := R0.out.f0
  have gR01 := R0.out.c1
  have yR01 := R0.out.f1
  have gR02 := R0.out.c2
  have yR02 := R0.out.f2
  have gR03 := R0.out.c3
  have yR03 := R0.out.f3
  have HF := Lib.hid (retQ (RepF.zero _ _) R0.out HB.out (by omega))
  clear HB Ha R0 H51 V52 H53
  clear ia hp hq HN HZ
  go_wp2_with fail
  exact bodyPost_ret (v := .tuple #[.agg #[.bool false, .slice none 0 0, .bool false, .slice none 0 0], .int .i64 4]) (by simp [results, Tryz.results39, go_sem, gR00, gR01, gR02, gR03, max04]) rfl ⟨_, rfl, HF.out.1, HF.out.2.1⟩
set_option maxRecDepth 100000 in
set_option maxHeartbeats 4000000 in
theorem pow_ft (a : Rat) (u : Value) (w : World) (ha : RepF w w.heap.size a u) (ia : InF a) (n : Int) (h0 : 0 ≤ n) (hn : n ≤ 9223372036854775807) (hp : lim ≤ ((a.num ^ n.toNat).natAbs : Int)) (hq : (((a.den : Int) ^ n.toNat).natAbs : Int) < lim) :
    Calls Tryz.prog 39 #[u, .int .i64 n] w (NewFE 0 4 w) := by
  replace ia := Lib.hid ia
  replace hp := Lib.hid hp
  replace hq := Lib.hid hq
  have hnn : ¬ n < 0 := by omega
  have HN := Lib.hid hn
  have HZ := Lib.hid h0
  have HB := Lib.hid (Below.refl w.heap.size w)
  obtain ⟨da, Aa, na, ca, ea, Ea, ma, fa, rfl⟩ := ha.shape
  have Va := Lib.hid ha
  clear ha
  go_enter Tryz.func39, Tryz.ntmps39
  have h := HoldQ.new Va.out
  have b := al_below w (.cells #[.bool da, .slice Aa na ca, .bool ea, .slice Ea ma fa] 36)
  replace HB := Lib.hid (bstep HB.out b)
  clear b
  have Ha := Lib.hid h
  clear h Va
  have h := Blk4.new (w.alloc (.cells #[.bool da, .slice Aa na ca, .bool ea, .slice Ea ma fa] 36)) 36 (.bool false) (.slice none 0 0) (.bool false) (.slice none 0 0)
  simp only [World.size_alloc] at h
  have b := al_below (w.alloc (.cells #[.bool da, .slice Aa na ca, .bool ea, .slice Ea ma fa] 36)) (.cells #[.bool false, .slice none 0 0, .bool false, .slice none 0 0] 36)
  replace HB := Lib.hid (bstep HB.out b)
  replace Ha := Lib.hid (Ha.out.below b)
  clear b
  have R0 := Lib.hid (show Blk4 _ (w.heap.size + 1) 36 (.bool false) (.slice none 0 0) (.bool false) (.slice none 0 0) from h)
  clear h
  have gHa0 := Ha.out.c0
  have gHa1 := Ha.out.c1
  have gHa2 := Ha.out.c2
  have gHa3 := Ha.out.c3
  go_wp2_with fail
  have HMP := fpower_any a.num n _ _ Ha.out.2.num ia.out.1 HZ.out HN.out
  rw [(fit_out (Int.not_lt.2 hp.out)).1, (fit_out (Int.not_lt.2 hp.out)).2] at HMP
  refine (HMP).mono ?_
  rintro e w51 ⟨v, rfl, h, b⟩
  obtain ⟨d51, A51, n51, c51, rfl⟩ := h.shape
  clear gHa0 gHa1 gHa2 gHa3
  have z51 := b.size
  simp only [World.size_alloc] at z51
  replace z51 := Lib.hid z51
  replace HB := Lib.hid (bstep HB.out b)
  replace Ha := Lib.hid (Ha.out.below b)
  replace R0 := Lib.hid (R0.out.below b)
  have V51 := Lib.hid h
  clear h b
  clear HMP
  have h := HoldI.new V51.out
  have b := al_below w51 (.cells #[.bool d51, .slice A51 n51 c51] 34)
  replace HB := Lib.hid (bstep HB.out b)
  replace Ha := Lib.hid (Ha.out.below b)
  replace R0 := Lib.hid (R0.out.below b)
  clear b
  have H51 := Lib.hid h
  clear h V51
  have gHa0 := Ha.out.c0
  have gHa1 := Ha.out.c1
  have gHa2 := Ha.out.c2
  have gHa3 := Ha.out.c3
  go_wp2_with fail
  refine (den_any a _ _ Ha.out.2 ia.out).mono ?_
  rintro e w52 ⟨v, rfl, h, b⟩
  obtain ⟨d52, A52, n52, c52, rfl⟩ := h.shape
  clear gHa0 gHa1 gHa2 gHa3
  have z52 := b.size
  simp only [World.size_alloc] at z52
  replace z52 := Lib.hid z52
  replace HB := Lib.hid (bstep HB.out b)
  replace Ha := Lib.hid (Ha.out.below b)
  replace R0 := Lib.hid (R0.out.below b)
  replace H51 := Lib.hid (H51.out.below b)
  have V52 := Lib.hid h
  clear h b
  go_wp2_with fail
  have HMP := fpower_any (a.den : Int) n _ _ V52.out (den_lim ia.out) HZ.out HN.out
  rw [(fit_in hq.out).1, (fit_in hq.out).2] at HMP
  refine (HMP).mono ?_
  rintro e w53 ⟨v, rfl, h, b⟩
  obtain ⟨d53, A53, n53, c53, rfl⟩ := h.shape
  have z53 := b.size
  replace z53 := Lib.hid z53
  replace HB := Lib.hid (bstep HB.out b)
  replace Ha := Lib.hid (Ha.out.below b)
  replace R0 := Lib.hid (R0.out.below b)
  replace H51 := Lib.hid (H51.out.below b)
  replace V52 := Lib.hid (V52.out.step b)
  have V53 := Lib.hid h
  clear h b
  clear HMP
  have h := HoldI.new V53.out
  have b := al_below w53 (.cells #[.bool d53, .slice A53 n53 c53] 34)
  replace HB := Lib.hid (bstep HB.out b)
  replace Ha := Lib.hid (Ha.out.below b)
  replace R0 := Lib.hid (R0.out.below b)
  replace H51 := Lib.hid (H51.out.below b)
  replace V52 := Lib.hid (V52.out.step b)
  clear b
  have H53 := Lib.hid h
  clear h V53
  have gR00 := R0.out.c0
  have yR00 := R0.out.f0
  have gR01 := R0.out.c1
  have yR01 := R0.out.f1
  have gR02 := R0.out.c2
  have yR02 := R0.out.f2
  have gR03 := R0.out.c3
  have yR03 := R0.out.f3
  have HF := Lib.hid (retQ (RepF.zero _ _) R0.out HB.out (by omega))
  clear HB Ha R0 H51 V52 H53
  clear ia hp hq HN HZ
  go_wp2_with fail
  exact bodyPost_ret (v := .tuple #[.agg #[.bool false, .slice none 0 0, .bool false, .slice none 0 0], .int .i64 4]) (by simp [results, Tryz.results39, go_sem, gR00, gR01, gR02, gR03, max40]) rfl ⟨_, rfl, HF.out.1, HF.out.2.1⟩
set_option maxRecDepth 100000 in
set_option maxHeartbeats 4000000 in
theorem pow_ff (a : Rat) (u : Value) (w : World) (ha : RepF w w.heap.size a u) (ia : InF a) (n : Int) (h0 : 0 ≤ n) (hn : n ≤ 9223372036854775807) (hp : lim ≤ ((a.num ^ n.toNat).natAbs : Int)) (hq : lim ≤ (((a.den : Int) ^ n.toNat).natAbs : Int)) :
    Calls Tryz.prog 39 #[u, .int .i64 n] w (NewFE 0 4 w) := by
  replace ia := Lib.hid ia
  replace hp := Lib.hid hp
  replace hq := Lib.hid hq
  have hnn : ¬ n < 0 := by omega
  have HN := Lib.hid hn
  have HZ := Lib.hid h0
  have HB := Lib.hid (Below.refl w.heap.size w)
  obtain ⟨da, Aa, na, ca, ea, Ea, ma, fa, rfl⟩ := ha.shape
  have Va := Lib.hid ha
  clear ha
  go_enter Tryz.func39, Tryz.ntmps39
  have h := HoldQ.new Va.out
  have b := al_below w (.cells #[.bool da, .slice Aa na ca, .bool ea, .slice Ea ma fa] 36)
  replace HB := Lib.hid (bstep HB.out b)
  clear b
  have Ha := Lib.hid h
  clear h Va
  have h := Blk4.new (w.alloc (.cells #[.bool da, .slice Aa na ca, .bool ea, .slice Ea ma fa] 36)) 36 (.bool false) (.slice none 0 0) (.bool false) (.slice none 0 0)
  simp only [World.size_alloc] at h
  have b := al_below (w.alloc (.cells #[.bool da, .slice Aa na ca, .bool ea, .slice Ea ma fa] 36)) (.cells #[.bool false, .slice none 0 0, .bool false, .slice none 0 0] 36)
  replace HB := Lib.hid (bstep HB.out b)
  replace Ha := Lib.hid (Ha.out.below b)
  clear b
  have R0 := Lib.hid (show Blk4 _ (w.heap.size + 1) 36 (.bool false) (.slice none 0 0) (.bool false) (.slice none 0 0) from h)
  clear h
  have gHa0 := Ha.out.c0
  have gHa1 := Ha.out.c1
  have gHa2 := Ha.out.c2
  have gHa3 := Ha.out.c3
  go_wp2_with fail
  have HMP := fpower_any a.num n _ _ Ha.out.2.num ia.out.1 HZ.out HN.out
  rw [(fit_out (Int.not_lt.2 hp.out)).1, (fit_out (Int.not_lt.2 hp.out)).2] at HMP
  refine (HMP).mono ?_
  rintro e w51 ⟨v, rfl, h, b⟩
  obtain ⟨d51, A51, n51, c51, rfl⟩ := h.shape
  clear gHa0 gHa1 gHa2 gHa3
  have z51 := b.size
  simp only [World.size_alloc] at z51
  replace z51 := Lib.hid z51
  replace HB := Lib.hid (bstep HB.out b)
  replace Ha := Lib.hid (Ha.out.below b)
  replace R0 := Lib.hid (R0.out.below b)
  have V51 := Lib.hid h
  clear h b
  clear HMP
  have h := HoldI.new V51.out
  have b := al_below w51 (.cells #[.bool d51, .slice A51 n51 c51] 34)
  replace HB := Lib.hid (bstep HB.out b)
  replace Ha := Lib.hid (Ha.out.below b)
  replace R0 := Lib.hid (R0.out.below b)
  clear b
  have H51 := Lib.hid h
  clear h V51
  have gHa0 := Ha.out.c0
  have gHa1 := Ha.out.c1
  have gHa2 := Ha.out.c2
  have gHa3 := Ha.out.c3
  go_wp2_with fail
  refine (den_any a _ _ Ha.out.2 ia.out).mono ?_
  rintro e w52 ⟨v, rfl, h, b⟩
  obtain ⟨d52, A52, n52, c52, rfl⟩ := h.shape
  clear gHa0 gHa1 gHa2 gHa3
  have z52 := b.size
  simp only [World.size_alloc] at z52
  replace z52 := Lib.hid z52
  replace HB := Lib.hid (bstep HB.out b)
  replace Ha := Lib.hid (Ha.out.below b)
  replace R0 := Lib.hid (R0.out.below b)
  replace H51 := Lib.hid (H51.out.below b)
  have V52 := Lib.hid h
  clear h b
  go_wp2_with fail
  have HMP := fpower_any (a.den : Int) n _ _ V52.out (den_lim ia.out) HZ.out HN.out
  rw [(fit_out (Int.not_lt.2 hq.out)).1, (fit_out (Int.not_lt.2 hq.out)).2] at HMP
  refine (HMP).mono ?_
  rintro e w53 ⟨v, rfl, h, b⟩
  obtain ⟨d53, A53, n53, c53, rfl⟩ := h.shape
  have z53 := b.size
  replace z53 := Lib.hid z53
  replace HB := Lib.hid (bstep HB.out b)
  replace Ha := Lib.hid (Ha.out.below b)
  replace R0 := Lib.hid (R0.out.below b)
  replace H51 := Lib.hid (H51.out.below b)
  replace V52 := Lib.hid (V52.out.step b)
  have V53 := Lib.hid h
  clear h b
  clear HMP
  have h := HoldI.new V53.out
  have b := al_below w53 (.cells #[.bool d53, .slice A53 n53 c53] 34)
  replace HB := Lib.hid (bstep HB.out b)
  replace Ha := Lib.hid (Ha.out.below b)
  replace R0 := Lib.hid (R0.out.below b)
  replace H51 := Lib.hid (H51.out.below b)
  replace V52 := Lib.hid (V52.out.step b)
  clear b
  have H53 := Lib.hid h
  clear h V53
  have gR00 := R0.out.c0
  have yR00 := R0.out.f0
  have gR01 := R0.out.c1
  have yR01 := R0.out.f1
  have gR02 := R0.out.c2
  have yR02 := R0.out.f2
  have gR03 := R0.out.c3
  have yR03 := R0.out.f3
  have HF := Lib.hid (retQ (RepF.zero _ _) R0.out HB.out (by omega))
  clear HB Ha R0 H51 V52 H53
  clear ia hp hq HN HZ
  go_wp2_with fail
  exact bodyPost_ret (v := .tuple #[.agg #[.bool false, .slice none 0 0, .bool false, .slice none 0 0], .int .i64 4]) (by simp [results, Tryz.results39, go_sem, gR00, gR01, gR02, gR03]) rfl ⟨_, rfl, HF.out.1, HF.out.2.1⟩
set_option maxRecDepth 100000 in
set_option maxHeartbeats 4000000 in
theorem pow_neg (a : Rat) (u : Value) (w : World) (ha : RepF w w.heap.size a u) (ia : InF a) (n : Int) (h0 : n < 0) :
    Calls Tryz.prog 39 #[u, .int .i64 n] w (NewFE 0 1 w) := by
  have HB := Lib.hid (Below.refl w.heap.size w)
  obtain ⟨da, Aa, na, ca, ea, Ea, ma, fa, rfl⟩ := ha.shape
  have Va := Lib.hid ha
  clear ha
  replace ia := Lib.hid ia
  go_enter Tryz.func39, Tryz.ntmps39
  have h := HoldQ.new Va.out
  have b := al_below w (.cells #[.bool da, .slice Aa na ca, .bool ea, .slice Ea ma fa] 36)
  replace HB := Lib.hid (bstep HB.out b)
  clear b
  have Ha := Lib.hid h
  clear h Va
  have h := Blk4.new (w.alloc (.cells #[.bool da, .slice Aa na ca, .bool ea, .slice Ea ma fa] 36)) 36 (.bool false) (.slice none 0 0) (.bool false) (.slice none 0 0)
  simp only [World.size_alloc] at h
  have b := al_below (w.alloc (.cells #[.bool da, .slice Aa na ca, .bool ea, .slice Ea ma fa] 36)) (.cells #[.bool false, .slice none 0 0, .bool false, .slice none 0 0] 36)
  replace HB := Lib.hid (bstep HB.out b)
  replace Ha := Lib.hid (Ha.out.below b)
  clear b
  have R0 := Lib.hid (show Blk4 _ (w.heap.size + 1) 36 (.bool false) (.slice none 0 0) (.bool false) (.slice none 0 0) from h)
  clear h
  have HF := Lib.hid HB.out
  clear ia
  clear HB Ha R0
  go_wp2_with fail
  exact bodyPost_ret (v := .tuple #[.agg #[.bool false, .slice none 0 0, .bool false, .slice none 0 0], .int .i64 1]) (by simp [results, Tryz.results39, go_sem]) rfl ⟨_, rfl, RepF.zero _ _, HF.out⟩
/-- what Pow returns -/
def powQ (a : Rat) (n : Int) : Rat := if n < 0 then 0 else fitQ (a ^ n.toNat)
def powR (a : Rat) (n : Int) : Int := if n < 0 then 1 else fitR (a ^ n.toNat)
theorem fpow_any (a : Rat) (u : Value) (w : World) (ha : RepF w w.heap.size a u) (ia : InF a) (n : Int) (hn : n ≤ 9223372036854775807) : Calls Tryz.prog 39 #[u, .int .i64 n] w (NewFE (powQ a n) (powR a n) w) := by
  by_cases h0 : n < 0
  · unfold powQ powR
    rw [if_pos h0, if_pos h0]
    exact pow_neg a u w ha ia n h0
  · unfold powQ powR
    rw [if_neg h0, if_neg h0]
    have h0' : 0 ≤ n := by omega
    have e1 : (a ^ n.toNat).num = a.num ^ n.toNat := rfl
    have e2 := (rat_pow a n.toNat).2
    have hp := (a ^ n.toNat).den_pos
    by_cases h1 : ((a.num ^ n.toNat).natAbs : Int) < lim
    · by_cases h2 : (((a.den : Int) ^ n.toNat).natAbs : Int) < lim
      · have hi : InF (a ^ n.toNat) := ⟨h1, by rw [← e2] at h2; omega⟩
        rw [(fitQ_in hi).1, (fitQ_in hi).2]
        exact pow_tt a u w ha ia n h0' hn h1 h2
      · have hi : ¬ InF (a ^ n.toNat) := fun h => h2 (by rw [← e2]; exact den_lim h)
        rw [(fitQ_out hi).1, (fitQ_out hi).2]
        exact pow_tf a u w ha ia n h0' hn h1 (Int.not_lt.1 h2)
    · have hi : ¬ InF (a ^ n.toNat) := fun h => h1 h.1
      rw [(fitQ_out hi).1, (fitQ_out hi).2]
      by_cases h2 : (((a.den : Int) ^ n.toNat).natAbs : Int) < lim
      · exact pow_ft a u w ha ia n h0' hn (Int.not_lt.1 h1) h2
      · exact pow_ff a u w ha ia n h0' hn (Int.not_lt.1 h1) (Int.not_lt.1 h2)
end Go.Proofs.YtocooajlfpngdaaGreatDoor
namespace Go.Proofs.YtocooajlfpngdaaGreatDoor
open Go.RowKit
set_option linter.unusedVariables false

/-- the fractions of the examples -/
def qA : Rat := Rat.divInt (-3) 4
def qH : Rat := Rat.divInt 1 2
def qT : Rat := Rat.divInt 1 3
def qS : Rat := Rat.divInt 5 6
def qU : Rat := Rat.divInt 2 3
def qV : Rat := Rat.divInt 8 27
theorem inF_of {x : Rat} (h1 : (x.num.natAbs : Int) < 1000) (h2 : (x.den : Int) < 1000) : InF x := by
  have h : (2 : Int) ^ 10 ≤ 2 ^ 16384 := pow_mono' (by omega) (by omega)
  have e : (2 : Int) ^ 10 = 1024 := by decide
  unfold InF lim
  omega
theorem in_A : InF qA := inF_of (by decide +kernel) (by decide +kernel)
theorem in_H : InF qH := inF_of (by decide +kernel) (by decide +kernel)
theorem in_T : InF qT := inF_of (by decide +kernel) (by decide +kernel)
theorem in_S : InF qS := inF_of (by decide +kernel) (by decide +kernel)
theorem in_U : InF qU := inF_of (by decide +kernel) (by decide +kernel)
theorem in_V : InF qV := inF_of (by decide +kernel) (by decide +kernel)
theorem in_1 : InF ((1 : Int) : Rat) := inF_of (by decide +kernel) (by decide +kernel)
theorem in_0 : InF ((0 : Int) : Rat) := inF_of (by decide +kernel) (by decide +kernel)
theorem ex_A : Rat.divInt 6 (-8) = qA ∧ makeE (-8) = 0 := ⟨by decide +kernel, by decide⟩
theorem ex_H : Rat.divInt 1 2 = qH ∧ makeE 2 = 0 := ⟨rfl, by decide⟩
theorem ex_T : Rat.divInt 1 3 = qT ∧ makeE 3 = 0 := ⟨rfl, by decide⟩
theorem ex_S : addQ qH qT = qS ∧ addR qH qT = 0 := ⟨by decide +kernel, by decide +kernel⟩
theorem ex_U : addQ ((1 : Int) : Rat) (-qT) = qU ∧ addR ((1 : Int) : Rat) (-qT) = 0 := ⟨by decide +kernel, by decide +kernel⟩
theorem ex_V : powQ qU 3 = qV ∧ powR qU 3 = 0 := ⟨by decide +kernel, by decide +kernel⟩
theorem ex_p1 : parseQ [50, 47, 52] = (0, 2) := by decide +kernel
theorem ex_p2 : parseQ [51, 47, 49] = (0, 2) := by decide +kernel
theorem tx_A : strB (textQ qA) = ⟨#[45, 51, 47, 52]⟩ := by decide +kernel
theorem tx_S : strB (textQ qS) = ⟨#[53, 47, 54]⟩ := by decide +kernel
theorem tx_V : strB (textQ qV) = ⟨#[56, 47, 50, 55]⟩ := by decide +kernel
set_option maxRecDepth 100000 in
set_option maxHeartbeats 4000000 in
theorem lives_law (w : World) :
    Calls Tryz.prog 24 #[] w (fun e w' => e = .returned (.bool true) ∧ Below w.heap.size w w') := by
  have HB := Lib.hid (Below.refl w.heap.size w)
  go_enter Tryz.func24, Tryz.ntmps24
  go_wp2_with fail
  have HM := fof_any 6 (-8) w (by omega) (by omega)
  rw [ex_A.1, ex_A.2] at HM
  refine (HM).mono ?_
  rintro e w51 ⟨v, rfl, h, b⟩
  obtain ⟨d51, A51, n51, c51, e51, E51, m51, f51, rfl⟩ := h.shape
  have z51 := b.size
  replace z51 := Lib.hid z51
  replace HB := Lib.hid (bstep HB.out b)
  have V51 := Lib.hid h
  clear h b
  clear HM
  have h := HoldQ.new V51.out
  have b := al_below w51 (.cells #[.bool d51, .slice A51 n51 c51, .bool e51, .slice E51 m51 f51] 36)
  replace HB := Lib.hid (bstep HB.out b)
  clear b
  have H51 := Lib.hid h
  clear h V51
  go_wp2_with fail
  have HM := fof_any 1 2 (w51.alloc (.cells #[.bool d51, .slice A51 n51 c51, .bool e51, .slice E51 m51 f51] 36)) (by omega) (by omega)
  rw [ex_H.1, ex_H.2] at HM
  refine (HM).mono ?_
  rintro e w52 ⟨v, rfl, h, b⟩
  obtain ⟨d52, A52, n52, c52, e52, E52, m52, f52, rfl⟩ := h.shape
  have z52 := b.size
  simp only [World.size_alloc] at z52
  replace z52 := Lib.hid z52
  replace HB := Lib.hid (bstep HB.out b)
  replace H51 := Lib.hid (H51.out.below b)
  have V52 := Lib.hid h
  clear h b
  clear HM
  have h := HoldQ.new V52.out
  have b := al_below w52 (.cells #[.bool d52, .slice A52 n52 c52, .bool e52, .slice E52 m52 f52] 36)
  replace HB := Lib.hid (bstep HB.out b)
  replace H51 := Lib.hid (H51.out.below b)
  clear b
  have H52 := Lib.hid h
  clear h V52
  go_wp2_with fail
  have HM := fof_any 1 3 (w52.alloc (.cells #[.bool d52, .slice A52 n52 c52, .bool e52, .slice E52 m52 f52] 36)) (by omega) (by omega)
  rw [ex_T.1, ex_T.2] at HM
  refine (HM).mono ?_
  rintro e w53 ⟨v, rfl, h, b⟩
  obtain ⟨d53, A53, n53, c53, e53, E53, m53, f53, rfl⟩ := h.shape
  have z53 := b.size
  simp only [World.size_alloc] at z53
  replace z53 := Lib.hid z53
  replace HB := Lib.hid (bstep HB.out b)
  replace H51 := Lib.hid (H51.out.below b)
  replace H52 := Lib.hid (H52.out.below b)
  have V53 := Lib.hid h
  clear h b
  clear HM
  have h := HoldQ.new V53.out
  have b := al_below w53 (.cells #[.bool d53, .slice A53 n53 c53, .bool e53, .slice E53 m53 f53] 36)
  replace HB := Lib.hid (bstep HB.out b)
  replace H51 := Lib.hid (H51.out.below b)
  replace H52 := Lib.hid (H52.out.below b)
  clear b
  have H53 := Lib.hid h
  clear h V53
  have gH520 := H52.out.c0
  have gH521 := H52.out.c1
  have gH522 := H52.out.c2
  have gH523 := H52.out.c3
  have gH530 := H53.out.c0
  have gH531 := H53.out.c1
  have gH532 := H53.out.c2
  have gH533 := H53.out.c3
  go_wp2_with fail
  have HM := fadd_any qH qT _ _ _ H52.out.2 H53.out.2 in_H in_T
  rw [ex_S.1, ex_S.2] at HM
  refine (HM).mono ?_
  rintro e w54 ⟨v, rfl, h, b⟩
  obtain ⟨d54, A54, n54, c54, e54, E54, m54, f54, rfl⟩ := h.shape
  clear gH520 gH521 gH522 gH523 gH530 gH531 gH532 gH533
  have z54 := b.size
  simp only [World.size_alloc] at z54
  replace z54 := Lib.hid z54
  replace HB := Lib.hid (bstep HB.out b)
  replace H51 := Lib.hid (H51.out.below b)
  replace H52 := Lib.hid (H52.out.below b)
  replace H53 := Lib.hid (H53.out.below b)
  have V54 := Lib.hid h
  clear h b
  clear HM
  have h := HoldQ.new V54.out
  have b := al_below w54 (.cells #[.bool d54, .slice A54 n54 c54, .bool e54, .slice E54 m54 f54] 36)
  replace HB := Lib.hid (bstep HB.out b)
  replace H51 := Lib.hid (H51.out.below b)
  replace H52 := Lib.hid (H52.out.below b)
  replace H53 := Lib.hid (H53.out.below b)
  clear b
  have H54 := Lib.hid h
  clear h V54
  go_wp2_with fail
  refine (whole_law 1 _ (by omega)).mono ?_
  rintro e w55 ⟨v, rfl, h, b⟩
  obtain ⟨d55, A55, n55, c55, e55, E55, m55, f55, rfl⟩ := h.shape
  have z55 := b.size
  simp only [World.size_alloc] at z55
  replace z55 := Lib.hid z55
  replace HB := Lib.hid (bstep HB.out b)
  replace H51 := Lib.hid (H51.out.below b)
  replace H52 := Lib.hid (H52.out.below b)
  replace H53 := Lib.hid (H53.out.below b)
  replace H54 := Lib.hid (H54.out.below b)
  have V55 := Lib.hid h
  clear h b
  go_wp2_with fail
  refine (whole_law 0 _ (by omega)).mono ?_
  rintro e w56 ⟨v, rfl, h, b⟩
  obtain ⟨d56, A56, n56, c56, e56, E56, m56, f56, rfl⟩ := h.shape
  have z56 := b.size
  replace z56 := Lib.hid z56
  replace HB := Lib.hid (bstep HB.out b)
  replace H51 := Lib.hid (H51.out.below b)
  replace H52 := Lib.hid (H52.out.below b)
  replace H53 := Lib.hid (H53.out.below b)
  replace H54 := Lib.hid (H54.out.below b)
  replace V55 := Lib.hid (V55.out.step b)
  have V56 := Lib.hid h
  clear h b
  go_wp2_with fail
  have HM := div_z ((1 : Int) : Rat) ((0 : Int) : Rat) _ _ _ V55.out V56.out in_1 in_0 rfl
  refine (HM).mono ?_
  rintro e w57 ⟨v, rfl, h, b⟩
  obtain ⟨d57, A57, n57, c57, e57, E57, m57, f57, rfl⟩ := h.shape
  have z57 := b.size
  replace z57 := Lib.hid z57
  replace HB := Lib.hid (bstep HB.out b)
  replace H51 := Lib.hid (H51.out.below b)
  replace H52 := Lib.hid (H52.out.below b)
  replace H53 := Lib.hid (H53.out.below b)
  replace H54 := Lib.hid (H54.out.below b)
  replace V55 := Lib.hid (V55.out.step b)
  replace V56 := Lib.hid (V56.out.step b)
  have V57 := Lib.hid h
  clear h b
  clear HM
  have h := HoldQ.new V57.out
  have b := al_below w57 (.cells #[.bool d57, .slice A57 n57 c57, .bool e57, .slice E57 m57 f57] 36)
  replace HB := Lib.hid (bstep HB.out b)
  replace H51 := Lib.hid (H51.out.below b)
  replace H52 := Lib.hid (H52.out.below b)
  replace H53 := Lib.hid (H53.out.below b)
  replace H54 := Lib.hid (H54.out.below b)
  replace V55 := Lib.hid (V55.out.step b)
  replace V56 := Lib.hid (V56.out.step b)
  clear b
  have H57 := Lib.hid h
  clear h V57
  clear V55 V56
  go_wp2_with fail
  refine lives_reg rfl rfl H53.out in_T in_1 ex_U.1 ex_U.2 ?_
  intro w58 u44 u45 u46 u43 u47 u48 u12 g11 d11 A11 n11 c11 e11 E11 m11 f11 b h11 l11 q12
  subst q12
  simp only [List.foldl_cons, List.foldl_nil, List.setIfInBounds_toArray, List.set_cons_zero, List.set_cons_succ]
  simp only [World.size_alloc] at l11
  have z58 := b.size
  simp only [World.size_alloc] at z58
  replace z58 := Lib.hid z58
  replace HB := Lib.hid (bstep HB.out b)
  replace H51 := Lib.hid (H51.out.below b)
  replace H52 := Lib.hid (H52.out.below b)
  replace H53 := Lib.hid (H53.out.below b)
  replace H54 := Lib.hid (H54.out.below b)
  replace H57 := Lib.hid (H57.out.below b)
  have H11 := Lib.hid h11
  clear h11 l11 b
  have gH110 := H11.out.c0
  have gH111 := H11.out.c1
  have gH112 := H11.out.c2
  have gH113 := H11.out.c3
  go_wp2_with fail
  have HM := fpow_any qU _ _ H11.out.2 in_U 3 (by omega)
  rw [ex_V.1, ex_V.2] at HM
  refine (HM).mono ?_
  rintro e w59 ⟨v, rfl, h, b⟩
  obtain ⟨d59, A59, n59, c59, e59, E59, m59, f59, rfl⟩ := h.shape
  clear gH110 gH111 gH112 gH113
  have z59 := b.size
  replace z59 := Lib.hid z59
  replace HB := Lib.hid (bstep HB.out b)
  replace H51 := Lib.hid (H51.out.below b)
  replace H52 := Lib.hid (H52.out.below b)
  replace H53 := Lib.hid (H53.out.below b)
  replace H54 := Lib.hid (H54.out.below b)
  replace H57 := Lib.hid (H57.out.below b)
  replace H11 := Lib.hid (H11.out.below b)
  have V59 := Lib.hid h
  clear h b
  clear HM
  have h := HoldQ.new V59.out
  have b := al_below w59 (.cells #[.bool d59, .slice A59 n59 c59, .bool e59, .slice E59 m59 f59] 36)
  replace HB := Lib.hid (bstep HB.out b)
  replace H51 := Lib.hid (H51.out.below b)
  replace H52 := Lib.hid (H52.out.below b)
  replace H53 := Lib.hid (H53.out.below b)
  replace H54 := Lib.hid (H54.out.below b)
  replace H57 := Lib.hid (H57.out.below b)
  replace H11 := Lib.hid (H11.out.below b)
  clear b
  have H59 := Lib.hid h
  clear h V59
  go_wp2_with fail
  have HM := fparse_any ⟨#[50, 47, 52]⟩ (w59.alloc (.cells #[.bool d59, .slice A59 n59 c59, .bool e59, .slice E59 m59 f59] 36)) (by decide)
  rw [show (⟨#[50, 47, 52]⟩ : ByteArray).data.toList = [50, 47, 52] from rfl, ex_p1] at HM
  refine (HM).mono ?_
  rintro e w60 ⟨v, rfl, h, b⟩
  obtain ⟨d60, A60, n60, c60, e60, E60, m60, f60, rfl⟩ := h.shape
  have z60 := b.size
  simp only [World.size_alloc] at z60
  replace z60 := Lib.hid z60
  replace HB := Lib.hid (bstep HB.out b)
  replace H51 := Lib.hid (H51.out.below b)
  replace H52 := Lib.hid (H52.out.below b)
  replace H53 := Lib.hid (H53.out.below b)
  replace H54 := Lib.hid (H54.out.below b)
  replace H57 := Lib.hid (H57.out.below b)
  replace H11 := Lib.hid (H11.out.below b)
  replace H59 := Lib.hid (H59.out.below b)
  have V60 := Lib.hid h
  clear h b
  clear HM
  have h := HoldQ.new V60.out
  have b := al_below w60 (.cells #[.bool d60, .slice A60 n60 c60, .bool e60, .slice E60 m60 f60] 36)
  replace HB := Lib.hid (bstep HB.out b)
  replace H51 := Lib.hid (H51.out.below b)
  replace H52 := Lib.hid (H52.out.below b)
  replace H53 := Lib.hid (H53.out.below b)
  replace H54 := Lib.hid (H54.out.below b)
  replace H57 := Lib.hid (H57.out.below b)
  replace H11 := Lib.hid (H11.out.below b)
  replace H59 := Lib.hid (H59.out.below b)
  clear b
  have H60 := Lib.hid h
  clear h V60
  go_wp2_with fail
  have HM := fparse_any ⟨#[51, 47, 49]⟩ (w60.alloc (.cells #[.bool d60, .slice A60 n60 c60, .bool e60, .slice E60 m60 f60] 36)) (by decide)
  rw [show (⟨#[51, 47, 49]⟩ : ByteArray).data.toList = [51, 47, 49] from rfl, ex_p2] at HM
  refine (HM).mono ?_
  rintro e w61 ⟨v, rfl, h, b⟩
  obtain ⟨d61, A61, n61, c61, e61, E61, m61, f61, rfl⟩ := h.shape
  have z61 := b.size
  simp only [World.size_alloc] at z61
  replace z61 := Lib.hid z61
  replace HB := Lib.hid (bstep HB.out b)
  replace H51 := Lib.hid (H51.out.below b)
  replace H52 := Lib.hid (H52.out.below b)
  replace H53 := Lib.hid (H53.out.below b)
  replace H54 := Lib.hid (H54.out.below b)
  replace H57 := Lib.hid (H57.out.below b)
  replace H11 := Lib.hid (H11.out.below b)
  replace H59 := Lib.hid (H59.out.below b)
  replace H60 := Lib.hid (H60.out.below b)
  have V61 := Lib.hid h
  clear h b
  clear HM
  have h := HoldQ.new V61.out
  have b := al_below w61 (.cells #[.bool d61, .slice A61 n61 c61, .bool e61, .slice E61 m61 f61] 36)
  replace HB := Lib.hid (bstep HB.out b)
  replace H51 := Lib.hid (H51.out.below b)
  replace H52 := Lib.hid (H52.out.below b)
  replace H53 := Lib.hid (H53.out.below b)
  replace H54 := Lib.hid (H54.out.below b)
  replace H57 := Lib.hid (H57.out.below b)
  replace H11 := Lib.hid (H11.out.below b)
  replace H59 := Lib.hid (H59.out.below b)
  replace H60 := Lib.hid (H60.out.below b)
  clear b
  have H61 := Lib.hid h
  clear h V61
  clear H52 H53 H57 H11 H60 H61
  have gH510 := H51.out.c0
  have gH511 := H51.out.c1
  have gH512 := H51.out.c2
  have gH513 := H51.out.c3
  go_wp2_with fail
  refine (fstring_as qA _ _ H51.out.2 in_A _ tx_A).mono ?_
  rintro e w62 ⟨rfl, b⟩
  clear gH510 gH511 gH512 gH513
  have z62 := b.size
  simp only [World.size_alloc] at z62
  replace z62 := Lib.hid z62
  replace H51 := Lib.hid (H51.out.below b)
  replace H54 := Lib.hid (H54.out.below b)
  replace H59 := Lib.hid (H59.out.below b)
  replace HB := Lib.hid (bstep HB.out b)
  clear b
  have gH540 := H54.out.c0
  have gH541 := H54.out.c1
  have gH542 := H54.out.c2
  have gH543 := H54.out.c3
  go_wp2_with fail
  refine (fstring_as qS _ _ H54.out.2 in_S _ tx_S).mono ?_
  rintro e w63 ⟨rfl, b⟩
  clear gH540 gH541 gH542 gH543
  have z63 := b.size
  replace z63 := Lib.hid z63
  replace H51 := Lib.hid (H51.out.below b)
  replace H54 := Lib.hid (H54.out.below b)
  replace H59 := Lib.hid (H59.out.below b)
  replace HB := Lib.hid (bstep HB.out b)
  clear b
  have gH590 := H59.out.c0
  have gH591 := H59.out.c1
  have gH592 := H59.out.c2
  have gH593 := H59.out.c3
  go_wp2_with fail
  refine (fstring_as qV _ _ H59.out.2 in_V _ tx_V).mono ?_
  rintro e w64 ⟨rfl, b⟩
  clear gH590 gH591 gH592 gH593
  have z64 := b.size
  replace z64 := Lib.hid z64
  replace H51 := Lib.hid (H51.out.below b)
  replace H54 := Lib.hid (H54.out.below b)
  replace H59 := Lib.hid (H59.out.below b)
  replace HB := Lib.hid (bstep HB.out b)
  clear b
  have HF := HB.out
  clear H51 H54 H59 HB
  go_wp2_with fail
  go_ret
  exact ⟨rfl, HF⟩
end Go.Proofs.YtocooajlfpngdaaGreatDoor
