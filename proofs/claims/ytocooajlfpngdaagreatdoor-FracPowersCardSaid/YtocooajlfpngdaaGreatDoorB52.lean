/- Contracts of the reference of frac: unit. · Contracts of the reference of frac: Pow. · Contract of the reference of frac: Pow. -/
import Derived.Test.YtocooajlfpngdaaGreatDoorB48
import Derived.Deep.LoopGhost
namespace Go.Proofs.YtocooajlfpngdaaGreatDoor
open Go.RowKit
set_option linter.unusedVariables false

/-- -1, 0 or 1 -/
def isU (a : Rat) : Bool := decide ((a.den : Int) = 1 ∧ -1 ≤ a.num ∧ a.num ≤ 1)
set_option maxRecDepth 100000 in
set_option maxHeartbeats 1000000 in
theorem unit_0 (a : Rat) (u : Value) (w : World) (ha : RepG w w.heap.size a u) (ia : InF a) (c1 : isI a.num = false) :
    Calls Tryz.prog 78 #[u] w (fun e w' => e = .returned (.bool false) ∧ Below w.heap.size w w') := by
  obtain ⟨y, hy⟩ : ∃ y, (a.den : Int) = y := ⟨_, rfl⟩
  obtain ⟨z, hz⟩ : ∃ z, a.num = z := ⟨_, rfl⟩
  obtain ⟨o2, ho2⟩ : ∃ o, isI y = o := ⟨_, rfl⟩
  obtain ⟨r2, hr2⟩ : ∃ r, (if isI y then y else 0) = r := ⟨_, rfl⟩
  have HO2 := Lib.hid ho2
  have HR2 := Lib.hid hr2
  clear ho2 hr2
  rw [hz] at c1
  have HZ := Lib.hid hz
  have HY := Lib.hid hy
  have C1 := Lib.hid c1
  clear hz hy c1
  have HB := Lib.hid (Below.refl w.heap.size w)
  obtain ⟨da, Aa, na, ca, ea, Ea, ma, fa, rfl⟩ := ha.shape
  have Va := Lib.hid ha
  clear ha
  replace ia := Lib.hid ia
  go_enter Tryz.func78, Tryz.ntmps78
  have h := HoldG.new Va.out
  have b := al_below w (.cells #[.bool da, .slice Aa na ca, .bool ea, .slice Ea ma fa] 42)
  replace HB := Lib.hid (bstep HB.out b)
  clear b
  have Ha := Lib.hid h
  clear h Va
  have gHa0 := Ha.out.c0
  have gHa1 := Ha.out.c1
  have gHa2 := Ha.out.c2
  have gHa3 := Ha.out.c3
  go_wp2_with fail
  have hN : RepN (w.alloc (.cells #[.bool da, .slice Aa na ca, .bool ea, .slice Ea ma fa] 42)) (w.alloc (.cells #[.bool da, .slice Aa na ca, .bool ea, .slice Ea ma fa] 42)).heap.size z (.agg #[.bool da, .slice Aa na ca]) := by have h := Ha.out.2.num; rw [HZ.out] at h; exact h
  refine (small_lim z _ _ hN (by have h := ia.out.1; rw [HZ.out] at h; exact h) 0 false (by rw [C1.out]; rfl) C1.out).mono ?_
  rintro e w51 ⟨rfl, b⟩
  clear gHa0 gHa1 gHa2 gHa3
  have z51 := b.size
  simp only [World.size_alloc] at z51
  replace z51 := Lib.hid z51
  replace HB := Lib.hid (bstep HB.out b)
  replace Ha := Lib.hid (Ha.out.below b)
  clear b
  clear hN
  have gHa0 := Ha.out.c0
  have gHa1 := Ha.out.c1
  have gHa2 := Ha.out.c2
  have gHa3 := Ha.out.c3
  go_wp2_with fail
  have hN : RepN w51 w51.heap.size y (.agg #[.bool ea, .slice Ea ma fa]) := by have h := Ha.out.2.den; rw [HY.out] at h; exact h
  refine (small_lim y _ _ hN (by have h := den_lim ia.out; rw [HY.out] at h; exact h) r2 o2 HR2.out HO2.out).mono ?_
  rintro e w52 ⟨rfl, b⟩
  clear gHa0 gHa1 gHa2 gHa3
  have z52 := b.size
  replace z52 := Lib.hid z52
  replace HB := Lib.hid (bstep HB.out b)
  replace Ha := Lib.hid (Ha.out.below b)
  clear b
  clear hN
  have HF := HB.out
  clear HB Ha
  go_wp2_with fail
  go_ret
  exact ⟨rfl, HF⟩
set_option maxRecDepth 100000 in
set_option maxHeartbeats 1000000 in
theorem unit_1 (a : Rat) (u : Value) (w : World) (ha : RepG w w.heap.size a u) (ia : InF a) (c1 : isI a.num = true) (c2 : isI (a.den : Int) = false) :
    Calls Tryz.prog 78 #[u] w (fun e w' => e = .returned (.bool false) ∧ Below w.heap.size w w') := by
  obtain ⟨y, hy⟩ : ∃ y, (a.den : Int) = y := ⟨_, rfl⟩
  obtain ⟨z, hz⟩ : ∃ z, a.num = z := ⟨_, rfl⟩
  rw [hz] at c1
  rw [hy] at c2
  have HZ := Lib.hid hz
  have HY := Lib.hid hy
  have C1 := Lib.hid c1
  clear hz hy c1
  have C2 := Lib.hid c2
  clear c2
  have HB := Lib.hid (Below.refl w.heap.size w)
  obtain ⟨da, Aa, na, ca, ea, Ea, ma, fa, rfl⟩ := ha.shape
  have Va := Lib.hid ha
  clear ha
  replace ia := Lib.hid ia
  go_enter Tryz.func78, Tryz.ntmps78
  have h := HoldG.new Va.out
  have b := al_below w (.cells #[.bool da, .slice Aa na ca, .bool ea, .slice Ea ma fa] 42)
  replace HB := Lib.hid (bstep HB.out b)
  clear b
  have Ha := Lib.hid h
  clear h Va
  have gHa0 := Ha.out.c0
  have gHa1 := Ha.out.c1
  have gHa2 := Ha.out.c2
  have gHa3 := Ha.out.c3
  go_wp2_with fail
  have hN : RepN (w.alloc (.cells #[.bool da, .slice Aa na ca, .bool ea, .slice Ea ma fa] 42)) (w.alloc (.cells #[.bool da, .slice Aa na ca, .bool ea, .slice Ea ma fa] 42)).heap.size z (.agg #[.bool da, .slice Aa na ca]) := by have h := Ha.out.2.num; rw [HZ.out] at h; exact h
  refine (small_lim z _ _ hN (by have h := ia.out.1; rw [HZ.out] at h; exact h) z true (by rw [C1.out]; rfl) C1.out).mono ?_
  rintro e w51 ⟨rfl, b⟩
  clear gHa0 gHa1 gHa2 gHa3
  have z51 := b.size
  simp only [World.size_alloc] at z51
  replace z51 := Lib.hid z51
  replace HB := Lib.hid (bstep HB.out b)
  replace Ha := Lib.hid (Ha.out.below b)
  clear b
  clear hN
  have gHa0 := Ha.out.c0
  have gHa1 := Ha.out.c1
  have gHa2 := Ha.out.c2
  have gHa3 := Ha.out.c3
  go_wp2_with fail
  have hN : RepN w51 w51.heap.size y (.agg #[.bool ea, .slice Ea ma fa]) := by have h := Ha.out.2.den; rw [HY.out] at h; exact h
  refine (small_lim y _ _ hN (by have h := den_lim ia.out; rw [HY.out] at h; exact h) 0 false (by rw [C2.out]; rfl) C2.out).mono ?_
  rintro e w52 ⟨rfl, b⟩
  clear gHa0 gHa1 gHa2 gHa3
  have z52 := b.size
  replace z52 := Lib.hid z52
  replace HB := Lib.hid (bstep HB.out b)
  replace Ha := Lib.hid (Ha.out.below b)
  clear b
  clear hN
  have HF := HB.out
  clear HB Ha
  go_wp2_with fail
  go_ret
  exact ⟨rfl, HF⟩
set_option maxRecDepth 100000 in
set_option maxHeartbeats 1000000 in
theorem unit_2 (a : Rat) (u : Value) (w : World) (ha : RepG w w.heap.size a u) (ia : InF a) (c1 : isI a.num = true) (c2 : isI (a.den : Int) = true) (c3 : (a.den : Int) ≠ 1) :
    Calls Tryz.prog 78 #[u] w (fun e w' => e = .returned (.bool false) ∧ Below w.heap.size w w') := by
  obtain ⟨y, hy⟩ : ∃ y, (a.den : Int) = y := ⟨_, rfl⟩
  obtain ⟨z, hz⟩ : ∃ z, a.num = z := ⟨_, rfl⟩
  rw [hz] at c1
  rw [hy] at c2 c3
  have HZ := Lib.hid hz
  have HY := Lib.hid hy
  have C1 := Lib.hid c1
  clear hz hy c1
  have C2 := Lib.hid c2
  clear c2
  have c3' : (y == 1) = false := by simp [c3]
  clear c3
  have HB := Lib.hid (Below.refl w.heap.size w)
  obtain ⟨da, Aa, na, ca, ea, Ea, ma, fa, rfl⟩ := ha.shape
  have Va := Lib.hid ha
  clear ha
  replace ia := Lib.hid ia
  go_enter Tryz.func78, Tryz.ntmps78
  have h := HoldG.new Va.out
  have b := al_below w (.cells #[.bool da, .slice Aa na ca, .bool ea, .slice Ea ma fa] 42)
  replace HB := Lib.hid (bstep HB.out b)
  clear b
  have Ha := Lib.hid h
  clear h Va
  have gHa0 := Ha.out.c0
  have gHa1 := Ha.out.c1
  have gHa2 := Ha.out.c2
  have gHa3 := Ha.out.c3
  go_wp2_with fail
  have hN : RepN (w.alloc (.cells #[.bool da, .slice Aa na ca, .bool ea, .slice Ea ma fa] 42)) (w.alloc (.cells #[.bool da, .slice Aa na ca, .bool ea, .slice Ea ma fa] 42)).heap.size z (.agg #[.bool da, .slice Aa na ca]) := by have h := Ha.out.2.num; rw [HZ.out] at h; exact h
  refine (small_lim z _ _ hN (by have h := ia.out.1; rw [HZ.out] at h; exact h) z true (by rw [C1.out]; rfl) C1.out).mono ?_
  rintro e w51 ⟨rfl, b⟩
  clear gHa0 gHa1 gHa2 gHa3
  have z51 := b.size
  simp only [World.size_alloc] at z51
  replace z51 := Lib.hid z51
  replace HB := Lib.hid (bstep HB.out b)
  replace Ha := Lib.hid (Ha.out.below b)
  clear b
  clear hN
  have gHa0 := Ha.out.c0
  have gHa1 := Ha.out.c1
  have gHa2 := Ha.out.c2
  have gHa3 := Ha.out.c3
  go_wp2_with fail
  have hN : RepN w51 w51.heap.size y (.agg #[.bool ea, .slice Ea ma fa]) := by have h := Ha.out.2.den; rw [HY.out] at h; exact h
  refine (small_lim y _ _ hN (by have h := den_lim ia.out; rw [HY.out] at h; exact h) y true (by rw [C2.out]; rfl) C2.out).mono ?_
  rintro e w52 ⟨rfl, b⟩
  clear gHa0 gHa1 gHa2 gHa3
  have z52 := b.size
  replace z52 := Lib.hid z52
  replace HB := Lib.hid (bstep HB.out b)
  replace Ha := Lib.hid (Ha.out.below b)
  clear b
  clear hN
  have HF := HB.out
  clear HB Ha
  go_wp2_with fail
  go_ret
  exact ⟨rfl, HF⟩
set_option maxRecDepth 100000 in
set_option maxHeartbeats 1000000 in
theorem unit_3 (a : Rat) (u : Value) (w : World) (ha : RepG w w.heap.size a u) (ia : InF a) (c1 : isI a.num = true) (c2 : isI (a.den : Int) = true) (c3 : (a.den : Int) = 1) (c4 : a.num < -1) :
    Calls Tryz.prog 78 #[u] w (fun e w' => e = .returned (.bool false) ∧ Below w.heap.size w w') := by
  obtain ⟨y, hy⟩ : ∃ y, (a.den : Int) = y := ⟨_, rfl⟩
  obtain ⟨z, hz⟩ : ∃ z, a.num = z := ⟨_, rfl⟩
  rw [hz] at c1 c4
  rw [hy] at c2 c3
  have HZ := Lib.hid hz
  have HY := Lib.hid hy
  have C1 := Lib.hid c1
  clear hz hy c1
  have C2 := Lib.hid c2
  clear c2
  have c5 : ¬ (-1 ≤ z) := by omega
  clear c4
  subst c3
  have HB := Lib.hid (Below.refl w.heap.size w)
  obtain ⟨da, Aa, na, ca, ea, Ea, ma, fa, rfl⟩ := ha.shape
  have Va := Lib.hid ha
  clear ha
  replace ia := Lib.hid ia
  go_enter Tryz.func78, Tryz.ntmps78
  have h := HoldG.new Va.out
  have b := al_below w (.cells #[.bool da, .slice Aa na ca, .bool ea, .slice Ea ma fa] 42)
  replace HB := Lib.hid (bstep HB.out b)
  clear b
  have Ha := Lib.hid h
  clear h Va
  have gHa0 := Ha.out.c0
  have gHa1 := Ha.out.c1
  have gHa2 := Ha.out.c2
  have gHa3 := Ha.out.c3
  go_wp2_with fail
  have hN : RepN (w.alloc (.cells #[.bool da, .slice Aa na ca, .bool ea, .slice Ea ma fa] 42)) (w.alloc (.cells #[.bool da, .slice Aa na ca, .bool ea, .slice Ea ma fa] 42)).heap.size z (.agg #[.bool da, .slice Aa na ca]) := by have h := Ha.out.2.num; rw [HZ.out] at h; exact h
  refine (small_lim z _ _ hN (by have h := ia.out.1; rw [HZ.out] at h; exact h) z true (by rw [C1.out]; rfl) C1.out).mono ?_
  rintro e w51 ⟨rfl, b⟩
  clear gHa0 gHa1 gHa2 gHa3
  have z51 := b.size
  simp only [World.size_alloc] at z51
  replace z51 := Lib.hid z51
  replace HB := Lib.hid (bstep HB.out b)
  replace Ha := Lib.hid (Ha.out.below b)
  clear b
  clear hN
  have gHa0 := Ha.out.c0
  have gHa1 := Ha.out.c1
  have gHa2 := Ha.out.c2
  have gHa3 := Ha.out.c3
  go_wp2_with fail
  have hN : RepN w51 w51.heap.size 1 (.agg #[.bool ea, .slice Ea ma fa]) := by have h := Ha.out.2.den; rw [HY.out] at h; exact h
  refine (small_lim 1 _ _ hN (by have h := den_lim ia.out; rw [HY.out] at h; exact h) 1 true (by rw [C2.out]; rfl) C2.out).mono ?_
  rintro e w52 ⟨rfl, b⟩
  clear gHa0 gHa1 gHa2 gHa3
  have z52 := b.size
  replace z52 := Lib.hid z52
  replace HB := Lib.hid (bstep HB.out b)
  replace Ha := Lib.hid (Ha.out.below b)
  clear b
  clear hN
  have HF := HB.out
  clear HB Ha
  go_wp2_with fail
  go_ret
  exact ⟨rfl, HF⟩
set_option maxRecDepth 100000 in
set_option maxHeartbeats 1000000 in
theorem unit_4 (a : Rat) (u : Value) (w : World) (ha : RepG w w.heap.size a u) (ia : InF a) (c1 : isI a.num = true) (c2 : isI (a.den : Int) = true) (c3 : (a.den : Int) = 1) (c4 : 1 < a.num) :
    Calls Tryz.prog 78 #[u] w (fun e w' => e = .returned (.bool false) ∧ Below w.heap.size w w') := by
  obtain ⟨y, hy⟩ : ∃ y, (a.den : Int) = y := ⟨_, rfl⟩
  obtain ⟨z, hz⟩ : ∃ z, a.num = z := ⟨_, rfl⟩
  rw [hz] at c1 c4
  rw [hy] at c2 c3
  have HZ := Lib.hid hz
  have HY := Lib.hid hy
  have C1 := Lib.hid c1
  clear hz hy c1
  have C2 := Lib.hid c2
  clear c2
  have c5 : ¬ (z ≤ 1) := by omega
  have c6 : -1 ≤ z := by omega
  clear c4
  subst c3
  have HB := Lib.hid (Below.refl w.heap.size w)
  obtain ⟨da, Aa, na, ca, ea, Ea, ma, fa, rfl⟩ := ha.shape
  have Va := Lib.hid ha
  clear ha
  replace ia := Lib.hid ia
  go_enter Tryz.func78, Tryz.ntmps78
  have h := HoldG.new Va.out
  have b := al_below w (.cells #[.bool da, .slice Aa na ca, .bool ea, .slice Ea ma fa] 42)
  replace HB := Lib.hid (bstep HB.out b)
  clear b
  have Ha := Lib.hid h
  clear h Va
  have gHa0 := Ha.out.c0
  have gHa1 := Ha.out.c1
  have gHa2 := Ha.out.c2
  have gHa3 := Ha.out.c3
  go_wp2_with fail
  have hN : RepN (w.alloc (.cells #[.bool da, .slice Aa na ca, .bool ea, .slice Ea ma fa] 42)) (w.alloc (.cells #[.bool da, .slice Aa na ca, .bool ea, .slice Ea ma fa] 42)).heap.size z (.agg #[.bool da, .slice Aa na ca]) := by have h := Ha.out.2.num; rw [HZ.out] at h; exact h
  refine (small_lim z _ _ hN (by have h := ia.out.1; rw [HZ.out] at h; exact h) z true (by rw [C1.out]; rfl) C1.out).mono ?_
  rintro e w51 ⟨rfl, b⟩
  clear gHa0 gHa1 gHa2 gHa3
  have z51 := b.size
  simp only [World.size_alloc] at z51
  replace z51 := Lib.hid z51
  replace HB := Lib.hid (bstep HB.out b)
  replace Ha := Lib.hid (Ha.out.below b)
  clear b
  clear hN
  have gHa0 := Ha.out.c0
  have gHa1 := Ha.out.c1
  have gHa2 := Ha.out.c2
  have gHa3 := Ha.out.c3
  go_wp2_with fail
  have hN : RepN w51 w51.heap.size 1 (.agg #[.bool ea, .slice Ea ma fa]) := by have h := Ha.out.2.den; rw [HY.out] at h; exact h
  refine (small_lim 1 _ _ hN (by have h := den_lim ia.out; rw [HY.out] at h; exact h) 1 true (by rw [C2.out]; rfl) C2.out).mono ?_
  rintro e w52 ⟨rfl, b⟩
  clear gHa0 gHa1 gHa2 gHa3
  have z52 := b.size
  replace z52 := Lib.hid z52
  replace HB := Lib.hid (bstep HB.out b)
  replace Ha := Lib.hid (Ha.out.below b)
  clear b
  clear hN
  have HF := HB.out
  clear HB Ha
  go_wp2_with fail
  go_ret
  exact ⟨by rw [decide_eq_false (show ¬ z ≤ 1 by omega)]; rfl, HF⟩
set_option maxRecDepth 100000 in
set_option maxHeartbeats 1000000 in
theorem unit_5 (a : Rat) (u : Value) (w : World) (ha : RepG w w.heap.size a u) (ia : InF a) (c1 : isI a.num = true) (c2 : isI (a.den : Int) = true) (c3 : (a.den : Int) = 1) (c4 : -1 ≤ a.num) (c5 : a.num ≤ 1) :
    Calls Tryz.prog 78 #[u] w (fun e w' => e = .returned (.bool true) ∧ Below w.heap.size w w') := by
  obtain ⟨y, hy⟩ : ∃ y, (a.den : Int) = y := ⟨_, rfl⟩
  obtain ⟨z, hz⟩ : ∃ z, a.num = z := ⟨_, rfl⟩
  rw [hz] at c1 c4 c5
  rw [hy] at c2 c3
  have HZ := Lib.hid hz
  have HY := Lib.hid hy
  have C1 := Lib.hid c1
  clear hz hy c1
  have C2 := Lib.hid c2
  clear c2
  subst c3
  have HB := Lib.hid (Below.refl w.heap.size w)
  obtain ⟨da, Aa, na, ca, ea, Ea, ma, fa, rfl⟩ := ha.shape
  have Va := Lib.hid ha
  clear ha
  replace ia := Lib.hid ia
  go_enter Tryz.func78, Tryz.ntmps78
  have h := HoldG.new Va.out
  have b := al_below w (.cells #[.bool da, .slice Aa na ca, .bool ea, .slice Ea ma fa] 42)
  replace HB := Lib.hid (bstep HB.out b)
  clear b
  have Ha := Lib.hid h
  clear h Va
  have gHa0 := Ha.out.c0
  have gHa1 := Ha.out.c1
  have gHa2 := Ha.out.c2
  have gHa3 := Ha.out.c3
  go_wp2_with fail
  have hN : RepN (w.alloc (.cells #[.bool da, .slice Aa na ca, .bool ea, .slice Ea ma fa] 42)) (w.alloc (.cells #[.bool da, .slice Aa na ca, .bool ea, .slice Ea ma fa] 42)).heap.size z (.agg #[.bool da, .slice Aa na ca]) := by have h := Ha.out.2.num; rw [HZ.out] at h; exact h
  refine (small_lim z _ _ hN (by have h := ia.out.1; rw [HZ.out] at h; exact h) z true (by rw [C1.out]; rfl) C1.out).mono ?_
  rintro e w51 ⟨rfl, b⟩
  clear gHa0 gHa1 gHa2 gHa3
  have z51 := b.size
  simp only [World.size_alloc] at z51
  replace z51 := Lib.hid z51
  replace HB := Lib.hid (bstep HB.out b)
  replace Ha := Lib.hid (Ha.out.below b)
  clear b
  clear hN
  have gHa0 := Ha.out.c0
  have gHa1 := Ha.out.c1
  have gHa2 := Ha.out.c2
  have gHa3 := Ha.out.c3
  go_wp2_with fail
  have hN : RepN w51 w51.heap.size 1 (.agg #[.bool ea, .slice Ea ma fa]) := by have h := Ha.out.2.den; rw [HY.out] at h; exact h
  refine (small_lim 1 _ _ hN (by have h := den_lim ia.out; rw [HY.out] at h; exact h) 1 true (by rw [C2.out]; rfl) C2.out).mono ?_
  rintro e w52 ⟨rfl, b⟩
  clear gHa0 gHa1 gHa2 gHa3
  have z52 := b.size
  replace z52 := Lib.hid z52
  replace HB := Lib.hid (bstep HB.out b)
  replace Ha := Lib.hid (Ha.out.below b)
  clear b
  clear hN
  have HF := HB.out
  clear HB Ha
  go_wp2_with fail
  go_ret
  exact ⟨rfl, HF⟩
theorem unit_any (a : Rat) (u : Value) (w : World) (ha : RepG w w.heap.size a u) (ia : InF a) : Calls Tryz.prog 78 #[u] w (fun e w' => e = .returned (.bool (isU a)) ∧ Below w.heap.size w w') := by
  have dn : ∀ z : Int, (-1 ≤ z ∧ z ≤ 1) → isI z = true := fun z h => decide_eq_true (by omega)
  by_cases h : (a.den : Int) = 1 ∧ -1 ≤ a.num ∧ a.num ≤ 1
  · rw [show isU a = true from decide_eq_true h]
    exact unit_5 a u w ha ia (dn _ h.2) (dn _ (by omega)) h.1 h.2.1 h.2.2
  · rw [show isU a = false from decide_eq_false h]
    cases h1 : isI a.num with
    | false => exact unit_0 a u w ha ia h1
    | true =>
      cases h2 : isI (a.den : Int) with
      | false => exact unit_1 a u w ha ia h1 h2
      | true =>
        by_cases h3 : (a.den : Int) = 1
        · by_cases h4 : a.num < -1
          · exact unit_3 a u w ha ia h1 h2 h3 h4
          · exact unit_4 a u w ha ia h1 h2 h3 (by omega)
        · exact unit_2 a u w ha ia h1 h2 h3
end Go.Proofs.YtocooajlfpngdaaGreatDoor
namespace Go.Proofs.YtocooajlfpngdaaGreatDoor
open Go.RowKit
set_option linter.unusedVariables false

theorem o_buildG {ops : Array Oper} {Q : Exit → Act → World → Prop} {k : Nat} {K : Act → World → Prop} {a : Act} {w : World} {d : Tmp} {ty : TypeId} {pos : String} {af : Array Edge} {gd : Option (Nat × Bool)} {x y : Operand} {d1 d2 : Bool} {A1 A2 : Option Addr} {n1 c1 n2 c2 : Nat} (ho : ops[k]? = some { dst := some d, op := .build 42 #[(0, x), (1, y)], type := ty, pos := pos, after := af, guard := gd }) (hg : GdOk ops a gd)
    (hx : a.eval x = .agg #[.bool d1, .slice A1 n1 c1]) (hy : a.eval y = .agg #[.bool d2, .slice A2 n2 c2]) (hK : K (a.put (some d) (.agg #[.bool d1, .slice A1 n1 c1, .bool d2, .slice A2 n2 c2])) w) : wpOp Tryz.prog ops Q k K a w := by
  refine op_wpg ho hg ?_
  unfold Oper.wp
  simp only [execOp, hx, hy, List.map_toArray, List.map_cons, List.map_nil]
  simp [go_sem]
  exact hK
def po_r16_ops : Array Oper := #[
  { dst := some 41, op := .fieldAddr 42 (.tmp 7) 0, type := 0, pos := "ref.go:119", after := #[], guard := none },
  { dst := some 42, op := .load 24 (.tmp 41), type := 24, pos := "ref.go:119", after := #[⟨0, .data⟩], guard := none },
  { dst := some 43, op := .fieldAddr 42 (.tmp 2) 0, type := 0, pos := "ref.go:119", after := #[], guard := none },
  { dst := some 44, op := .load 24 (.tmp 43), type := 24, pos := "ref.go:119", after := #[⟨2, .data⟩], guard := none },
  { dst := some 45, op := .call { callee := .value (.func 13), args := #[.tmp 42, .tmp 44], argTypes := #[24, 24] }, type := 24, pos := "ref.go:119", after := #[⟨1, .data⟩, ⟨3, .data⟩], guard := none },
  { dst := some 46, op := .fieldAddr 42 (.tmp 7) 1, type := 0, pos := "ref.go:119", after := #[], guard := none },
  { dst := some 47, op := .load 24 (.tmp 46), type := 24, pos := "ref.go:119", after := #[⟨5, .data⟩], guard := none },
  { dst := some 48, op := .fieldAddr 42 (.tmp 2) 1, type := 0, pos := "ref.go:119", after := #[], guard := none },
  { dst := some 49, op := .load 24 (.tmp 48), type := 24, pos := "ref.go:119", after := #[⟨7, .data⟩], guard := none },
  { dst := some 50, op := .call { callee := .value (.func 13), args := #[.tmp 47, .tmp 49], argTypes := #[24, 24] }, type := 24, pos := "ref.go:119", after := #[⟨6, .data⟩, ⟨8, .data⟩, ⟨4, .chain⟩], guard := none },
  { dst := some 51, op := .build 42 #[(0, .tmp 45), (1, .tmp 50)], type := 42, pos := "ref.go:119", after := #[⟨4, .data⟩, ⟨9, .data⟩], guard := none },
  { dst := some 52, op := .call { callee := .value (.func 74), args := #[.tmp 51, .const (.int .i64 0)], argTypes := #[42, 37] }, type := 43, pos := "ref.go:119", after := #[⟨10, .data⟩, ⟨9, .chain⟩], guard := none },
  { dst := some 40, op := .move (.tmp 52), type := 43, pos := "ref.go:119", after := #[⟨11, .data⟩], guard := none },
  { dst := some 53, op := .extract (.tmp 40) 0, type := 42, pos := "ref.go:119", after := #[⟨12, .data⟩], guard := none },
  { dst := some 54, op := .extract (.tmp 40) 1, type := 37, pos := "ref.go:119", after := #[⟨12, .data⟩, ⟨16, .gcOnly .lateStores⟩], guard := none },
  { dst := some 9, op := .alloc 42, type := 0, pos := "ref.go:119", after := #[], guard := none },
  { dst := none, op := .store 42 (.tmp 9) (.tmp 53), type := 0, pos := "ref.go:119", after := #[⟨15, .data⟩, ⟨13, .data⟩, ⟨11, .chain⟩, ⟨0, .phase⟩, ⟨1, .phase⟩, ⟨2, .phase⟩, ⟨3, .phase⟩, ⟨4, .phase⟩, ⟨5, .phase⟩, ⟨6, .phase⟩, ⟨7, .phase⟩, ⟨8, .phase⟩, ⟨9, .phase⟩, ⟨10, .phase⟩, ⟨11, .phase⟩, ⟨12, .phase⟩, ⟨13, .phase⟩, ⟨14, .textOnly .lateStores⟩, ⟨15, .phase⟩], guard := none },
  { dst := some 10, op := .assign (.tmp 54), type := 37, pos := "ref.go:119", after := #[⟨14, .data⟩, ⟨16, .chain⟩, ⟨0, .phase⟩, ⟨1, .phase⟩, ⟨2, .phase⟩, ⟨3, .phase⟩, ⟨4, .phase⟩, ⟨5, .phase⟩, ⟨6, .phase⟩, ⟨7, .phase⟩, ⟨8, .phase⟩, ⟨9, .phase⟩, ⟨10, .phase⟩, ⟨11, .phase⟩, ⟨12, .phase⟩, ⟨13, .phase⟩, ⟨14, .phase⟩, ⟨15, .phase⟩, ⟨16, .phase⟩], guard := none }]
set_option maxRecDepth 100000 in
set_option maxHeartbeats 2000000 in
theorem po_r16 {Q : Exit → Act → World → Prop} {a0 : Act} {w0 : World} {o a X : Rat} {p7 : Nat} {d7 : Bool} {A7 : Option Addr} {n7 c7 : Nat} {e7 : Bool} {E7 : Option Addr} {m7 f7 : Nat} {p2 : Nat} {d2 : Bool} {A2 : Option Addr} {n2 c2 : Nat} {e2 : Bool} {E2 : Option Addr} {m2 f2 : Nat} (hN : a0.tmps.size = 61) (t7 : a0.tmps[7]? = some (.pointer (some ⟨p7, 0, none⟩))) (H7 : HoldG w0 p7 o d7 A7 n7 c7 e7 E7 m7 f7) (t2 : a0.tmps[2]? = some (.pointer (some ⟨p2, 0, none⟩))) (H2 : HoldG w0 p2 a d2 A2 n2 c2 e2 E2 m2 f2) (io : InF o) (ia : InF a) (e1 : o.num * a.num = X.num) (e2 : (o.den : Int) * (a.den : Int) = (X.den : Int)) (x1 : Bits 60000 X.num) (x2 : Bits 60000 (X.den : Int))
    (hQ : ∀ (w : World) (v41 v42 v43 v44 v45 v46 v47 v48 v49 v50 v51 v52 v40 v53 v54 v10 : Value) (g9 : Nat) (d9 : Bool) (A9 : Option Addr) (n9 c9 : Nat) (e9 : Bool) (E9 : Option Addr) (m9 f9 : Nat), Below w0.heap.size w0 w → HoldG w g9 (fitQ X) d9 A9 n9 c9 e9 E9 m9 f9 → w0.heap.size ≤ g9 → (Is (.int .i64 (fitR X))) v10 w → Q .normal ⟨([(41, v41), (42, v42), (43, v43), (44, v44), (45, v45), (46, v46), (47, v47), (48, v48), (49, v49), (50, v50), (51, v51), (52, v52), (40, v40), (53, v53), (54, v54), (10, v10), (9, .pointer (some ⟨g9, 0, none⟩))] : List (Nat × Value)).foldl (fun ts p => ts.setIfInBounds p.1 p.2) a0.tmps, a0.defers⟩ w) :
    (Code.region 16 po_r16_ops true).wp Tryz.prog Q a0 w0 := by
  refine wp_region_boxes4' (ty := 42) (cl := [.val 41 (Is (.pointer (some ⟨p7, 0, none⟩))), .val 42 (IsN (o.num)), .val 43 (Is (.pointer (some ⟨p2, 0, none⟩))), .val 44 (IsN (a.num)), .val 45 (IsN (o.num * a.num)), .val 46 (Is (.pointer (some ⟨p7, 2, none⟩))), .val 47 (IsN ((o.den : Int))), .val 48 (Is (.pointer (some ⟨p2, 2, none⟩))), .val 49 (IsN ((a.den : Int))), .val 50 (IsN ((o.den : Int) * (a.den : Int))), .val 51 (IsG (X)), .val 52 (IsGE (fitQ X) (fitR X)), .val 40 (IsGE (fitQ X) (fitR X)), .val 53 (IsG (fitQ X)), .val 54 (Is (.int .i64 (fitR X))), .new 9, .put 9 (IsG (fitQ X)), .val 10 (Is (.int .i64 (fitR X)))]) 61 (by kernel_rfl) hN (by kernel_rfl) ?_ ?_ ?_
  · exact ⟨Is.stb4 _ _, IsN.stb4 _ _, Is.stb4 _ _, IsN.stb4 _ _, IsN.stb4 _ _, Is.stb4 _ _, IsN.stb4 _ _, Is.stb4 _ _, IsN.stb4 _ _, IsN.stb4 _ _, IsG.stb4 _ _, IsGE.stb4 _ _ _, IsGE.stb4 _ _ _, IsG.stb4 _ _, Is.stb4 _ _, trivial, IsG.stb4 _ _, Is.stb4 _ _, trivial⟩
  · refine ⟨?_, ?_, ?_, ?_, ?_, ?_, ?_, ?_, ?_, ?_, ?_, ?_, ?_, ?_, ?_, ?_, ?_, ?_, trivial⟩
    · intro l ac w h hd K hK
      exact o_fieldG0 rfl GdOk.none (ev_t ((h.same 7 (not_dst (by kernel_rfl))).trans t7)) (hK _ _ rfl (Below.refl _ _))
    · intro l ac w h hd K hK
      obtain ⟨v0, hv0, rfl⟩ := h.fact 0 _ rfl (dep hd 0 (by kernel_rfl))
      exact o_loadN rfl GdOk.none (ev_t hv0) (H7.below h.below).c0 (H7.below h.below).c1 (hK _ _ (H7.below h.below).2.num (Below.refl _ _))
    · intro l ac w h hd K hK
      exact o_fieldG0 rfl GdOk.none (ev_t ((h.same 2 (not_dst (by kernel_rfl))).trans t2)) (hK _ _ rfl (Below.refl _ _))
    · intro l ac w h hd K hK
      obtain ⟨v2, hv2, rfl⟩ := h.fact 2 _ rfl (dep hd 2 (by kernel_rfl))
      exact o_loadN rfl GdOk.none (ev_t hv2) (H2.below h.below).c0 (H2.below h.below).c1 (hK _ _ (H2.below h.below).2.num (Below.refl _ _))
    · intro l ac w h hd K hK
      obtain ⟨v1, hv1, hF1⟩ := h.fact 1 _ rfl (dep hd 1 (by kernel_rfl))
      obtain ⟨v3, hv3, hF3⟩ := h.fact 3 _ rfl (dep hd 3 (by kernel_rfl))
      exact o_call2 rfl GdOk.none (ev_t hv1) (ev_t hv3) (enters_of Tryz.func13 (by kernel_rfl) rfl) ((mul_any _ _ _ _ _ hF1 hF3 ((fit_bits io.1).mono (by omega)) ((fit_bits ia.1).mono (by omega))).mono fun e w' ⟨v, he, h1, h2⟩ => ⟨_, he, hK _ _ h1 h2⟩)
    · intro l ac w h hd K hK
      exact o_fieldG1 rfl GdOk.none (ev_t ((h.same 7 (not_dst (by kernel_rfl))).trans t7)) (hK _ _ rfl (Below.refl _ _))
    · intro l ac w h hd K hK
      obtain ⟨v5, hv5, rfl⟩ := h.fact 5 _ rfl (dep hd 5 (by kernel_rfl))
      exact o_loadN rfl GdOk.none (ev_t hv5) (H7.below h.below).c2 (H7.below h.below).c3 (hK _ _ (H7.below h.below).2.den (Below.refl _ _))
    · intro l ac w h hd K hK
      exact o_fieldG1 rfl GdOk.none (ev_t ((h.same 2 (not_dst (by kernel_rfl))).trans t2)) (hK _ _ rfl (Below.refl _ _))
    · intro l ac w h hd K hK
      obtain ⟨v7, hv7, rfl⟩ := h.fact 7 _ rfl (dep hd 7 (by kernel_rfl))
      exact o_loadN rfl GdOk.none (ev_t hv7) (H2.below h.below).c2 (H2.below h.below).c3 (hK _ _ (H2.below h.below).2.den (Below.refl _ _))
    · intro l ac w h hd K hK
      obtain ⟨v6, hv6, hF6⟩ := h.fact 6 _ rfl (dep hd 6 (by kernel_rfl))
      obtain ⟨v8, hv8, hF8⟩ := h.fact 8 _ rfl (dep hd 8 (by kernel_rfl))
      exact o_call2 rfl GdOk.none (ev_t hv6) (ev_t hv8) (enters_of Tryz.func13 (by kernel_rfl) rfl) ((mul_any _ _ _ _ _ hF6 hF8 ((fit_bits (den_lim io)).mono (by omega)) ((fit_bits (den_lim ia)).mono (by omega))).mono fun e w' ⟨v, he, h1, h2⟩ => ⟨_, he, hK _ _ h1 h2⟩)
    · intro l ac w h hd K hK
      obtain ⟨v4, hv4, hF4⟩ := h.fact 4 _ rfl (dep hd 4 (by kernel_rfl))
      obtain ⟨v9, hv9, hF9⟩ := h.fact 9 _ rfl (dep hd 9 (by kernel_rfl))
      obtain ⟨d4, A4, n4, c4, rfl⟩ := RepN.shape' hF4
      obtain ⟨d9, A9, n9, c9, rfl⟩ := RepN.shape' hF9
      exact o_buildG rfl GdOk.none (ev_t hv4) (ev_t hv9) (hK _ _ (RepG.mk' (x := X) hF4 hF9 e1 e2) (Below.refl _ _))
    · intro l ac w h hd K hK
      obtain ⟨v10, hv10, hF10⟩ := h.fact 10 _ rfl (dep hd 10 (by kernel_rfl))
      exact o_call2 rfl GdOk.none (ev_t hv10) rfl (enters_of Tryz.func74 (by kernel_rfl) rfl) ((ranged_any X _ _ hF10 x1 x2).mono fun e w' ⟨v, he, h1, h2⟩ => ⟨_, he, hK _ _ ⟨v, rfl, h1⟩ h2⟩)
    · intro l ac w h hd K hK
      obtain ⟨v11, hv11, u11, rfl, hF11⟩ := h.fact 11 _ rfl (dep hd 11 (by kernel_rfl))
      exact o_move rfl GdOk.none (ev_t hv11) (hK _ _ ⟨u11, rfl, hF11⟩ (Below.refl _ _))
    · intro l ac w h hd K hK
      obtain ⟨v12, hv12, u12, rfl, hF12⟩ := h.fact 12 _ rfl (dep hd 12 (by kernel_rfl))
      exact o_ext0 rfl GdOk.none (ev_t hv12) (hK _ _ hF12 (Below.refl _ _))
    · intro l ac w h hd K hK
      obtain ⟨v12, hv12, u12, rfl, hF12⟩ := h.fact 12 _ rfl (dep hd 12 (by kernel_rfl))
      exact o_ext1 rfl GdOk.none (ev_t hv12) (hK _ _ rfl (Below.refl _ _))
    · intro ac w K hK
      exact o_allocG rfl GdOk.none hK
    · refine ⟨⟨15, rfl⟩, fun l ac w h hd => ?_⟩
      obtain ⟨g, hg, hlt, e, A, n, c, e', A', n', c', hB⟩ := h.fact 15 _ rfl (dep hd 15 (by kernel_rfl))
      obtain ⟨v13, hv13, hF13⟩ := h.fact 13 _ rfl (dep hd 13 (by kernel_rfl))
      obtain ⟨d1, A1, n1, c1, d2, A2, n2, c2, rfl⟩ := RepG.shape hF13
      exact ⟨g, d1, A1, n1, c1, d2, A2, n2, c2, e, A, n, c, e', A', n', c', hg, hlt, hB, hF13, fun K hK => o_store4 (by first | exact Or.inl rfl | exact Or.inr rfl) rfl GdOk.none (ev_t hg) (ev_t hv13) hB hK⟩
    · intro l ac w h hd K hK
      obtain ⟨v14, hv14, rfl⟩ := h.fact 14 _ rfl (dep hd 14 (by kernel_rfl))
      exact o_assign rfl GdOk.none (ev_t hv14) (hK _ _ rfl (Below.refl _ _))
  · intro l ac w h hall
    obtain ⟨v41, q41, r41⟩ := h.fact 0 _ rfl (hall 0 (of_decide_eq_true (by kernel_rfl)))
    obtain ⟨v42, q42, r42⟩ := h.fact 1 _ rfl (hall 1 (of_decide_eq_true (by kernel_rfl)))
    obtain ⟨v43, q43, r43⟩ := h.fact 2 _ rfl (hall 2 (of_decide_eq_true (by kernel_rfl)))
    obtain ⟨v44, q44, r44⟩ := h.fact 3 _ rfl (hall 3 (of_decide_eq_true (by kernel_rfl)))
    obtain ⟨v45, q45, r45⟩ := h.fact 4 _ rfl (hall 4 (of_decide_eq_true (by kernel_rfl)))
    obtain ⟨v46, q46, r46⟩ := h.fact 5 _ rfl (hall 5 (of_decide_eq_true (by kernel_rfl)))
    obtain ⟨v47, q47, r47⟩ := h.fact 6 _ rfl (hall 6 (of_decide_eq_true (by kernel_rfl)))
    obtain ⟨v48, q48, r48⟩ := h.fact 7 _ rfl (hall 7 (of_decide_eq_true (by kernel_rfl)))
    obtain ⟨v49, q49, r49⟩ := h.fact 8 _ rfl (hall 8 (of_decide_eq_true (by kernel_rfl)))
    obtain ⟨v50, q50, r50⟩ := h.fact 9 _ rfl (hall 9 (of_decide_eq_true (by kernel_rfl)))
    obtain ⟨v51, q51, r51⟩ := h.fact 10 _ rfl (hall 10 (of_decide_eq_true (by kernel_rfl)))
    obtain ⟨v52, q52, r52⟩ := h.fact 11 _ rfl (hall 11 (of_decide_eq_true (by kernel_rfl)))
    obtain ⟨v40, q40, r40⟩ := h.fact 12 _ rfl (hall 12 (of_decide_eq_true (by kernel_rfl)))
    obtain ⟨v53, q53, r53⟩ := h.fact 13 _ rfl (hall 13 (of_decide_eq_true (by kernel_rfl)))
    obtain ⟨v54, q54, r54⟩ := h.fact 14 _ rfl (hall 14 (of_decide_eq_true (by kernel_rfl)))
    obtain ⟨v10, q10, r10⟩ := h.fact 17 _ rfl (hall 17 (of_decide_eq_true (by kernel_rfl)))
    obtain ⟨g9, q9, l9, d9, A9, n9, c9, e9, E9, m9, f9, B9, F9⟩ := h.fact 16 _ rfl (hall 16 (of_decide_eq_true (by kernel_rfl)))
    have ha := act_of [(41, v41), (42, v42), (43, v43), (44, v44), (45, v45), (46, v46), (47, v47), (48, v48), (49, v49), (50, v50), (51, v51), (52, v52), (40, v40), (53, v53), (54, v54), (10, v10), (9, .pointer (some ⟨g9, 0, none⟩))] h.defers h.size (List.forall_mem_cons.2 ⟨q41, List.forall_mem_cons.2 ⟨q42, List.forall_mem_cons.2 ⟨q43, List.forall_mem_cons.2 ⟨q44, List.forall_mem_cons.2 ⟨q45, List.forall_mem_cons.2 ⟨q46, List.forall_mem_cons.2 ⟨q47, List.forall_mem_cons.2 ⟨q48, List.forall_mem_cons.2 ⟨q49, List.forall_mem_cons.2 ⟨q50, List.forall_mem_cons.2 ⟨q51, List.forall_mem_cons.2 ⟨q52, List.forall_mem_cons.2 ⟨q40, List.forall_mem_cons.2 ⟨q53, List.forall_mem_cons.2 ⟨q54, List.forall_mem_cons.2 ⟨q10, List.forall_mem_cons.2 ⟨q9, fun _ h => by cases h⟩⟩⟩⟩⟩⟩⟩⟩⟩⟩⟩⟩⟩⟩⟩⟩⟩) (fun t ht => h.same t (fun hm => ht (in_dst (F := [41, 42, 43, 44, 45, 46, 47, 48, 49, 50, 51, 52, 40, 53, 54, 10, 9]) (by kernel_rfl) hm)))
    rw [ha]
    exact hQ w _ _ _ _ _ _ _ _ _ _ _ _ _ _ _ _ _ _ _ _ _ _ _ _ _ h.below ⟨B9, F9⟩ l9 r10
set_option maxRecDepth 100000 in
set_option maxHeartbeats 4000000 in
theorem gpow_neg (a : Rat) (u : Value) (w : World) (ha : RepG w w.heap.size a u) (ia : InF a) (n : Int) (n1 : n ≤ 9223372036854775807) (h0 : n < 0) :
    Calls Tryz.prog 40 #[u, .int .i64 n] w (NewGE 0 1 w) := by
  have HB := Lib.hid (Below.refl w.heap.size w)
  obtain ⟨da, Aa, na, ca, ea, Ea, ma, fa, rfl⟩ := ha.shape
  have Va := Lib.hid ha
  clear ha
  replace ia := Lib.hid ia
  go_enter Tryz.func40, Tryz.ntmps40
  have h := HoldG.new Va.out
  have b := al_below w (.cells #[.bool da, .slice Aa na ca, .bool ea, .slice Ea ma fa] 42)
  replace HB := Lib.hid (bstep HB.out b)
  clear b
  have Ha := Lib.hid h
  clear h Va
  have h := Blk4.new (w.alloc (.cells #[.bool da, .slice Aa na ca, .bool ea, .slice Ea ma fa] 42)) 42 (.bool false) (.slice none 0 0) (.bool false) (.slice none 0 0)
  simp only [World.size_alloc] at h
  have b := al_below (w.alloc (.cells #[.bool da, .slice Aa na ca, .bool ea, .slice Ea ma fa] 42)) (.cells #[.bool false, .slice none 0 0, .bool false, .slice none 0 0] 42)
  replace HB := Lib.hid (bstep HB.out b)
  replace Ha := Lib.hid (Ha.out.below b)
  clear b
  have R0 := Lib.hid (show Blk4 _ (w.heap.size + 1) 42 (.bool false) (.slice none 0 0) (.bool false) (.slice none 0 0) from h)
  clear h
  go_wp2_with fail
  refine (gof_zero _).mono ?_
  rintro e w51 ⟨v, rfl, h, b⟩
  obtain ⟨d51, A51, n51, c51, e51, E51, m51, f51, rfl⟩ := h.shape
  have z51 := b.size
  simp only [World.size_alloc] at z51
  replace z51 := Lib.hid z51
  replace HB := Lib.hid (bstep HB.out b)
  replace Ha := Lib.hid (Ha.out.below b)
  replace R0 := Lib.hid (R0.out.below b)
  have V51 := Lib.hid h
  clear h b
  have gR00 := R0.out.c0
  have yR00 := R0.out.f0
  have gR01 := R0.out.c1
  have yR01 := R0.out.f1
  have gR02 := R0.out.c2
  have yR02 := R0.out.f2
  have gR03 := R0.out.c3
  have yR03 := R0.out.f3
  have HF := Lib.hid (retG (V51.out) R0.out HB.out (by omega))
  clear HB Ha R0 V51
  clear ia
  go_wp2_with fail
  exact bodyPost_ret (v := .tuple #[.agg #[.bool d51, .slice A51 n51 c51, .bool e51, .slice E51 m51 f51], .int .i64 1]) (by simp [results, Tryz.results40, go_sem, gR00, gR01, gR02, gR03]) rfl ⟨_, rfl, HF.out.1, HF.out.2.1⟩
set_option maxRecDepth 100000 in
set_option maxHeartbeats 4000000 in
theorem gpow_zero (a : Rat) (u : Value) (w : World) (ha : RepG w w.heap.size a u) (ia : InF a) (n : Int) (n1 : n ≤ 9223372036854775807) (h0 : n = 0) :
    Calls Tryz.prog 40 #[u, .int .i64 n] w (NewGE ((1 : Int) : Rat) 0 w) := by
  subst h0
  clear n1
  have HB := Lib.hid (Below.refl w.heap.size w)
  obtain ⟨da, Aa, na, ca, ea, Ea, ma, fa, rfl⟩ := ha.shape
  have Va := Lib.hid ha
  clear ha
  replace ia := Lib.hid ia
  go_enter Tryz.func40, Tryz.ntmps40
  have h := HoldG.new Va.out
  have b := al_below w (.cells #[.bool da, .slice Aa na ca, .bool ea, .slice Ea ma fa] 42)
  replace HB := Lib.hid (bstep HB.out b)
  clear b
  have Ha := Lib.hid h
  clear h Va
  have h := Blk4.new (w.alloc (.cells #[.bool da, .slice Aa na ca, .bool ea, .slice Ea ma fa] 42)) 42 (.bool false) (.slice none 0 0) (.bool false) (.slice none 0 0)
  simp only [World.size_alloc] at h
  have b := al_below (w.alloc (.cells #[.bool da, .slice Aa na ca, .bool ea, .slice Ea ma fa] 42)) (.cells #[.bool false, .slice none 0 0, .bool false, .slice none 0 0] 42)
  replace HB := Lib.hid (bstep HB.out b)
  replace Ha := Lib.hid (Ha.out.below b)
  clear b
  have R0 := Lib.hid (show Blk4 _ (w.heap.size + 1) 42 (.bool false) (.slice none 0 0) (.bool false) (.slice none 0 0) from h)
  clear h
  go_wp2_with fail
  refine (gof_any 1 _ (by omega)).mono ?_
  rintro e w51 ⟨v, rfl, h, b⟩
  obtain ⟨d51, A51, n51, c51, e51, E51, m51, f51, rfl⟩ := h.shape
  have z51 := b.size
  simp only [World.size_alloc] at z51
  replace z51 := Lib.hid z51
  replace HB := Lib.hid (bstep HB.out b)
  replace Ha := Lib.hid (Ha.out.below b)
  replace R0 := Lib.hid (R0.out.below b)
  have V51 := Lib.hid h
  clear h b
  have gR00 := R0.out.c0
  have yR00 := R0.out.f0
  have gR01 := R0.out.c1
  have yR01 := R0.out.f1
  have gR02 := R0.out.c2
  have yR02 := R0.out.f2
  have gR03 := R0.out.c3
  have yR03 := R0.out.f3
  have HF := Lib.hid (retG (V51.out) R0.out HB.out (by omega))
  clear HB Ha R0 V51
  clear ia
  go_wp2_with fail
  exact bodyPost_ret (v := .tuple #[.agg #[.bool d51, .slice A51 n51 c51, .bool e51, .slice E51 m51 f51], .int .i64 0]) (by simp [results, Tryz.results40, go_sem, gR00, gR01, gR02, gR03]) rfl ⟨_, rfl, HF.out.1, HF.out.2.1⟩
set_option maxRecDepth 100000 in
set_option maxHeartbeats 4000000 in
theorem gpow_odd (a : Rat) (u : Value) (w : World) (ha : RepG w w.heap.size a u) (ia : InF a) (n : Int) (n1 : n ≤ 9223372036854775807) (h0 : 0 < n) (hu : isU a = true) (h2 : n.tmod 2 ≠ 0) :
    Calls Tryz.prog 40 #[u, .int .i64 n] w (NewGE a 0 w) := by
  have h00 : ¬ n < 0 := by omega
  have h01 : (n == 0) = false := by simp; omega
  have U := Lib.hid hu
  clear hu h0
  obtain ⟨t, ht⟩ : ∃ t, n.tmod 2 = t := ⟨_, rfl⟩
  rw [ht] at h2
  have h21 : (t == 0) = false := by simp [h2]
  clear h2
  have HB := Lib.hid (Below.refl w.heap.size w)
  obtain ⟨da, Aa, na, ca, ea, Ea, ma, fa, rfl⟩ := ha.shape
  have Va := Lib.hid ha
  clear ha
  replace ia := Lib.hid ia
  go_enter Tryz.func40, Tryz.ntmps40
  have h := HoldG.new Va.out
  have b := al_below w (.cells #[.bool da, .slice Aa na ca, .bool ea, .slice Ea ma fa] 42)
  replace HB := Lib.hid (bstep HB.out b)
  clear b
  have Ha := Lib.hid h
  clear h Va
  have h := Blk4.new (w.alloc (.cells #[.bool da, .slice Aa na ca, .bool ea, .slice Ea ma fa] 42)) 42 (.bool false) (.slice none 0 0) (.bool false) (.slice none 0 0)
  simp only [World.size_alloc] at h
  have b := al_below (w.alloc (.cells #[.bool da, .slice Aa na ca, .bool ea, .slice Ea ma fa] 42)) (.cells #[.bool false, .slice none 0 0, .bool false, .slice none 0 0] 42)
  replace HB := Lib.hid (bstep HB.out b)
  replace Ha := Lib.hid (Ha.out.below b)
  clear b
  have R0 := Lib.hid (show Blk4 _ (w.heap.size + 1) 42 (.bool false) (.slice none 0 0) (.bool false) (.slice none 0 0) from h)
  clear h
  have gHa0 := Ha.out.c0
  have gHa1 := Ha.out.c1
  have gHa2 := Ha.out.c2
  have gHa3 := Ha.out.c3
  go_wp2_with fail
  have HU := unit_any a _ _ Ha.out.2 ia.out
  rw [U.out] at HU
  refine (HU).mono ?_
  rintro e w51 ⟨rfl, b⟩
  clear gHa0 gHa1 gHa2 gHa3
  have z51 := b.size
  simp only [World.size_alloc] at z51
  replace z51 := Lib.hid z51
  replace HB := Lib.hid (bstep HB.out b)
  replace Ha := Lib.hid (Ha.out.below b)
  replace R0 := Lib.hid (R0.out.below b)
  clear b
  clear HU
  have gHa0 := Ha.out.c0
  have gHa1 := Ha.out.c1
  have gHa2 := Ha.out.c2
  have gHa3 := Ha.out.c3
  clear gHa0 gHa1 gHa2 gHa3
  have gR00 := R0.out.c0
  have yR00 := R0.out.f0
  have gR01 := R0.out.c1
  have yR01 := R0.out.f1
  have gR02 := R0.out.c2
  have yR02 := R0.out.f2
  have gR03 := R0.out.c3
  have yR03 := R0.out.f3
  have gHa0 := Ha.out.c0
  have gHa1 := Ha.out.c1
  have gHa2 := Ha.out.c2
  have gHa3 := Ha.out.c3
  have HF := Lib.hid (retG (Ha.out.2) R0.out HB.out (by omega))
  clear HB Ha R0
  clear ia U
  go_wp2_with fail
  exact bodyPost_ret (v := .tuple #[.agg #[.bool da, .slice Aa na ca, .bool ea, .slice Ea ma fa], .int .i64 0]) (by simp [results, Tryz.results40, go_sem, gR00, gR01, gR02, gR03]) rfl ⟨_, rfl, HF.out.1, HF.out.2.1⟩
set_option maxRecDepth 100000 in
set_option maxHeartbeats 4000000 in
theorem gpow_pos (a : Rat) (u : Value) (w : World) (ha : RepG w w.heap.size a u) (ia : InF a) (n : Int) (n1 : n ≤ 9223372036854775807) (h0 : 0 < n) (hu : isU a = true) (h2 : n.tmod 2 = 0) (h3 : ¬ a.num < 0) :
    Calls Tryz.prog 40 #[u, .int .i64 n] w (NewGE a 0 w) := by
  have h00 : ¬ n < 0 := by omega
  have h01 : (n == 0) = false := by simp; omega
  have U := Lib.hid hu
  clear hu h0
  obtain ⟨t, ht⟩ : ∃ t, n.tmod 2 = t := ⟨_, rfl⟩
  rw [ht] at h2
  subst h2
  have H3 := Lib.hid h3
  clear h3
  have HB := Lib.hid (Below.refl w.heap.size w)
  obtain ⟨da, Aa, na, ca, ea, Ea, ma, fa, rfl⟩ := ha.shape
  have Va := Lib.hid ha
  clear ha
  replace ia := Lib.hid ia
  go_enter Tryz.func40, Tryz.ntmps40
  have h := HoldG.new Va.out
  have b := al_below w (.cells #[.bool da, .slice Aa na ca, .bool ea, .slice Ea ma fa] 42)
  replace HB := Lib.hid (bstep HB.out b)
  clear b
  have Ha := Lib.hid h
  clear h Va
  have h := Blk4.new (w.alloc (.cells #[.bool da, .slice Aa na ca, .bool ea, .slice Ea ma fa] 42)) 42 (.bool false) (.slice none 0 0) (.bool false) (.slice none 0 0)
  simp only [World.size_alloc] at h
  have b := al_below (w.alloc (.cells #[.bool da, .slice Aa na ca, .bool ea, .slice Ea ma fa] 42)) (.cells #[.bool false, .slice none 0 0, .bool false, .slice none 0 0] 42)
  replace HB := Lib.hid (bstep HB.out b)
  replace Ha := Lib.hid (Ha.out.below b)
  clear b
  have R0 := Lib.hid (show Blk4 _ (w.heap.size + 1) 42 (.bool false) (.slice none 0 0) (.bool false) (.slice none 0 0) from h)
  clear h
  have gHa0 := Ha.out.c0
  have gHa1 := Ha.out.c1
  have gHa2 := Ha.out.c2
  have gHa3 := Ha.out.c3
  go_wp2_with fail
  have HU := unit_any a _ _ Ha.out.2 ia.out
  rw [U.out] at HU
  refine (HU).mono ?_
  rintro e w51 ⟨rfl, b⟩
  clear gHa0 gHa1 gHa2 gHa3
  have z51 := b.size
  simp only [World.size_alloc] at z51
  replace z51 := Lib.hid z51
  replace HB := Lib.hid (bstep HB.out b)
  replace Ha := Lib.hid (Ha.out.below b)
  replace R0 := Lib.hid (R0.out.below b)
  clear b
  clear HU
  obtain ⟨s, hs⟩ : ∃ s, sgnF a = s := ⟨_, rfl⟩
  have hs0 : ¬ s < 0 := by have h := H3.out; unfold sgnF cmpI' at hs; (repeat' split at hs) <;> omega
  have HS := Lib.hid hs
  clear hs
  have gHa0 := Ha.out.c0
  have gHa1 := Ha.out.c1
  have gHa2 := Ha.out.c2
  have gHa3 := Ha.out.c3
  go_wp2_with fail
  refine (HS.out ▸ gsgn_in Ha.out.2).mono ?_
  rintro e w52 ⟨rfl, b⟩
  clear gHa0 gHa1 gHa2 gHa3
  have z52 := b.size
  replace z52 := Lib.hid z52
  replace HB := Lib.hid (bstep HB.out b)
  replace Ha := Lib.hid (Ha.out.below b)
  replace R0 := Lib.hid (R0.out.below b)
  clear b
  have gHa0 := Ha.out.c0
  have gHa1 := Ha.out.c1
  have gHa2 := Ha.out.c2
  have gHa3 := Ha.out.c3
  clear gHa0 gHa1 gHa2 gHa3
  have gR00 := R0.out.c0
  have yR00 := R0.out.f0
  have gR01 := R0.out.c1
  have yR01 := R0.out.f1
  have gR02 := R0.out.c2
  have yR02 := R0.out.f2
  have gR03 := R0.out.c3
  have yR03 := R0.out.f3
  have gHa0 := Ha.out.c0
  have gHa1 := Ha.out.c1
  have gHa2 := Ha.out.c2
  have gHa3 := Ha.out.c3
  have HF := Lib.hid (retG (Ha.out.2) R0.out HB.out (by omega))
  clear HB Ha R0
  clear ia U HS H3
  go_wp2_with fail
  exact bodyPost_ret (v := .tuple #[.agg #[.bool da, .slice Aa na ca, .bool ea, .slice Ea ma fa], .int .i64 0]) (by simp [results, Tryz.results40, go_sem, gR00, gR01, gR02, gR03]) rfl ⟨_, rfl, HF.out.1, HF.out.2.1⟩
set_option maxRecDepth 100000 in
set_option maxHeartbeats 4000000 in
theorem gpow_even (a : Rat) (u : Value) (w : World) (ha : RepG w w.heap.size a u) (ia : InF a) (n : Int) (n1 : n ≤ 9223372036854775807) (h0 : 0 < n) (hu : isU a = true) (h2 : n.tmod 2 = 0) (h3 : a.num < 0) :
    Calls Tryz.prog 40 #[u, .int .i64 n] w (NewGE (-a) 0 w) := by
  have h00 : ¬ n < 0 := by omega
  have h01 : (n == 0) = false := by simp; omega
  have U := Lib.hid hu
  clear hu h0
  obtain ⟨t, ht⟩ : ∃ t, n.tmod 2 = t := ⟨_, rfl⟩
  rw [ht] at h2
  subst h2
  have H3 := Lib.hid h3
  clear h3
  have HB := Lib.hid (Below.refl w.heap.size w)
  obtain ⟨da, Aa, na, ca, ea, Ea, ma, fa, rfl⟩ := ha.shape
  have Va := Lib.hid ha
  clear ha
  replace ia := Lib.hid ia
  go_enter Tryz.func40, Tryz.ntmps40
  have h := HoldG.new Va.out
  have b := al_below w (.cells #[.bool da, .slice Aa na ca, .bool ea, .slice Ea ma fa] 42)
  replace HB := Lib.hid (bstep HB.out b)
  clear b
  have Ha := Lib.hid h
  clear h Va
  have h := Blk4.new (w.alloc (.cells #[.bool da, .slice Aa na ca, .bool ea, .slice Ea ma fa] 42)) 42 (.bool false) (.slice none 0 0) (.bool false) (.slice none 0 0)
  simp only [World.size_alloc] at h
  have b := al_below (w.alloc (.cells #[.bool da, .slice Aa na ca, .bool ea, .slice Ea ma fa] 42)) (.cells #[.bool false, .slice none 0 0, .bool false, .slice none 0 0] 42)
  replace HB := Lib.hid (bstep HB.out b)
  replace Ha := Lib.hid (Ha.out.below b)
  clear b
  have R0 := Lib.hid (show Blk4 _ (w.heap.size + 1) 42 (.bool false) (.slice none 0 0) (.bool false) (.slice none 0 0) from h)
  clear h
  have gHa0 := Ha.out.c0
  have gHa1 := Ha.out.c1
  have gHa2 := Ha.out.c2
  have gHa3 := Ha.out.c3
  go_wp2_with fail
  have HU := unit_any a _ _ Ha.out.2 ia.out
  rw [U.out] at HU
  refine (HU).mono ?_
  rintro e w51 ⟨rfl, b⟩
  clear gHa0 gHa1 gHa2 gHa3
  have z51 := b.size
  simp only [World.size_alloc] at z51
  replace z51 := Lib.hid z51
  replace HB := Lib.hid (bstep HB.out b)
  replace Ha := Lib.hid (Ha.out.below b)
  replace R0 := Lib.hid (R0.out.below b)
  clear b
  clear HU
  obtain ⟨s, hs⟩ : ∃ s, sgnF a = s := ⟨_, rfl⟩
  have hs0 : s < 0 := by have h := H3.out; unfold sgnF cmpI' at hs; (repeat' split at hs) <;> omega
  have HS := Lib.hid hs
  clear hs
  have gHa0 := Ha.out.c0
  have gHa1 := Ha.out.c1
  have gHa2 := Ha.out.c2
  have gHa3 := Ha.out.c3
  go_wp2_with fail
  refine (HS.out ▸ gsgn_in Ha.out.2).mono ?_
  rintro e w52 ⟨rfl, b⟩
  clear gHa0 gHa1 gHa2 gHa3
  have z52 := b.size
  replace z52 := Lib.hid z52
  replace HB := Lib.hid (bstep HB.out b)
  replace Ha := Lib.hid (Ha.out.below b)
  replace R0 := Lib.hid (R0.out.below b)
  clear b
  have gHa0 := Ha.out.c0
  have gHa1 := Ha.out.c1
  have gHa2 := Ha.out.c2
  have gHa3 := Ha.out.c3
  go_wp2_with fail
  refine (gneg_any a _ _ Ha.out.2).mono ?_
  rintro e w53 ⟨v, rfl, h, b⟩
  obtain ⟨d53, A53, n53, c53, e53, E53, m53, f53, rfl⟩ := h.shape
  clear gHa0 gHa1 gHa2 gHa3
  have z53 := b.size
  replace z53 := Lib.hid z53
  replace HB := Lib.hid (bstep HB.out b)
  replace Ha := Lib.hid (Ha.out.below b)
  replace R0 := Lib.hid (R0.out.below b)
  have V53 := Lib.hid h
  clear h b
  have gR00 := R0.out.c0
  have yR00 := R0.out.f0
  have gR01 := R0.out.c1
  have yR01 := R0.out.f1
  have gR02 := R0.out.c2
  have yR02 := R0.out.f2
  have gR03 := R0.out.c3
  have yR03 := R0.out.f3
  have HF := Lib.hid (retG (V53.out) R0.out HB.out (by omega))
  clear HB Ha R0 V53
  clear ia U HS H3
  go_wp2_with fail
  exact bodyPost_ret (v := .tuple #[.agg #[.bool d53, .slice A53 n53 c53, .bool e53, .slice E53 m53 f53], .int .i64 0]) (by simp [results, Tryz.results40, go_sem, gR00, gR01, gR02, gR03]) rfl ⟨_, rfl, HF.out.1, HF.out.2.1⟩
set_option maxRecDepth 100000 in
set_option maxHeartbeats 4000000 in
theorem gpow_big (a : Rat) (u : Value) (w : World) (ha : RepG w w.heap.size a u) (ia : InF a) (n : Int) (n1 : n ≤ 9223372036854775807) (hu : isU a = false) (h0 : 16384 < n) :
    Calls Tryz.prog 40 #[u, .int .i64 n] w (NewGE 0 4 w) := by
  have h00 : ¬ n < 0 := by omega
  have h01 : (n == 0) = false := by simp; omega
  have U := Lib.hid hu
  clear hu
  have HB := Lib.hid (Below.refl w.heap.size w)
  obtain ⟨da, Aa, na, ca, ea, Ea, ma, fa, rfl⟩ := ha.shape
  have Va := Lib.hid ha
  clear ha
  replace ia := Lib.hid ia
  go_enter Tryz.func40, Tryz.ntmps40
  have h := HoldG.new Va.out
  have b := al_below w (.cells #[.bool da, .slice Aa na ca, .bool ea, .slice Ea ma fa] 42)
  replace HB := Lib.hid (bstep HB.out b)
  clear b
  have Ha := Lib.hid h
  clear h Va
  have h := Blk4.new (w.alloc (.cells #[.bool da, .slice Aa na ca, .bool ea, .slice Ea ma fa] 42)) 42 (.bool false) (.slice none 0 0) (.bool false) (.slice none 0 0)
  simp only [World.size_alloc] at h
  have b := al_below (w.alloc (.cells #[.bool da, .slice Aa na ca, .bool ea, .slice Ea ma fa] 42)) (.cells #[.bool false, .slice none 0 0, .bool false, .slice none 0 0] 42)
  replace HB := Lib.hid (bstep HB.out b)
  replace Ha := Lib.hid (Ha.out.below b)
  clear b
  have R0 := Lib.hid (show Blk4 _ (w.heap.size + 1) 42 (.bool false) (.slice none 0 0) (.bool false) (.slice none 0 0) from h)
  clear h
  have gHa0 := Ha.out.c0
  have gHa1 := Ha.out.c1
  have gHa2 := Ha.out.c2
  have gHa3 := Ha.out.c3
  go_wp2_with fail
  have HU := unit_any a _ _ Ha.out.2 ia.out
  rw [U.out] at HU
  refine (HU).mono ?_
  rintro e w51 ⟨rfl, b⟩
  clear gHa0 gHa1 gHa2 gHa3
  have z51 := b.size
  simp only [World.size_alloc] at z51
  replace z51 := Lib.hid z51
  replace HB := Lib.hid (bstep HB.out b)
  replace Ha := Lib.hid (Ha.out.below b)
  replace R0 := Lib.hid (R0.out.below b)
  clear b
  clear HU
  go_wp2_with fail
  refine (gof_zero _).mono ?_
  rintro e w52 ⟨v, rfl, h, b⟩
  obtain ⟨d52, A52, n52, c52, e52, E52, m52, f52, rfl⟩ := h.shape
  have z52 := b.size
  replace z52 := Lib.hid z52
  replace HB := Lib.hid (bstep HB.out b)
  replace Ha := Lib.hid (Ha.out.below b)
  replace R0 := Lib.hid (R0.out.below b)
  have V52 := Lib.hid h
  clear h b
  have gR00 := R0.out.c0
  have yR00 := R0.out.f0
  have gR01 := R0.out.c1
  have yR01 := R0.out.f1
  have gR02 := R0.out.c2
  have yR02 := R0.out.f2
  have gR03 := R0.out.c3
  have yR03 := R0.out.f3
  have HF := Lib.hid (retG (V52.out) R0.out HB.out (by omega))
  clear HB Ha R0 V52
  clear ia U
  go_wp2_with fail
  exact bodyPost_ret (v := .tuple #[.agg #[.bool d52, .slice A52 n52 c52, .bool e52, .slice E52 m52 f52], .int .i64 4]) (by simp [results, Tryz.results40, go_sem, gR00, gR01, gR02, gR03]) rfl ⟨_, rfl, HF.out.1, HF.out.2.1⟩
set_option maxRecDepth 100000 in
set_option maxHeartbeats 4000000 in
theorem gpow_loop (a : Rat) (u : Value) (w : World) (ha : RepG w w.heap.size a u) (ia : InF a) (n : Int) (n1 : n ≤ 9223372036854775807) (hu : isU a = false) (h0 : 0 < n) (h1 : n ≤ 16384) (X : Rat) (er : Int) (hOK : InF (a ^ n.toNat) → X = a ^ n.toNat ∧ er = 0) (hBAD : ∀ j ≤ n.toNat, ¬ InF (a ^ j) → X = 0 ∧ er = 4) :
    Calls Tryz.prog 40 #[u, .int .i64 n] w (NewGE X er w) := by
  have h00 : ¬ n < 0 := by omega
  have h01 : (n == 0) = false := by simp; omega
  have h02 : ¬ 16384 < n := by omega
  obtain ⟨M, hM⟩ : ∃ M : Nat, n = M := ⟨n.toNat, by omega⟩
  have hM1 : M ≤ 16384 := by omega
  subst hM
  rw [Int.toNat_natCast] at hOK hBAD
  have U := Lib.hid hu
  have E1 := Lib.hid hOK
  have E2 := Lib.hid hBAD
  have HM1 := Lib.hid hM1
  clear hu hOK hBAD hM1
  have HB := Lib.hid (Below.refl w.heap.size w)
  obtain ⟨da, Aa, na, ca, ea, Ea, ma, fa, rfl⟩ := ha.shape
  have Va := Lib.hid ha
  clear ha
  replace ia := Lib.hid ia
  go_enter Tryz.func40, Tryz.ntmps40
  have h := HoldG.new Va.out
  have b := al_below w (.cells #[.bool da, .slice Aa na ca, .bool ea, .slice Ea ma fa] 42)
  replace HB := Lib.hid (bstep HB.out b)
  clear b
  have Ha := Lib.hid h
  clear h Va
  have h := Blk4.new (w.alloc (.cells #[.bool da, .slice Aa na ca, .bool ea, .slice Ea ma fa] 42)) 42 (.bool false) (.slice none 0 0) (.bool false) (.slice none 0 0)
  simp only [World.size_alloc] at h
  have b := al_below (w.alloc (.cells #[.bool da, .slice Aa na ca, .bool ea, .slice Ea ma fa] 42)) (.cells #[.bool false, .slice none 0 0, .bool false, .slice none 0 0] 42)
  replace HB := Lib.hid (bstep HB.out b)
  replace Ha := Lib.hid (Ha.out.below b)
  clear b
  have R0 := Lib.hid (show Blk4 _ (w.heap.size + 1) 42 (.bool false) (.slice none 0 0) (.bool false) (.slice none 0 0) from h)
  clear h
  have gHa0 := Ha.out.c0
  have gHa1 := Ha.out.c1
  have gHa2 := Ha.out.c2
  have gHa3 := Ha.out.c3
  go_wp2_with fail
  have HU := unit_any a _ _ Ha.out.2 ia.out
  rw [U.out] at HU
  refine (HU).mono ?_
  rintro e w51 ⟨rfl, b⟩
  clear gHa0 gHa1 gHa2 gHa3
  have z51 := b.size
  simp only [World.size_alloc] at z51
  replace z51 := Lib.hid z51
  replace HB := Lib.hid (bstep HB.out b)
  replace Ha := Lib.hid (Ha.out.below b)
  replace R0 := Lib.hid (R0.out.below b)
  clear b
  clear HU
  go_wp2_with fail
  refine (gof_any 1 _ (by omega)).mono ?_
  rintro e w52 ⟨v, rfl, h, b⟩
  obtain ⟨d52, A52, n52, c52, e52, E52, m52, f52, rfl⟩ := h.shape
  have z52 := b.size
  replace z52 := Lib.hid z52
  replace HB := Lib.hid (bstep HB.out b)
  replace Ha := Lib.hid (Ha.out.below b)
  replace R0 := Lib.hid (R0.out.below b)
  have V52 := Lib.hid h
  clear h b
  have h := HoldG.new V52.out
  have b := al_below w52 (.cells #[.bool d52, .slice A52 n52 c52, .bool e52, .slice E52 m52 f52] 42)
  replace HB := Lib.hid (bstep HB.out b)
  replace Ha := Lib.hid (Ha.out.below b)
  replace R0 := Lib.hid (R0.out.below b)
  clear b
  have H52 := Lib.hid h
  clear h V52
  replace H52 := Lib.hid (show HoldG _ _ (a ^ 0) _ _ _ _ _ _ _ _ from by rw [Rat.pow_zero]; exact H52.out)
  go_wp2_with fail
  have SZ := Lib.hid (show w52.heap.size ≤ (w52.alloc (.cells #[.bool d52, .slice A52 n52 c52, .bool e52, .slice E52 m52 f52] 42)).heap.size from by simp only [World.size_alloc]; omega)
  go_loopg [8] M (fun gk iv wr => ∃ (i : Nat) (d7 : Bool) (A7 : Option Addr) (n7 c7 : Nat) (e7 : Bool) (E7 : Option Addr) (m7 f7 : Nat), gk + i = M ∧ iv = .int .i64 i ∧ Hid (HoldG wr (w52.heap.size) (a ^ i) d7 A7 n7 c7 e7 E7 m7 f7) ∧ Hid (InF (a ^ i)) ∧ Hid (HoldG wr (w.heap.size) a da Aa na ca ea Ea ma fa) ∧ Hid (Blk4 wr (w.heap.size + 1) 42 (.bool false) (.slice none 0 0) (.bool false) (.slice none 0 0)) ∧ Hid (w52.heap.size ≤ wr.heap.size) ∧ Hid (Below w.heap.size w wr))
  case atStart => exact ⟨0, _, _, _, _, _, _, _, _, by omega, rfl, H52, Lib.hid (by rw [Rat.pow_zero]; exact in_1), Ha, R0, SZ, HB⟩
  case round =>
    clear H52 Ha R0 HB SZ
    obtain ⟨i, d7, A7, n7, c7, e7, E7, m7, f7, hgi, rfl, H7, IO, Ha, R0, SZ, HB⟩ := hrel
    by_cases hlt : (i : Int) < (M : Int)
    · have ei : IntKind.i64.wrap ((i : Int) + 1) = (i : Int) + 1 := IntWalk.i64_in _ (by have := HM1.out; omega)
      have hx1 : (a ^ i).num * a.num = (a ^ (i + 1)).num := by rw [(rat_pow a i).1, (rat_pow a (i + 1)).1, Int.pow_succ]
      have hx2 : ((a ^ i).den : Int) * (a.den : Int) = ((a ^ (i + 1)).den : Int) := by rw [(rat_pow a i).2, (rat_pow a (i + 1)).2, Int.pow_succ]
      obtain ⟨X, hX⟩ : ∃ X, a ^ (i + 1) = X := ⟨_, rfl⟩
      rw [hX] at hx1 hx2
      have HX := Lib.hid hX
      have X1 := Lib.hid hx1
      have X2 := Lib.hid hx2
      have B1 := Lib.hid (show Bits 60000 X.num from hx1 ▸ (((bits20 IO.out.1).mul (bits20 ia.out.1)).mono (by omega)))
      have B2 := Lib.hid (show Bits 60000 (X.den : Int) from hx2 ▸ (((bits20 (den_lim IO.out)).mul (bits20 (den_lim ia.out))).mono (by omega)))
      clear hX hx1 hx2
      go_wp2_with fail
      refine po_r16 rfl rfl H7.out rfl Ha.out IO.out ia.out X1.out X2.out B1.out B2.out ?_
      intro w53 u41 u42 u43 u44 u45 u46 u47 u48 u49 u50 u51 u52 u40 u53 u54 u10 g9 d9 A9 n9 c9 e9 E9 m9 f9 b h9 l9 o10
      obtain rfl := o10
      simp only [List.foldl_cons, List.foldl_nil, List.setIfInBounds_toArray, List.set_cons_zero, List.set_cons_succ]
      have z53 := b.size
      replace z53 := Lib.hid z53
      replace H7 := Lib.hid (H7.out.below b)
      replace Ha := Lib.hid (Ha.out.below b)
      replace R0 := Lib.hid (R0.out.below b)
      replace HB := Lib.hid (bstep HB.out b)
      have H9 := Lib.hid h9
      have L9 := Lib.hid l9
      clear h9 l9
      clear b
      clear X1 X2 B1 B2
      replace SZ := Lib.hid (Nat.le_trans SZ.out z53.out)
      by_cases hin : InF X
      · have HIN := Lib.hid hin
        have F1 := (fitQ_in hin).1
        rw [F1] at H9
        rw [(fitQ_in hin).2]
        clear hin F1
        have V9 := Lib.hid H9.out.2
        have gH90 := H9.out.c0
        have gH91 := H9.out.c1
        have gH92 := H9.out.c2
        have gH93 := H9.out.c3
        clear H9
        have SZ_ := SZ.out
        have z51_ := z51.out
        have z52_ := z52.out
        have z53_ := z53.out
        have sH7z0 := H7.out.c0
        have tH7z0 := H7.out.1.f0
        have sH7z1 := H7.out.c1
        have tH7z1 := H7.out.1.f1
        have sH7z2 := H7.out.c2
        have tH7z2 := H7.out.1.f2
        have sH7z3 := H7.out.c3
        have tH7z3 := H7.out.1.f3
        have BK := Lib.hid H7.out.1
        have NB := Lib.hid (HoldG.made4 V9.out H7.out.1)
        replace Ha := Lib.hid (Ha.out.off4 (a1 := .bool d9) (a2 := .slice A9 n9 c9) (a3 := .bool e9) (a4 := .slice E9 m9 f9) BK.out (by omega))
        replace R0 := Lib.hid (R0.out.off4 (a1 := .bool d9) (a2 := .slice A9 n9 c9) (a3 := .bool e9) (a4 := .slice E9 m9 f9) (g := w52.heap.size) (by omega))
        replace HB := Lib.hid (below_off4 (a1 := .bool d9) (a2 := .slice A9 n9 c9) (a3 := .bool e9) (a4 := .slice E9 m9 f9) (g := w52.heap.size) HB.out (by omega))
        replace V9 := Lib.hid (V9.out.st4 (a1 := .bool d9) (a2 := .slice A9 n9 c9) (a3 := .bool e9) (a4 := .slice E9 m9 f9) BK.out)
        clear H7 BK
        have H7 := NB
        clear NB
        clear z51_ z52_ z53_
        clear V9
        clear SZ_
        clear L9
        clear z53
        go_wp2_with fail
        clear gH90 gH91 gH92 gH93
        go_roundg (gk - 1)
        case measure => omega
        case rel =>
          refine ⟨i + 1, d9, A9, n9, c9, e9, E9, m9, f9, by omega, by go_num, ?_, ?_, Ha, R0, ?_, HB⟩
          · rw [HX.out]; exact H7
          · rw [HX.out]; exact HIN
          · have h := SZ.out; exact Lib.hid (by simpa only [size_setc] using h)
      · obtain ⟨hX0, hE0⟩ := E2.out (i + 1) (by omega) (by rw [HX.out]; exact hin)
        subst hX0
        subst hE0
        rw [(fitQ_out hin).2]
        clear hin
        clear H9
        clear H7
        clear Ha
        go_wp2_with fail
        refine (gof_zero _).mono ?_
        rintro e w54 ⟨v, rfl, h, b⟩
        obtain ⟨d54, A54, n54, c54, e54, E54, m54, f54, rfl⟩ := h.shape
        have z54 := b.size
        replace z54 := Lib.hid z54
        replace R0 := Lib.hid (R0.out.below b)
        replace HB := Lib.hid (bstep HB.out b)
        have V54 := Lib.hid h
        clear h b
        have SZ_ := SZ.out
        have z51_ := z51.out
        have z52_ := z52.out
        have gR00 := R0.out.c0
        have yR00 := R0.out.f0
        have gR01 := R0.out.c1
        have yR01 := R0.out.f1
        have gR02 := R0.out.c2
        have yR02 := R0.out.f2
        have gR03 := R0.out.c3
        have yR03 := R0.out.f3
        have HF := Lib.hid (retG (V54.out) R0.out HB.out (by omega))
        clear R0 HB V54
        clear U E1 E2 HM1 IO ia SZ HX L9 SZ_ z51_ z52_
        go_wp2_with fail
        exact bodyPost_ret (v := .tuple #[.agg #[.bool d54, .slice A54 n54 c54, .bool e54, .slice E54 m54 f54], .int .i64 4]) (by simp [results, Tryz.results40, go_sem, gR00, gR01, gR02, gR03]) rfl ⟨_, rfl, HF.out.1, HF.out.2.1⟩
    · obtain rfl : i = M := by omega
      obtain ⟨hX0, hE0⟩ := E1.out IO.out
      subst hX0
      subst hE0
      clear Ha
      have SZ_ := SZ.out
      have z51_ := z51.out
      have z52_ := z52.out
      have gR00 := R0.out.c0
      have yR00 := R0.out.f0
      have gR01 := R0.out.c1
      have yR01 := R0.out.f1
      have gR02 := R0.out.c2
      have yR02 := R0.out.f2
      have gR03 := R0.out.c3
      have yR03 := R0.out.f3
      have gH70 := H7.out.c0
      have gH71 := H7.out.c1
      have gH72 := H7.out.c2
      have gH73 := H7.out.c3
      have HF := Lib.hid (retG (H7.out.2) R0.out HB.out (by omega))
      clear H7 R0 HB
      clear U E1 E2 HM1 IO ia SZ SZ_ z51_ z52_
      go_wp2_with fail
      exact bodyPost_ret (v := .tuple #[.agg #[.bool d7, .slice A7 n7 c7, .bool e7, .slice E7 m7 f7], .int .i64 0]) (by simp [results, Tryz.results40, go_sem, gR00, gR01, gR02, gR03]) rfl ⟨_, rfl, HF.out.1, HF.out.2.1⟩
end Go.Proofs.YtocooajlfpngdaaGreatDoor
namespace Go.Proofs.YtocooajlfpngdaaGreatDoor
open Go.RowKit
set_option linter.unusedVariables false

theorem neg1_pow (N : Nat) : (-1 : Int) ^ N = if N % 2 = 0 then 1 else -1 := by
  induction N with
  | zero => rfl
  | succ n ih =>
    rw [Int.pow_succ, ih]
    by_cases h : n % 2 = 0
    · rw [if_pos h, if_neg (by omega)]; rfl
    · rw [if_neg h, if_pos (by omega)]; rfl
theorem zero_pow' {N : Nat} (h : 0 < N) : (0 : Int) ^ N = 0 := by
  obtain ⟨m, rfl⟩ : ∃ m, N = m + 1 := ⟨N - 1, by omega⟩
  rw [Int.pow_succ, Int.mul_zero]
theorem unit_parts {a : Rat} (h : isU a = true) : (a.den : Int) = 1 ∧ -1 ≤ a.num ∧ a.num ≤ 1 := of_decide_eq_true h
theorem unit_in {a : Rat} (h : isU a = true) : InF a := by
  have h1 := unit_parts h
  have h2 := lim_1
  exact ⟨by omega, by omega⟩
theorem unit_pow {a : Rat} (h : isU a = true) {N : Nat} (hN : 0 < N) : a ^ N = if N % 2 = 0 ∧ a.num < 0 then -a else a := by
  obtain ⟨h1, h2, h3⟩ := unit_parts h
  have hd : a.den = 1 := by omega
  have e1 := (rat_pow a N).1
  have e2 : (a ^ N).den = 1 := by rw [Rat.den_pow, hd, Nat.one_pow]
  rcases (show a.num = -1 ∨ a.num = 0 ∨ a.num = 1 by omega) with h4 | h4 | h4
  · rw [h4, neg1_pow] at e1
    by_cases h5 : N % 2 = 0
    · rw [if_pos h5] at e1
      rw [if_pos ⟨h5, by omega⟩]
      exact Rat.ext (by rw [e1]; show (1 : Int) = -a.num; omega) (by rw [e2]; show 1 = a.den; omega)
    · rw [if_neg h5] at e1
      rw [if_neg (fun h => h5 h.1)]
      exact Rat.ext (by rw [e1]; omega) (by rw [e2]; omega)
  · rw [h4, zero_pow' hN] at e1
    rw [if_neg (fun h => by omega)]
    exact Rat.ext (by rw [e1]; omega) (by rw [e2]; omega)
  · rw [h4, Int.one_pow] at e1
    rw [if_neg (fun h => by omega)]
    exact Rat.ext (by rw [e1]; omega) (by rw [e2]; omega)
theorem inF_parts {a : Rat} {N : Nat} : InF (a ^ N) ↔ ((a.num ^ N).natAbs : Int) < lim ∧ (((a.den : Int) ^ N).natAbs : Int) < lim := by
  have h1 := (rat_pow a N).1
  have h2 := (rat_pow a N).2
  constructor
  · intro h
    have h3 := h.1
    have h4 := den_lim h
    rw [h1] at h3
    rw [h2] at h4
    exact ⟨h3, h4⟩
  · intro h
    refine ⟨by rw [h1]; exact h.1, ?_⟩
    have h4 := h.2
    rw [← h2] at h4
    omega
theorem pow_stays {a : Rat} {j N : Nat} (hj : j ≤ N) (h : ¬ InF (a ^ j)) : ¬ InF (a ^ N) := by
  intro hN
  rw [inF_parts] at h hN
  by_cases h1 : ((a.num ^ j).natAbs : Int) < lim
  · exact pow_out lim_1 hj (fun h2 => h ⟨h1, h2⟩) hN.2
  · exact pow_out lim_1 hj h1 hN.1
theorem pow_big {a : Rat} (hu : isU a = false) {N : Nat} (hN : 16384 < N) : ¬ InF (a ^ N) := by
  have hp := a.den_pos
  have hu' : ¬ ((a.den : Int) = 1 ∧ -1 ≤ a.num ∧ a.num ≤ 1) := of_decide_eq_false hu
  have h2 : lim ≤ (2 : Int) ^ N := by unfold lim; exact pow_mono' (by omega) (by omega)
  intro hN'
  rw [inF_parts] at hN'
  by_cases h : 1 < a.num.natAbs
  · have := two_pow_le h N
    omega
  · have := two_pow_le (x := (a.den : Int)) (by omega) N
    omega
theorem gpow_any (a : Rat) (u : Value) (w : World) (ha : RepG w w.heap.size a u) (ia : InF a) (n : Int) (hn : n ≤ 9223372036854775807) : Calls Tryz.prog 40 #[u, .int .i64 n] w (NewGE (powQ a n) (powR a n) w) := by
  rcases Int.lt_trichotomy n 0 with h | h | h
  · unfold powQ powR
    rw [if_pos h, if_pos h]
    exact gpow_neg a u w ha ia n hn h
  · unfold powQ powR
    rw [if_neg (by omega), if_neg (by omega)]
    subst h
    rw [show (0 : Int).toNat = 0 from rfl, Rat.pow_zero]
    have h1 : InF (1 : Rat) := in_1
    rw [(fitQ_in h1).1, (fitQ_in h1).2]
    exact gpow_zero a u w ha ia 0 hn rfl
  · unfold powQ powR
    rw [if_neg (by omega), if_neg (by omega)]
    have hN : 0 < n.toNat := by omega
    cases hu : isU a with
    | true =>
      have iu := unit_in hu
      have e := unit_pow hu hN
      have e2 : n.tmod 2 = n % 2 := Int.tmod_eq_emod_of_nonneg (by omega)
      by_cases h2 : n.tmod 2 = 0
      · by_cases h3 : a.num < 0
        · rw [e, if_pos ⟨by omega, h3⟩, (fitQ_in (InF.neg iu)).1, (fitQ_in (InF.neg iu)).2]
          exact gpow_even a u w ha ia n hn h hu h2 h3
        · rw [e, if_neg (fun h => h3 h.2), (fitQ_in iu).1, (fitQ_in iu).2]
          exact gpow_pos a u w ha ia n hn h hu h2 h3
      · rw [e, if_neg (fun h => by omega), (fitQ_in iu).1, (fitQ_in iu).2]
        exact gpow_odd a u w ha ia n hn h hu h2
    | false =>
      by_cases h1 : n ≤ 16384
      · refine gpow_loop a u w ha ia n hn hu h h1 _ _ (fun hi => ⟨(fitQ_in hi).1, (fitQ_in hi).2⟩) (fun j hj hb => ?_)
        have := pow_stays hj hb
        exact ⟨(fitQ_out this).1, (fitQ_out this).2⟩
      · have := pow_big hu (N := n.toNat) (by omega)
        rw [(fitQ_out this).1, (fitQ_out this).2]
        exact gpow_big a u w ha ia n hn hu (by omega)
end Go.Proofs.YtocooajlfpngdaaGreatDoor
