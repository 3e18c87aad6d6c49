/- Contracts of package frac: Mul. -/
import Derived.Test.YtocooajlfpngdaaGreatDoorB33
namespace Go.Proofs.YtocooajlfpngdaaGreatDoor
open Go.RowKit
set_option linter.unusedVariables false

theorem ArrI.mk2 {W : World} {z1 z2 : Int} {d1 d2 : Bool} {A1 A2 : Option Addr} {n1 c1 n2 c2 : Nat} (t : TypeId) (h1 : RepI W W.heap.size z1 (.agg #[.bool d1, .slice A1 n1 c1])) (h2 : RepI W W.heap.size z2 (.agg #[.bool d2, .slice A2 n2 c2])) :
    ArrI (W.alloc (.cells #[.bool d1, .slice A1 n1 c1, .bool d2, .slice A2 n2 c2] t)) W.heap.size [z1, z2] := by
  refine ⟨by rw [World.size_alloc]; omega, fun i hi => ?_⟩
  have hb := al_below W (.cells #[.bool d1, .slice A1 n1 c1, .bool d2, .slice A2 n2 c2] t)
  have hn : (W.alloc (.cells #[.bool d1, .slice A1 n1 c1, .bool d2, .slice A2 n2 c2] t)).heap[W.heap.size]? = some (.cells #[.bool d1, .slice A1 n1 c1, .bool d2, .slice A2 n2 c2] t (0, 0)) := World.alloc_heap_new _ _
  have : i = 0 ∨ i = 1 := by simp at hi; omega
  rcases this with rfl | rfl
  · exact ⟨_, _, _, _, cell_at hn rfl, cell_at hn rfl, h1.step hb⟩
  · exact ⟨_, _, _, _, cell_at hn rfl, cell_at hn rfl, h2.step hb⟩
theorem ArrI.mk3 {W : World} {z1 z2 z3 : Int} {d1 d2 d3 : Bool} {A1 A2 A3 : Option Addr} {n1 c1 n2 c2 n3 c3 : Nat} (t : TypeId) (h1 : RepI W W.heap.size z1 (.agg #[.bool d1, .slice A1 n1 c1])) (h2 : RepI W W.heap.size z2 (.agg #[.bool d2, .slice A2 n2 c2])) (h3 : RepI W W.heap.size z3 (.agg #[.bool d3, .slice A3 n3 c3])) :
    ArrI (W.alloc (.cells #[.bool d1, .slice A1 n1 c1, .bool d2, .slice A2 n2 c2, .bool d3, .slice A3 n3 c3] t)) W.heap.size [z1, z2, z3] := by
  refine ⟨by rw [World.size_alloc]; omega, fun i hi => ?_⟩
  have hb := al_below W (.cells #[.bool d1, .slice A1 n1 c1, .bool d2, .slice A2 n2 c2, .bool d3, .slice A3 n3 c3] t)
  have hn : (W.alloc (.cells #[.bool d1, .slice A1 n1 c1, .bool d2, .slice A2 n2 c2, .bool d3, .slice A3 n3 c3] t)).heap[W.heap.size]? = some (.cells #[.bool d1, .slice A1 n1 c1, .bool d2, .slice A2 n2 c2, .bool d3, .slice A3 n3 c3] t (0, 0)) := World.alloc_heap_new _ _
  have : i = 0 ∨ i = 1 ∨ i = 2 := by simp at hi; omega
  rcases this with rfl | rfl | rfl
  · exact ⟨_, _, _, _, cell_at hn rfl, cell_at hn rfl, h1.step hb⟩
  · exact ⟨_, _, _, _, cell_at hn rfl, cell_at hn rfl, h2.step hb⟩
  · exact ⟨_, _, _, _, cell_at hn rfl, cell_at hn rfl, h3.step hb⟩
theorem in_two {x y : Int} (hx : InL x) (hy : InL y) : ∀ i, i < [x, y].length → InL ([x, y][i]?.getD 0) := fun i hi => all_two hx hy i hi
theorem in_three {x y z : Int} (hx : InL x) (hy : InL y) (hz : InL z) : ∀ i, i < [x, y, z].length → InL ([x, y, z][i]?.getD 0) := fun i hi => all_three hx hy hz i hi
theorem prod_two {x y : Int} (hx : InL x) : prodF 1 [x, y] = (fitI (x * y), fitE (x * y)) := by
  have hx' : ((1 * x).natAbs : Int) < lim := by rw [Int.one_mul]; exact hx
  rw [prodF, if_pos hx', Int.one_mul, prodF, fitI, fitE]
  by_cases h : ((x * y).natAbs : Int) < lim
  · rw [if_pos h, if_pos h, if_pos h]; rfl
  · rw [if_neg h, if_neg h, if_neg h]
theorem prod_three {x y z : Int} (hx : 0 < x) (hy : 0 < y) (hz : 0 < z) (hx1 : InL x) : prodF 1 [x, y, z] = (fitI (x * y * z), fitE (x * y * z)) := by
  have hx' : ((1 * x).natAbs : Int) < lim := by rw [Int.one_mul]; exact hx1
  have h1 : 0 < x * y := Int.mul_pos hx hy
  have h2 : x * y ≤ x * y * z := by
    have := Int.mul_le_mul_of_nonneg_left (show (1 : Int) ≤ z by omega) (Int.le_of_lt h1)
    omega
  rw [prodF, if_pos hx', Int.one_mul, prodF, fitI, fitE]
  by_cases h : ((x * y).natAbs : Int) < lim
  · rw [if_pos h, prodF]
    by_cases h' : ((x * y * z).natAbs : Int) < lim
    · rw [if_pos h', if_pos h', if_pos h']; rfl
    · rw [if_neg h', if_neg h', if_neg h']
  · rw [if_neg h, if_neg (by omega), if_neg (by omega)]
theorem max04 : max (0 : Int) 4 = 4 := by decide
theorem max40 : max (4 : Int) 0 = 4 := by decide
/-- a fraction in range and 0, or 0 and ErrLimit -/
def fitQ (v : Rat) : Rat := if (v.num.natAbs : Int) < lim ∧ (v.den : Int) < lim then v else 0
def fitR (v : Rat) : Int := if (v.num.natAbs : Int) < lim ∧ (v.den : Int) < lim then 0 else 4
theorem fitQ_in {v : Rat} (h : InF v) : fitQ v = v ∧ fitR v = 0 := ⟨if_pos h, if_pos h⟩
theorem fitQ_out {v : Rat} (h : ¬ InF v) : fitQ v = 0 ∧ fitR v = 4 := ⟨if_neg h, if_neg h⟩
set_option maxRecDepth 100000 in
set_option maxHeartbeats 4000000 in
theorem mul_tt (a b : Rat) (u v : Value) (w : World) (ha : RepF w w.heap.size a u) (hb : RepF w w.heap.size b v) (ia : InF a) (ib : InF b) (hn : ((a * b).num.natAbs : Int) < lim) (hd : (((a * b).den : Int).natAbs : Int) < lim) :
    Calls Tryz.prog 32 #[u, v] w (NewFE (a * b) 0 w) := by
  obtain ⟨X, hX⟩ : ∃ X, X = a * b := ⟨_, rfl⟩
  obtain ⟨d1, hd1⟩ : ∃ d, (Nat.gcd a.num.natAbs (b.den : Int).natAbs : Int) = d := ⟨_, rfl⟩
  obtain ⟨d2, hd2⟩ : ∃ d, (Nat.gcd b.num.natAbs (a.den : Int).natAbs : Int) = d := ⟨_, rfl⟩
  have hm := rat_mul a b
  rw [← hX] at hm hn hd
  rw [show ((Nat.gcd a.num.natAbs b.den : Nat) : Int) = d1 from hd1, show ((Nat.gcd b.num.natAbs a.den : Nat) : Int) = d2 from hd2] at hm
  have hp1 : 0 < d1 := by have := Nat.gcd_pos_of_pos_right a.num.natAbs (show 0 < (b.den : Int).natAbs by have := b.den_pos; omega); omega
  have hp2 : 0 < d2 := by have := Nat.gcd_pos_of_pos_right b.num.natAbs (show 0 < (a.den : Int).natAbs by have := a.den_pos; omega); omega
  try rw [← hX]
  have HX := Lib.hid hX
  have HD1 := Lib.hid hd1
  have HD2 := Lib.hid hd2
  have HM := Lib.hid hm
  have HP1 := Lib.hid (show d1 ≠ 0 by omega)
  have HP2 := Lib.hid (show d2 ≠ 0 by omega)
  have HNF := Lib.hid hn
  have HDF := Lib.hid hd
  have Q1 := Lib.hid (show InL (a.num / d1) from ediv_ltl ia.1 d1)
  have Q2 := Lib.hid (show InL ((b.den : Int) / d1) from ediv_ltl (den_lim ib) d1)
  have Q3 := Lib.hid (show InL (b.num / d2) from ediv_ltl ib.1 d2)
  have Q4 := Lib.hid (show InL ((a.den : Int) / d2) from ediv_ltl (den_lim ia) d2)
  clear hX hd1 hd2 hm hp1 hp2 hn hd
  replace ia := Lib.hid ia
  replace ib := Lib.hid ib
  have HB := Lib.hid (Below.refl w.heap.size w)
  obtain ⟨da, Aa, na, ca, ea, Ea, ma, fa, rfl⟩ := ha.shape
  have Va := Lib.hid ha
  clear ha
  obtain ⟨db, Ab, nb, cb, eb, Eb, mb, fb, rfl⟩ := hb.shape
  have Vb := Lib.hid hb
  clear hb
  go_enter Tryz.func32, Tryz.ntmps32
  have h := HoldQ.new Va.out
  have b := al_below w (.cells #[.bool da, .slice Aa na ca, .bool ea, .slice Ea ma fa] 36)
  replace HB := Lib.hid (bstep HB.out b)
  replace Vb := Lib.hid (Vb.out.step b)
  clear b
  have Ha := Lib.hid h
  clear h Va
  have h := HoldQ.new Vb.out
  simp only [World.size_alloc] at h
  have b := al_below (w.alloc (.cells #[.bool da, .slice Aa na ca, .bool ea, .slice Ea ma fa] 36)) (.cells #[.bool db, .slice Ab nb cb, .bool eb, .slice Eb mb fb] 36)
  replace HB := Lib.hid (bstep HB.out b)
  replace Ha := Lib.hid (Ha.out.below b)
  clear b
  have Hb := Lib.hid h
  clear h Vb
  have h := Blk4.new ((w.alloc (.cells #[.bool da, .slice Aa na ca, .bool ea, .slice Ea ma fa] 36)).alloc (.cells #[.bool db, .slice Ab nb cb, .bool eb, .slice Eb mb fb] 36)) 36 (.bool false) (.slice none 0 0) (.bool false) (.slice none 0 0)
  simp only [World.size_alloc] at h
  have b := al_below ((w.alloc (.cells #[.bool da, .slice Aa na ca, .bool ea, .slice Ea ma fa] 36)).alloc (.cells #[.bool db, .slice Ab nb cb, .bool eb, .slice Eb mb fb] 36)) (.cells #[.bool false, .slice none 0 0, .bool false, .slice none 0 0] 36)
  replace HB := Lib.hid (bstep HB.out b)
  replace Ha := Lib.hid (Ha.out.below b)
  replace Hb := Lib.hid (Hb.out.below b)
  clear b
  have R0 := Lib.hid (show Blk4 _ (w.heap.size + 1 + 1) 36 (.bool false) (.slice none 0 0) (.bool false) (.slice none 0 0) from h)
  clear h
  go_wp2_with fail
  refine mul_reg1 rfl rfl rfl Ha.out Hb.out ia.out ib.out HD1.out HP1.out ?_
  intro w1 u16 u17 u18 u19 u20 u15 u21 u22 g6 g7 d6 A6 n6 c6 d7 A7 n7 c7 b h6 h7 x6_7 l6 l7
  simp only [List.foldl_cons, List.foldl_nil, List.setIfInBounds_toArray, List.set_cons_zero, List.set_cons_succ]
  simp only [World.size_alloc] at l6 l7
  have z1 := b.size
  simp only [World.size_alloc] at z1
  replace z1 := Lib.hid z1
  replace HB := Lib.hid (bstep HB.out b)
  replace Ha := Lib.hid (Ha.out.below b)
  replace Hb := Lib.hid (Hb.out.below b)
  replace R0 := Lib.hid (R0.out.below b)
  have H6 := Lib.hid h6
  have L6 := Lib.hid l6
  clear h6 l6
  have H7 := Lib.hid h7
  have L7 := Lib.hid l7
  clear h7 l7
  replace x6_7 := Lib.hid x6_7
  clear b
  go_wp2_with fail
  refine mul_reg2 rfl rfl rfl Ha.out Hb.out ia.out ib.out HD2.out HP2.out ?_
  intro w2 u24 u25 u26 u27 u28 u23 u29 u30 g8 g9 d8 A8 n8 c8 d9 A9 n9 c9 b h8 h9 x8_9 l8 l9
  simp only [List.foldl_cons, List.foldl_nil, List.setIfInBounds_toArray, List.set_cons_zero, List.set_cons_succ]
  have z2 := b.size
  replace z2 := Lib.hid z2
  replace HB := Lib.hid (bstep HB.out b)
  replace Ha := Lib.hid (Ha.out.below b)
  replace Hb := Lib.hid (Hb.out.below b)
  replace R0 := Lib.hid (R0.out.below b)
  replace H6 := Lib.hid (H6.out.below b)
  replace H7 := Lib.hid (H7.out.below b)
  have H8 := Lib.hid h8
  have L8 := Lib.hid l8
  clear h8 l8
  have H9 := Lib.hid h9
  have L9 := Lib.hid l9
  clear h9 l9
  replace x8_9 := Lib.hid x8_9
  clear b
  have gH60 := H6.out.c0
  have gH61 := H6.out.c1
  have gH80 := H8.out.c0
  have gH81 := H8.out.c1
  go_wp2_with fail
  have HR := Lib.hid (ArrI.mk2 (W := w2) 34 H6.out.2 H8.out.2)
  have hgR := Lib.hid (show w2.heap.size < (w2.alloc (.cells #[.bool d6, .slice A6 n6 c6, .bool d8, .slice A8 n8 c8] 34)).heap.size from by simp only [World.size_alloc]; omega)
  have b := al_below w2 (.cells #[.bool d6, .slice A6 n6 c6, .bool d8, .slice A8 n8 c8] 34)
  replace HB := Lib.hid (bstep HB.out b)
  replace Ha := Lib.hid (Ha.out.below b)
  replace Hb := Lib.hid (Hb.out.below b)
  replace R0 := Lib.hid (R0.out.below b)
  replace H6 := Lib.hid (H6.out.below b)
  replace H7 := Lib.hid (H7.out.below b)
  replace H8 := Lib.hid (H8.out.below b)
  replace H9 := Lib.hid (H9.out.below b)
  clear b
  clear gH60 gH61 gH80 gH81
  have HMP := product_any [a.num / d1, b.num / d2] (w2.heap.size) 2 2 _ HR.out hgR rfl (Lib.hid (by omega)) (in_two Q1.out Q3.out)
  rw [prod_two Q1.out, HM.out.1, (fit_in HNF.out).1, (fit_in HNF.out).2] at HMP
  dsimp only at HMP
  refine (HMP).mono ?_
  rintro e w3 ⟨v, rfl, h, b⟩
  obtain ⟨d3, A3, n3, c3, rfl⟩ := h.shape
  have z3 := b.size
  simp only [World.size_alloc] at z3
  replace z3 := Lib.hid z3
  replace HB := Lib.hid (bstep HB.out b)
  replace Ha := Lib.hid (Ha.out.below b)
  replace Hb := Lib.hid (Hb.out.below b)
  replace R0 := Lib.hid (R0.out.below b)
  replace H6 := Lib.hid (H6.out.below b)
  replace H7 := Lib.hid (H7.out.below b)
  replace H8 := Lib.hid (H8.out.below b)
  replace H9 := Lib.hid (H9.out.below b)
  have V3 := Lib.hid h
  clear h b
  clear HMP HR hgR
  have h := HoldI.new V3.out
  have b := al_below w3 (.cells #[.bool d3, .slice A3 n3 c3] 34)
  replace HB := Lib.hid (bstep HB.out b)
  replace Ha := Lib.hid (Ha.out.below b)
  replace Hb := Lib.hid (Hb.out.below b)
  replace R0 := Lib.hid (R0.out.below b)
  replace H6 := Lib.hid (H6.out.below b)
  replace H7 := Lib.hid (H7.out.below b)
  replace H8 := Lib.hid (H8.out.below b)
  replace H9 := Lib.hid (H9.out.below b)
  clear b
  have H3 := Lib.hid h
  clear h V3
  have gH90 := H9.out.c0
  have gH91 := H9.out.c1
  have gH70 := H7.out.c0
  have gH71 := H7.out.c1
  go_wp2_with fail
  have HR := Lib.hid (ArrI.mk2 (W := (w3.alloc (.cells #[.bool d3, .slice A3 n3 c3] 34))) 34 H9.out.2 H7.out.2)
  have hgR := Lib.hid (show w3.heap.size + 1 < ((w3.alloc (.cells #[.bool d3, .slice A3 n3 c3] 34)).alloc (.cells #[.bool d9, .slice A9 n9 c9, .bool d7, .slice A7 n7 c7] 34)).heap.size from by simp only [World.size_alloc]; omega)
  simp only [World.size_alloc] at HR
  have b := al_below (w3.alloc (.cells #[.bool d3, .slice A3 n3 c3] 34)) (.cells #[.bool d9, .slice A9 n9 c9, .bool d7, .slice A7 n7 c7] 34)
  replace HB := Lib.hid (bstep HB.out b)
  replace Ha := Lib.hid (Ha.out.below b)
  replace Hb := Lib.hid (Hb.out.below b)
  replace R0 := Lib.hid (R0.out.below b)
  replace H6 := Lib.hid (H6.out.below b)
  replace H7 := Lib.hid (H7.out.below b)
  replace H8 := Lib.hid (H8.out.below b)
  replace H9 := Lib.hid (H9.out.below b)
  replace H3 := Lib.hid (H3.out.below b)
  clear b
  clear gH90 gH91 gH70 gH71
  have HMP := product_any [(a.den : Int) / d2, (b.den : Int) / d1] (w3.heap.size + 1) 2 2 _ HR.out hgR rfl (Lib.hid (by omega)) (in_two Q4.out Q2.out)
  rw [prod_two Q4.out, HM.out.2, (fit_in HDF.out).1, (fit_in HDF.out).2] at HMP
  dsimp only at HMP
  refine (HMP).mono ?_
  rintro e w4 ⟨v, rfl, h, b⟩
  obtain ⟨d4, A4, n4, c4, rfl⟩ := h.shape
  have z4 := b.size
  simp only [World.size_alloc] at z4
  replace z4 := Lib.hid z4
  replace HB := Lib.hid (bstep HB.out b)
  replace Ha := Lib.hid (Ha.out.below b)
  replace Hb := Lib.hid (Hb.out.below b)
  replace R0 := Lib.hid (R0.out.below b)
  replace H6 := Lib.hid (H6.out.below b)
  replace H7 := Lib.hid (H7.out.below b)
  replace H8 := Lib.hid (H8.out.below b)
  replace H9 := Lib.hid (H9.out.below b)
  replace H3 := Lib.hid (H3.out.below b)
  have V4 := Lib.hid h
  clear h b
  clear HMP HR hgR
  have h := HoldI.new V4.out
  have b := al_below w4 (.cells #[.bool d4, .slice A4 n4 c4] 34)
  replace HB := Lib.hid (bstep HB.out b)
  replace Ha := Lib.hid (Ha.out.below b)
  replace Hb := Lib.hid (Hb.out.below b)
  replace R0 := Lib.hid (R0.out.below b)
  replace H6 := Lib.hid (H6.out.below b)
  replace H7 := Lib.hid (H7.out.below b)
  replace H8 := Lib.hid (H8.out.below b)
  replace H9 := Lib.hid (H9.out.below b)
  replace H3 := Lib.hid (H3.out.below b)
  clear b
  have H4 := Lib.hid h
  clear h V4
  have gR00 := R0.out.c0
  have yR00 := R0.out.f0
  have gR01 := R0.out.c1
  have yR01 := R0.out.f1
  have gR02 := R0.out.c2
  have yR02 := R0.out.f2
  have gR03 := R0.out.c3
  have yR03 := R0.out.f3
  have gH30 := H3.out.c0
  have gH31 := H3.out.c1
  have gH40 := H4.out.c0
  have gH41 := H4.out.c1
  have HF := Lib.hid (retQ (RepF.mk' H3.out.2 H4.out.2 rfl rfl) R0.out HB.out (by omega))
  clear HB Ha Hb R0 H6 H7 H8 H9 H3 H4
  clear ia ib HX HD1 HD2 HM HP1 HP2 HNF HDF Q1 Q2 Q3 Q4 L6 L7 L8 L9 x6_7 x8_9
  go_wp2_with fail
  exact bodyPost_ret (v := .tuple #[.agg #[.bool d3, .slice A3 n3 c3, .bool d4, .slice A4 n4 c4], .int .i64 0]) (by simp [results, Tryz.results32, go_sem, gR00, gR01, gR02, gR03]) rfl ⟨_, rfl, HF.out.1, HF.out.2.1⟩
set_option maxRecDepth 100000 in
set_option maxHeartbeats 4000000 in
theorem mul_tf (a b : Rat) (u v : Value) (w : World) (ha : RepF w w.heap.size a u) (hb : RepF w w.heap.size b v) (ia : InF a) (ib : InF b) (hn : ((a * b).num.natAbs : Int) < lim) (hd : lim ≤ (((a * b).den : Int).natAbs : Int)) :
    Calls Tryz.prog 32 #[u, v] w (NewFE 0 4 w) := by
  obtain ⟨X, hX⟩ : ∃ X, X = a * b := ⟨_, rfl⟩
  obtain ⟨d1, hd1⟩ : ∃ d, (Nat.gcd a.num.natAbs (b.den : Int).natAbs : Int) = d := ⟨_, rfl⟩
  obtain ⟨d2, hd2⟩ : ∃ d, (Nat.gcd b.num.natAbs (a.den : Int).natAbs : Int) = d := ⟨_, rfl⟩
  have hm := rat_mul a b
  rw [← hX] at hm hn hd
  rw [show ((Nat.gcd a.num.natAbs b.den : Nat) : Int) = d1 from hd1, show ((Nat.gcd b.num.natAbs a.den : Nat) : Int) = d2 from hd2] at hm
  have hp1 : 0 < d1 := by have := Nat.gcd_pos_of_pos_right a.num.natAbs (show 0 < (b.den : Int).natAbs by have := b.den_pos; omega); omega
  have hp2 : 0 < d2 := by have := Nat.gcd_pos_of_pos_right b.num.natAbs (show 0 < (a.den : Int).natAbs by have := a.den_pos; omega); omega
  try rw [← hX]
  have HX := Lib.hid hX
  have HD1 := Lib.hid hd1
  have HD2 := Lib.hid hd2
  have HM := Lib.hid hm
  have HP1 := Lib.hid (show d1 ≠ 0 by omega)
  have HP2 := Lib.hid (show d2 ≠ 0 by omega)
  have HNF := Lib.hid hn
  have HDF := Lib.hid hd
  have Q1 := Lib.hid (show InL (a.num / d1) from ediv_ltl ia.1 d1)
  have Q2 := Lib.hid (show InL ((b.den : Int) / d1) from ediv_ltl (den_lim ib) d1)
  have Q3 := Lib.hid (show InL (b.num / d2) from ediv_ltl ib.1 d2)
  have Q4 := Lib.hid (show InL ((a.den : Int) / d2) from ediv_ltl (den_lim ia) d2)
  clear hX hd1 hd2 hm hp1 hp2 hn hd
  replace ia := Lib.hid ia
  replace ib := Lib.hid ib
  have HB := Lib.hid (Below.refl w.heap.size w)
  obtain ⟨da, Aa, na, ca, ea, Ea, ma, fa, rfl⟩ := ha.shape
  have Va := Lib.hid ha
  clear ha
  obtain ⟨db, Ab, nb, cb, eb, Eb, mb, fb, rfl⟩ := hb.shape
  have Vb := Lib.hid hb
  clear hb
  go_enter Tryz.func32, Tryz.ntmps32
  have h := HoldQ.new Va.out
  have b := al_below w (.cells #[.bool da, .slice Aa na ca, .bool ea, .slice Ea ma fa] 36)
  replace HB := Lib.hid (bstep HB.out b)
  replace Vb := Lib.hid (Vb.out.step b)
  clear b
  have Ha := Lib.hid h
  clear h Va
  have h := HoldQ.new Vb.out
  simp only [World.size_alloc] at h
  have b := al_below (w.alloc (.cells #[.bool da, .slice Aa na ca, .bool ea, .slice Ea ma fa] 36)) (.cells #[.bool db, .slice Ab nb cb, .bool eb, .slice Eb mb fb] 36)
  replace HB := Lib.hid (bstep HB.out b)
  replace Ha := Lib.hid (Ha.out.below b)
  clear b
  have Hb := Lib.hid h
  clear h Vb
  have h := Blk4.new ((w.alloc (.cells #[.bool da, .slice Aa na ca, .bool ea, .slice Ea ma fa] 36)).alloc (.cells #[.bool db, .slice Ab nb cb, .bool eb, .slice Eb mb fb] 36)) 36 (.bool false) (.slice none 0 0) (.bool false) (.slice none 0 0)
  simp only [World.size_alloc] at h
  have b := al_below ((w.alloc (.cells #[.bool da, .slice Aa na ca, .bool ea, .slice Ea ma fa] 36)).alloc (.cells #[.bool db, .slice Ab nb cb, .bool eb, .slice Eb mb fb] 36)) (.cells #[.bool false, .slice none 0 0, .bool false, .slice none 0 0] 36)
  replace HB := Lib.hid (bstep HB.out b)
  replace Ha := Lib.hid (Ha.out.below b)
  replace Hb := Lib.hid (Hb.out.below b)
  clear b
  have R0 := Lib.hid (show Blk4 _ (w.heap.size + 1 + 1) 36 (.bool false) (.slice none 0 0) (.bool false) (.slice none 0 0) from h)
  clear h
  go_wp2_with fail
  refine mul_reg1 rfl rfl rfl Ha.out Hb.out ia.out ib.out HD1.out HP1.out ?_
  intro w1 u16 u17 u18 u19 u20 u15 u21 u22 g6 g7 d6 A6 n6 c6 d7 A7 n7 c7 b h6 h7 x6_7 l6 l7
  simp only [List.foldl_cons, List.foldl_nil, List.setIfInBounds_toArray, List.set_cons_zero, List.set_cons_succ]
  simp only [World.size_alloc] at l6 l7
  have z1 := b.size
  simp only [World.size_alloc] at z1
  replace z1 := Lib.hid z1
  replace HB := Lib.hid (bstep HB.out b)
  replace Ha := Lib.hid (Ha.out.below b)
  replace Hb := Lib.hid (Hb.out.below b)
  replace R0 := Lib.hid (R0.out.below b)
  have H6 := Lib.hid h6
  have L6 := Lib.hid l6
  clear h6 l6
  have H7 := Lib.hid h7
  have L7 := Lib.hid l7
  clear h7 l7
  replace x6_7 := Lib.hid x6_7
  clear b
  go_wp2_with fail
  refine mul_reg2 rfl rfl rfl Ha.out Hb.out ia.out ib.out HD2.out HP2.out ?_
  intro w2 u24 u25 u26 u27 u28 u23 u29 u30 g8 g9 d8 A8 n8 c8 d9 A9 n9 c9 b h8 h9 x8_9 l8 l9
  simp only [List.foldl_cons, List.foldl_nil, List.setIfInBounds_toArray, List.set_cons_zero, List.set_cons_succ]
  have z2 := b.size
  replace z2 := Lib.hid z2
  replace HB := Lib.hid (bstep HB.out b)
  replace Ha := Lib.hid (Ha.out.below b)
  replace Hb := Lib.hid (Hb.out.below b)
  replace R0 := Lib.hid (R0.out.below b)
  replace H6 := Lib.hid (H6.out.below b)
  replace H7 := Lib.hid (H7.out.below b)
  have H8 := Lib.hid h8
  have L8 := Lib.hid l8
  clear h8 l8
  have H9 := Lib.hid h9
  have L9 := Lib.hid l9
  clear h9 l9
  replace x8_9 := Lib.hid x8_9
  clear b
  have gH60 := H6.out.c0
  have gH61 := H6.out.c1
  have gH80 := H8.out.c0
  have gH81 := H8.out.c1
  go_wp2_with fail
  have HR := Lib.hid (ArrI.mk2 (W := w2) 34 H6.out.2 H8.out.2)
  have hgR := Lib.hid (show w2.heap.size < (w2.alloc (.cells #[.bool d6, .slice A6 n6 c6, .bool d8, .slice A8 n8 c8] 34)).heap.size from by simp only [World.size_alloc]; omega)
  have b := al_below w2 (.cells #[.bool d6, .slice A6 n6 c6, .bool d8, .slice A8 n8 c8] 34)
  replace HB := Lib.hid (bstep HB.out b)
  replace Ha := Lib.hid (Ha.out.below b)
  replace Hb := Lib.hid (Hb.out.below b)
  replace R0 := Lib.hid (R0.out.below b)
  replace H6 := Lib.hid (H6.out.below b)
  replace H7 := Lib.hid (H7.out.below b)
  replace H8 := Lib.hid (H8.out.below b)
  replace H9 := Lib.hid (H9.out.below b)
  clear b
  clear gH60 gH61 gH80 gH81
  have HMP := product_any [a.num / d1, b.num / d2] (w2.heap.size) 2 2 _ HR.out hgR rfl (Lib.hid (by omega)) (in_two Q1.out Q3.out)
  rw [prod_two Q1.out, HM.out.1, (fit_in HNF.out).1, (fit_in HNF.out).2] at HMP
  dsimp only at HMP
  refine (HMP).mono ?_
  rintro e w3 ⟨v, rfl, h, b⟩
  obtain ⟨d3, A3, n3, c3, rfl⟩ := h.shape
  have z3 := b.size
  simp only [World.size_alloc] at z3
  replace z3 := Lib.hid z3
  replace HB := Lib.hid (bstep HB.out b)
  replace Ha := Lib.hid (Ha.out.below b)
  replace Hb := Lib.hid (Hb.out.below b)
  replace R0 := Lib.hid (R0.out.below b)
  replace H6 := Lib.hid (H6.out.below b)
  replace H7 := Lib.hid (H7.out.below b)
  replace H8 := Lib.hid (H8.out.below b)
  replace H9 := Lib.hid (H9.out.below b)
  have V3 := Lib.hid h
  clear h b
  clear HMP HR hgR
  have h := HoldI.new V3.out
  have b := al_below w3 (.cells #[.bool d3, .slice A3 n3 c3] 34)
  replace HB := Lib.hid (bstep HB.out b)
  replace Ha := Lib.hid (Ha.out.below b)
  replace Hb := Lib.hid (Hb.out.below b)
  replace R0 := Lib.hid (R0.out.below b)
  replace H6 := Lib.hid (H6.out.below b)
  replace H7 := Lib.hid (H7.out.below b)
  replace H8 := Lib.hid (H8.out.below b)
  replace H9 := Lib.hid (H9.out.below b)
  clear b
  have H3 := Lib.hid h
  clear h V3
  have gH90 := H9.out.c0
  have gH91 := H9.out.c1
  have gH70 := H7.out.c0
  have gH71 := H7.out.c1
  go_wp2_with fail
  have HR := Lib.hid (ArrI.mk2 (W := (w3.alloc (.cells #[.bool d3, .slice A3 n3 c3] 34))) 34 H9.out.2 H7.out.2)
  have hgR := Lib.hid (show w3.heap.size + 1 < ((w3.alloc (.cells #[.bool d3, .slice A3 n3 c3] 34)).alloc (.cells #[.bool d9, .slice A9 n9 c9, .bool d7, .slice A7 n7 c7] 34)).heap.size from by simp only [World.size_alloc]; omega)
  simp only [World.size_alloc] at HR
  have b := al_below (w3.alloc (.cells #[.bool d3, .slice A3 n3 c3] 34)) (.cells #[.bool d9, .slice A9 n9 c9, .bool d7, .slice A7 n7 c7] 34)
  replace HB := Lib.hid (bstep HB.out b)
  replace Ha := Lib.hid (Ha.out.below b)
  replace Hb := Lib.hid (Hb.out.below b)
  replace R0 := Lib.hid (R0.out.below b)
  replace H6 := Lib.hid (H6.out.below b)
  replace H7 := Lib.hid (H7.out.below b)
  replace H8 := Lib.hid (H8.out.below b)
  replace H9 := Lib.hid (H9.out.below b)
  replace H3 := Lib.hid (H3.out.below b)
  clear b
  clear gH90 gH91 gH70 gH71
  have HMP := product_any [(a.den : Int) / d2, (b.den : Int) / d1] (w3.heap.size + 1) 2 2 _ HR.out hgR rfl (Lib.hid (by omega)) (in_two Q4.out Q2.out)
  rw [prod_two Q4.out, HM.out.2, (fit_out (Int.not_lt.2 HDF.out)).1, (fit_out (Int.not_lt.2 HDF.out)).2] at HMP
  dsimp only at HMP
  refine (HMP).mono ?_
  rintro e w4 ⟨v, rfl, h, b⟩
  obtain ⟨d4, A4, n4, c4, rfl⟩ := h.shape
  have z4 := b.size
  simp only [World.size_alloc] at z4
  replace z4 := Lib.hid z4
  replace HB := Lib.hid (bstep HB.out b)
  replace Ha := Lib.hid (Ha.out.below b)
  replace Hb := Lib.hid (Hb.out.below b)
  replace R0 := Lib.hid (R0.out.below b)
  replace H6 := Lib.hid (H6.out.below b)
  replace H7 := Lib.hid (H7.out.below b)
  replace H8 := Lib.hid (H8.out.below b)
  replace H9 := Lib.hid (H9.out.below b)
  replace H3 := Lib.hid (H3.out.below b)
  have V4 := Lib.hid h
  clear h b
  clear HMP HR hgR
  have h := HoldI.new V4.out
  have b := al_below w4 (.cells #[.bool d4, .slice A4 n4 c4] 34)
  replace HB := Lib.hid (bstep HB.out b)
  replace Ha := Lib.hid (Ha.out.below b)
  replace Hb := Lib.hid (Hb.out.below b)
  replace R0 := Lib.hid (R0.out.below b)
  replace H6 := Lib.hid (H6.out.below b)
  replace H7 := Lib.hid (H7.out.below b)
  replace H8 := Lib.hid (H8.out.below b)
  replace H9 := Lib.hid (H9.out.below b)
  replace H3 := Lib.hid (H3.out.below b)
  clear b
  have H4 := Lib.hid h
  clear h V4
  have gR00 := R0.out.c0
  have yR00 := R0.out.f0
  have gR01 := R0.out.c1
  have yR01 := R0.out.f1
  have gR02 := R0.out.c2
  have yR02 := R0.out.f2
  have gR03 := R0.out.c3
  have yR03 := R0.out.f3
  have HF := Lib.hid (retQ (RepF.zero _ _) R0.out HB.out (by omega))
  clear HB Ha Hb R0 H6 H7 H8 H9 H3 H4
  clear ia ib HX HD1 HD2 HM HP1 HP2 HNF HDF Q1 Q2 Q3 Q4 L6 L7 L8 L9 x6_7 x8_9
  go_wp2_with fail
  exact bodyPost_ret (v := .tuple #[.agg #[.bool false, .slice none 0 0, .bool false, .slice none 0 0], .int .i64 4]) (by simp [results, Tryz.results32, go_sem, gR00, gR01, gR02, gR03, max04]) rfl ⟨_, rfl, HF.out.1, HF.out.2.1⟩
set_option maxRecDepth 100000 in
set_option maxHeartbeats 4000000 in
theorem mul_ft (a b : Rat) (u v : Value) (w : World) (ha : RepF w w.heap.size a u) (hb : RepF w w.heap.size b v) (ia : InF a) (ib : InF b) (hn : lim ≤ ((a * b).num.natAbs : Int)) (hd : (((a * b).den : Int).natAbs : Int) < lim) :
    Calls Tryz.prog 32 #[u, v] w (NewFE 0 4 w) := by
  obtain ⟨X, hX⟩ : ∃ X, X = a * b := ⟨_, rfl⟩
  obtain ⟨d1, hd1⟩ : ∃ d, (Nat.gcd a.num.natAbs (b.den : Int).natAbs : Int) = d := ⟨_, rfl⟩
  obtain ⟨d2, hd2⟩ : ∃ d, (Nat.gcd b.num.natAbs (a.den : Int).natAbs : Int) = d := ⟨_, rfl⟩
  have hm := rat_mul a b
  rw [← hX] at hm hn hd
  rw [show ((Nat.gcd a.num.natAbs b.den : Nat) : Int) = d1 from hd1, show ((Nat.gcd b.num.natAbs a.den : Nat) : Int) = d2 from hd2] at hm
  have hp1 : 0 < d1 := by have := Nat.gcd_pos_of_pos_right a.num.natAbs (show 0 < (b.den : Int).natAbs by have := b.den_pos; omega); omega
  have hp2 : 0 < d2 := by have := Nat.gcd_pos_of_pos_right b.num.natAbs (show 0 < (a.den : Int).natAbs by have := a.den_pos; omega); omega
  try rw [← hX]
  have HX := Lib.hid hX
  have HD1 := Lib.hid hd1
  have HD2 := Lib.hid hd2
  have HM := Lib.hid hm
  have HP1 := Lib.hid (show d1 ≠ 0 by omega)
  have HP2 := Lib.hid (show d2 ≠ 0 by omega)
  have HNF := Lib.hid hn
  have HDF := Lib.hid hd
  have Q1 := Lib.hid (show InL (a.num / d1) from ediv_ltl ia.1 d1)
  have Q2 := Lib.hid (show InL ((b.den : Int) / d1) from ediv_ltl (den_lim ib) d1)
  have Q3 := Lib.hid (show InL (b.num / d2) from ediv_ltl ib.1 d2)
  have Q4 := Lib.hid (show InL ((a.den : Int) / d2) from ediv_ltl (den_lim ia) d2)
  clear hX hd1 hd2 hm hp1 hp2 hn hd
  replace ia := Lib.hid ia
  replace ib := Lib.hid ib
  have HB := Lib.hid (Below.refl w.heap.size w)
  obtain ⟨da, Aa, na, ca, ea, Ea, ma, fa, rfl⟩ := ha.shape
  have Va := Lib.hid ha
  clear ha
  obtain ⟨db, Ab, nb, cb, eb, Eb, mb, fb, rfl⟩ := hb.shape
  have Vb := Lib.hid hb
  clear hb
  go_enter Tryz.func32, Tryz.ntmps32
  have h := HoldQ.new Va.out
  have b := al_below w (.cells #[.bool da, .slice Aa na ca, .bool ea, .slice Ea ma fa] 36)
  replace HB := Lib.hid (bstep HB.out b)
  replace Vb := Lib.hid (Vb.out.step b)
  clear b
  have Ha := Lib.hid h
  clear h Va
  have h := HoldQ.new Vb.out
  simp only [World.size_alloc] at h
  have b := al_below (w.alloc (.cells #[.bool da, .slice Aa na ca, .bool ea, .slice Ea ma fa] 36)) (.cells #[.bool db, .slice Ab nb cb, .bool eb, .slice Eb mb fb] 36)
  replace HB := Lib.hid (bstep HB.out b)
  replace Ha := Lib.hid (Ha.out.below b)
  clear b
  have Hb := Lib.hid h
  clear h Vb
  have h := Blk4.new ((w.alloc (.cells #[.bool da, .slice Aa na ca, .bool ea, .slice Ea ma fa] 36)).alloc (.cells #[.bool db, .slice Ab nb cb, .bool eb, .slice Eb mb fb] 36)) 36 (.bool false) (.slice none 0 0) (.bool false) (.slice none 0 0)
  simp only [World.size_alloc] at h
  have b := al_below ((w.alloc (.cells #[.bool da, .slice Aa na ca, .bool ea, .slice Ea ma fa] 36)).alloc (.cells #[.bool db, .slice Ab nb cb, .bool eb, .slice Eb mb fb] 36)) (.cells #[.bool false, .slice none 0 0, .bool false, .slice none 0 0] 36)
  replace HB := Lib.hid (bstep HB.out b)
  replace Ha := Lib.hid (Ha.out.below b)
  replace Hb := Lib.hid (Hb.out.below b)
  clear b
  have R0 := Lib.hid (show Blk4 _ (w.heap.size + 1 + 1) 36 (.bool false) (.slice none 0 0) (.bool false) (.slice none 0 0) from h)
  clear h
  go_wp2_with fail
  refine mul_reg1 rfl rfl rfl Ha.out Hb.out ia.out ib.out HD1.out HP1.out ?_
  intro w1 u16 u17 u18 u19 u20 u15 u21 u22 g6 g7 d6 A6 n6 c6 d7 A7 n7 c7 b h6 h7 x6_7 l6 l7
  simp only [List.foldl_cons, List.foldl_nil, List.setIfInBounds_toArray, List.set_cons_zero, List.set_cons_succ]
  simp only [World.size_alloc] at l6 l7
  have z1 := b.size
  simp only [World.size_alloc] at z1
  replace z1 := Lib.hid z1
  replace HB := Lib.hid (bstep HB.out b)
  replace Ha := Lib.hid (Ha.out.below b)
  replace Hb := Lib.hid (Hb.out.below b)
  replace R0 := Lib.hid (R0.out.below b)
  have H6 := Lib.hid h6
  have L6 := Lib.hid l6
  clear h6 l6
  have H7 := Lib.hid h7
  have L7 := Lib.hid l7
  clear h7 l7
  replace x6_7 := Lib.hid x6_7
  clear b
  go_wp2_with fail
  refine mul_reg2 rfl rfl rfl Ha.out Hb.out ia.out ib.out HD2.out HP2.out ?_
  intro w2 u24 u25 u26 u27 u28 u23 u29 u30 g8 g9 d8 A8 n8 c8 d9 A9 n9 c9 b h8 h9 x8_9 l8 l9
  simp only [List.foldl_cons, List.foldl_nil, List.setIfInBounds_toArray, List.set_cons_zero, List.set_cons_succ]
  have z2 := b.size
  replace z2 := Lib.hid z2
  replace HB := Lib.hid (bstep HB.out b)
  replace Ha := Lib.hid (Ha.out.below b)
  replace Hb := Lib.hid (Hb.out.below b)
  replace R0 := Lib.hid (R0.out.below b)
  replace H6 := Lib.hid (H6.out.below b)
  replace H7 := Lib.hid (H7.out.below b)
  have H8 := Lib.hid h8
  have L8 := Lib.hid l8
  clear h8 l8
  have H9 := Lib.hid h9
  have L9 := Lib.hid l9
  clear h9 l9
  replace x8_9 := Lib.hid x8_9
  clear b
  have gH60 := H6.out.c0
  have gH61 := H6.out.c1
  have gH80 := H8.out.c0
  have gH81 := H8.out.c1
  go_wp2_with fail
  have HR := Lib.hid (ArrI.mk2 (W := w2) 34 H6.out.2 H8.out.2)
  have hgR := Lib.hid (show w2.heap.size < (w2.alloc (.cells #[.bool d6, .slice A6 n6 c6, .bool d8, .slice A8 n8 c8] 34)).heap.size from by simp only [World.size_alloc]; omega)
  have b := al_below w2 (.cells #[.bool d6, .slice A6 n6 c6, .bool d8, .slice A8 n8 c8] 34)
  replace HB := Lib.hid (bstep HB.out b)
  replace Ha := Lib.hid (Ha.out.below b)
  replace Hb := Lib.hid (Hb.out.below b)
  replace R0 := Lib.hid (R0.out.below b)
  replace H6 := Lib.hid (H6.out.below b)
  replace H7 := Lib.hid (H7.out.below b)
  replace H8 := Lib.hid (H8.out.below b)
  replace H9 := Lib.hid (H9.out.below b)
  clear b
  clear gH60 gH61 gH80 gH81
  have HMP := product_any [a.num / d1, b.num / d2] (w2.heap.size) 2 2 _ HR.out hgR rfl (Lib.hid (by omega)) (in_two Q1.out Q3.out)
  rw [prod_two Q1.out, HM.out.1, (fit_out (Int.not_lt.2 HNF.out)).1, (fit_out (Int.not_lt.2 HNF.out)).2] at HMP
  dsimp only at HMP
  refine (HMP).mono ?_
  rintro e w3 ⟨v, rfl, h, b⟩
  obtain ⟨d3, A3, n3, c3, rfl⟩ := h.shape
  have z3 := b.size
  simp only [World.size_alloc] at z3
  replace z3 := Lib.hid z3
  replace HB := Lib.hid (bstep HB.out b)
  replace Ha := Lib.hid (Ha.out.below b)
  replace Hb := Lib.hid (Hb.out.below b)
  replace R0 := Lib.hid (R0.out.below b)
  replace H6 := Lib.hid (H6.out.below b)
  replace H7 := Lib.hid (H7.out.below b)
  replace H8 := Lib.hid (H8.out.below b)
  replace H9 := Lib.hid (H9.out.below b)
  have V3 := Lib.hid h
  clear h b
  clear HMP HR hgR
  have h := HoldI.new V3.out
  have b := al_below w3 (.cells #[.bool d3, .slice A3 n3 c3] 34)
  replace HB := Lib.hid (bstep HB.out b)
  replace Ha := Lib.hid (Ha.out.below b)
  replace Hb := Lib.hid (Hb.out.below b)
  replace R0 := Lib.hid (R0.out.below b)
  replace H6 := Lib.hid (H6.out.below b)
  replace H7 := Lib.hid (H7.out.below b)
  replace H8 := Lib.hid (H8.out.below b)
  replace H9 := Lib.hid (H9.out.below b)
  clear b
  have H3 := Lib.hid h
  clear h V3
  have gH90 := H9.out.c0
  have gH91 := H9.out.c1
  have gH70 := H7.out.c0
  have gH71 := H7.out.c1
  go_wp2_with fail
  have HR := Lib.hid (ArrI.mk2 (W := (w3.alloc (.cells #[.bool d3, .slice A3 n3 c3] 34))) 34 H9.out.2 H7.out.2)
  have hgR := Lib.hid (show w3.heap.size + 1 < ((w3.alloc (.cells #[.bool d3, .slice A3 n3 c3] 34)).alloc (.cells #[.bool d9, .slice A9 n9 c9, .bool d7, .slice A7 n7 c7] 34)).heap.size from by simp only [World.size_alloc]; omega)
  simp only [World.size_alloc] at HR
  have b := al_below (w3.alloc (.cells #[.bool d3, .slice A3 n3 c3] 34)) (.cells #[.bool d9, .slice A9 n9 c9, .bool d7, .slice A7 n7 c7] 34)
  replace HB := Lib.hid (bstep HB.out b)
  replace Ha := Lib.hid (Ha.out.below b)
  replace Hb := Lib.hid (Hb.out.below b)
  replace R0 := Lib.hid (R0.out.below b)
  replace H6 := Lib.hid (H6.out.below b)
  replace H7 := Lib.hid (H7.out.below b)
  replace H8 := Lib.hid (H8.out.below b)
  replace H9 := Lib.hid (H9.out.below b)
  replace H3 := Lib.hid (H3.out.below b)
  clear b
  clear gH90 gH91 gH70 gH71
  have HMP := product_any [(a.den : Int) / d2, (b.den : Int) / d1] (w3.heap.size + 1) 2 2 _ HR.out hgR rfl (Lib.hid (by omega)) (in_two Q4.out Q2.out)
  rw [prod_two Q4.out, HM.out.2, (fit_in HDF.out).1, (fit_in HDF.out).2] at HMP
  dsimp only at HMP
  refine (HMP).mono ?_
  rintro e w4 ⟨v, rfl, h, b⟩
  obtain ⟨d4, A4, n4, c4, rfl⟩ := h.shape
  have z4 := b.size
  simp only [World.size_alloc] at z4
  replace z4 := Lib.hid z4
  replace HB := Lib.hid (bstep HB.out b)
  replace Ha := Lib.hid (Ha.out.below b)
  replace Hb := Lib.hid (Hb.out.below b)
  replace R0 := Lib.hid (R0.out.below b)
  replace H6 := Lib.hid (H6.out.below b)
  replace H7 := Lib.hid (H7.out.below b)
  replace H8 := Lib.hid (H8.out.below b)
  replace H9 := Lib.hid (H9.out.below b)
  replace H3 := Lib.hid (H3.out.below b)
  have V4 := Lib.hid h
  clear h b
  clear HMP HR hgR
  have h := HoldI.new V4.out
  have b := al_below w4 (.cells #[.bool d4, .slice A4 n4 c4] 34)
  replace HB := Lib.hid (bstep HB.out b)
  replace Ha := Lib.hid (Ha.out.below b)
  replace Hb := Lib.hid (Hb.out.below b)
  replace R0 := Lib.hid (R0.out.below b)
  replace H6 := Lib.hid (H6.out.below b)
  replace H7 := Lib.hid (H7.out.below b)
  replace H8 := Lib.hid (H8.out.below b)
  replace H9 := Lib.hid (H9.out.below b)
  replace H3 := Lib.hid (H3.out.below b)
  clear b
  have H4 := Lib.hid h
  clear h V4
  have gR00 := R0.out.c0
  have yR00 := R0.out.f0
  have gR01 := R0.out.c1
  have yR01 := R0.out.f1
  have gR02 := R0.out.c2
  have yR02 := R0.out.f2
  have gR03 := R0.out.c3
  have yR03 := R0.out.f3
  have HF := Lib.hid (retQ (RepF.zero _ _) R0.out HB.out (by omega))
  clear HB Ha Hb R0 H6 H7 H8 H9 H3 H4
  clear ia ib HX HD1 HD2 HM HP1 HP2 HNF HDF Q1 Q2 Q3 Q4 L6 L7 L8 L9 x6_7 x8_9
  go_wp2_with fail
  exact bodyPost_ret (v := .tuple #[.agg #[.bool false, .slice none 0 0, .bool false, .slice none 0 0], .int .i64 4]) (by simp [results, Tryz.results32, go_sem, gR00, gR01, gR02, gR03, max40]) rfl ⟨_, rfl, HF.out.1, HF.out.2.1⟩
set_option maxRecDepth 100000 in
set_option maxHeartbeats 4000000 in
theorem mul_ff (a b : Rat) (u v : Value) (w : World) (ha : RepF w w.heap.size a u) (hb : RepF w w.heap.size b v) (ia : InF a) (ib : InF b) (hn : lim ≤ ((a * b).num.natAbs : Int)) (hd : lim ≤ (((a * b).den : Int).natAbs : Int)) :
    Calls Tryz.prog 32 #[u, v] w (NewFE 0 4 w) := by
  obtain ⟨X, hX⟩ : ∃ X, X = a * b := ⟨_, rfl⟩
  obtain ⟨d1, hd1⟩ : ∃ d, (Nat.gcd a.num.natAbs (b.den : Int).natAbs : Int) = d := ⟨_, rfl⟩
  obtain ⟨d2, hd2⟩ : ∃ d, (Nat.gcd b.num.natAbs (a.den : Int).natAbs : Int) = d := ⟨_, rfl⟩
  have hm := rat_mul a b
  rw [← hX] at hm hn hd
  rw [show ((Nat.gcd a.num.natAbs b.den : Nat) : Int) = d1 from hd1, show ((Nat.gcd b.num.natAbs a.den : Nat) : Int) = d2 from hd2] at hm
  have hp1 : 0 < d1 := by have := Nat.gcd_pos_of_pos_right a.num.natAbs (show 0 < (b.den : Int).natAbs by have := b.den_pos; omega); omega
  have hp2 : 0 < d2 := by have := Nat.gcd_pos_of_pos_right b.num.natAbs (show 0 < (a.den : Int).natAbs by have := a.den_pos; omega); omega
  try rw [← hX]
  have HX := Lib.hid hX
  have HD1 := Lib.hid hd1
  have HD2 := Lib.hid hd2
  have HM := Lib.hid hm
  have HP1 := Lib.hid (show d1 ≠ 0 by omega)
  have HP2 := Lib.hid (show d2 ≠ 0 by omega)
  have HNF := Lib.hid hn
  have HDF := Lib.hid hd
  have Q1 := Lib.hid (show InL (a.num / d1) from ediv_ltl ia.1 d1)
  have Q2 := Lib.hid (show InL ((b.den : Int) / d1) from ediv_ltl (den_lim ib) d1)
  have Q3 := Lib.hid (show InL (b.num / d2) from ediv_ltl ib.1 d2)
  have Q4 := Lib.hid (show InL ((a.den : Int) / d2) from ediv_ltl (den_lim ia) d2)
  clear hX hd1 hd2 hm hp1 hp2 hn hd
  replace ia := Lib.hid ia
  replace ib := Lib.hid ib
  have HB := Lib.hid (Below.refl w.heap.size w)
  obtain ⟨da, Aa, na, ca, ea, Ea, ma, fa, rfl⟩ := ha.shape
  have Va := Lib.hid ha
  clear ha
  obtain ⟨db, Ab, nb, cb, eb, Eb, mb, fb, rfl⟩ := hb.shape
  have Vb := Lib.hid hb
  clear hb
  go_enter Tryz.func32, Tryz.ntmps32
  have h := HoldQ.new Va.out
  have b := al_below w (.cells #[.bool da, .slice Aa na ca, .bool ea, .slice Ea ma fa] 36)
  replace HB := Lib.hid (bstep HB.out b)
  replace Vb := Lib.hid (Vb.out.step b)
  clear b
  have Ha := Lib.hid h
  clear h Va
  have h := HoldQ.new Vb.out
  simp only [World.size_alloc] at h
  have b := al_below (w.alloc (.cells #[.bool da, .slice Aa na ca, .bool ea, .slice Ea ma fa] 36)) (.cells #[.bool db, .slice Ab nb cb, .bool eb, .slice Eb mb fb] 36)
  replace HB := Lib.hid (bstep HB.out b)
  replace Ha := Lib.hid (Ha.out.below b)
  clear b
  have Hb := Lib.hid h
  clear h Vb
  have h := Blk4.new ((w.alloc (.cells #[.bool da, .slice Aa na ca, .bool ea, .slice Ea ma fa] 36)).alloc (.cells #[.bool db, .slice Ab nb cb, .bool eb, .slice Eb mb fb] 36)) 36 (.bool false) (.slice none 0 0) (.bool false) (.slice none 0 0)
  simp only [World.size_alloc] at h
  have b := al_below ((w.alloc (.cells #[.bool da, .slice Aa na ca, .bool ea, .slice Ea ma fa] 36)).alloc (.cells #[.bool db, .slice Ab nb cb, .bool eb, .slice Eb mb fb] 36)) (.cells #[.bool false, .slice none 0 0, .bool false, .slice none 0 0] 36)
  replace HB := Lib.hid (bstep HB.out b)
  replace Ha := Lib.hid (Ha.out.below b)
  replace Hb := Lib.hid (Hb.out.below b)
  clear b
  have R0 := Lib.hid (show Blk4 _ (w.heap.size + 1 + 1) 36 (.bool false) (.slice none 0 0) (.bool false) (.slice none 0 0) from h)
  clear h
  go_wp2_with fail
  refine mul_reg1 rfl rfl rfl Ha.out Hb.out ia.out ib.out HD1.out HP1.out ?_
  intro w1 u16 u17 u18 u19 u20 u15 u21 u22 g6 g7 d6 A6 n6 c6 d7 A7 n7 c7 b h6 h7 x6_7 l6 l7
  simp only [List.foldl_cons, List.foldl_nil, List.setIfInBounds_toArray, List.set_cons_zero, List.set_cons_succ]
  simp only [World.size_alloc] at l6 l7
  have z1 := b.size
  simp only [World.size_alloc] at z1
  replace z1 := Lib.hid z1
  replace HB := Lib.hid (bstep HB.out b)
  replace Ha := Lib.hid (Ha.out.below b)
  replace Hb := Lib.hid (Hb.out.below b)
  replace R0 := Lib.hid (R0.out.below b)
  have H6 := Lib.hid h6
  have L6 := Lib.hid l6
  clear h6 l6
  have H7 := Lib.hid h7
  have L7 := Lib.hid l7
  clear h7 l7
  replace x6_7 := Lib.hid x6_7
  clear b
  go_wp2_with fail
  refine mul_reg2 rfl rfl rfl Ha.out Hb.out ia.out ib.out HD2.out HP2.out ?_
  intro w2 u24 u25 u26 u27 u28 u23 u29 u30 g8 g9 d8 A8 n8 c8 d9 A9 n9 c9 b h8 h9 x8_9 l8 l9
  simp only [List.foldl_cons, List.foldl_nil, List.setIfInBounds_toArray, List.set_cons_zero, List.set_cons_succ]
  have z2 := b.size
  replace z2 := Lib.hid z2
  replace HB := Lib.hid (bstep HB.out b)
  replace Ha := Lib.hid (Ha.out.below b)
  replace Hb := Lib.hid (Hb.out.below b)
  replace R0 := Lib.hid (R0.out.below b)
  replace H6 := Lib.hid (H6.out.below b)
  replace H7 := Lib.hid (H7.out.below b)
  have H8 := Lib.hid h8
  have L8 := Lib.hid l8
  clear h8 l8
  have H9 := Lib.hid h9
  have L9 := Lib.hid l9
  clear h9 l9
  replace x8_9 := Lib.hid x8_9
  clear b
  have gH60 := H6.out.c0
  have gH61 := H6.out.c1
  have gH80 := H8.out.c0
  have gH81 := H8.out.c1
  go_wp2_with fail
  have HR := Lib.hid (ArrI.mk2 (W := w2) 34 H6.out.2 H8.out.2)
  have hgR := Lib.hid (show w2.heap.size < (w2.alloc (.cells #[.bool d6, .slice A6 n6 c6, .bool d8, .slice A8 n8 c8] 34)).heap.size from by simp only [World.size_alloc]; omega)
  have b := al_below w2 (.cells #[.bool d6, .slice A6 n6 c6, .bool d8, .slice A8 n8 c8] 34)
  replace HB := Lib.hid (bstep HB.out b)
  replace Ha := Lib.hid (Ha.out.below b)
  replace Hb := Lib.hid (Hb.out.below b)
  replace R0 := Lib.hid (R0.out.below b)
  replace H6 := Lib.hid (H6.out.below b)
  replace H7 := Lib.hid (H7.out.below b)
  replace H8 := Lib.hid (H8.out.below b)
  replace H9 := Lib.hid (H9.out.below b)
  clear b
  clear gH60 gH61 gH80 gH81
  have HMP := product_any [a.num / d1, b.num / d2] (w2.heap.size) 2 2 _ HR.out hgR rfl (Lib.hid (by omega)) (in_two Q1.out Q3.out)
  rw [prod_two Q1.out, HM.out.1, (fit_out (Int.not_lt.2 HNF.out)).1, (fit_out (Int.not_lt.2 HNF.out)).2] at HMP
  dsimp only at HMP
  refine (HMP).mono ?_
  rintro e w3 ⟨v, rfl, h, b⟩
  obtain ⟨d3, A3, n3, c3, rfl⟩ := h.shape
  have z3 := b.size
  simp only [World.size_alloc] at z3
  replace z3 := Lib.hid z3
  replace HB := Lib.hid (bstep HB.out b)
  replace Ha := Lib.hid (Ha.out.below b)
  replace Hb := Lib.hid (Hb.out.below b)
  replace R0 := Lib.hid (R0.out.below b)
  replace H6 := Lib.hid (H6.out.below b)
  replace H7 := Lib.hid (H7.out.below b)
  replace H8 := Lib.hid (H8.out.below b)
  replace H9 := Lib.hid (H9.out.below b)
  have V3 := Lib.hid h
  clear h b
  clear HMP HR hgR
  have h := HoldI.new V3.out
  have b := al_below w3 (.cells #[.bool d3, .slice A3 n3 c3] 34)
  replace HB := Lib.hid (bstep HB.out b)
  replace Ha := Lib.hid (Ha.out.below b)
  replace Hb := Lib.hid (Hb.out.below b)
  replace R0 := Lib.hid (R0.out.below b)
  replace H6 := Lib.hid (H6.out.below b)
  replace H7 := Lib.hid (H7.out.below b)
  replace H8 := Lib.hid (H8.out.below b)
  replace H9 := Lib.hid (H9.out.below b)
  clear b
  have H3 := Lib.hid h
  clear h V3
  have gH90 := H9.out.c0
  have gH91 := H9.out.c1
  have gH70 := H7.out.c0
  have gH71 := H7.out.c1
  go_wp2_with fail
  have HR := Lib.hid (ArrI.mk2 (W := (w3.alloc (.cells #[.bool d3, .slice A3 n3 c3] 34))) 34 H9.out.2 H7.out.2)
  have hgR := Lib.hid (show w3.heap.size + 1 < ((w3.alloc (.cells #[.bool d3, .slice A3 n3 c3] 34)).alloc (.cells #[.bool d9, .slice A9 n9 c9, .bool d7, .slice A7 n7 c7] 34)).heap.size from by simp only [World.size_alloc]; omega)
  simp only [World.size_alloc] at HR
  have b := al_below (w3.alloc (.cells #[.bool d3, .slice A3 n3 c3] 34)) (.cells #[.bool d9, .slice A9 n9 c9, .bool d7, .slice A7 n7 c7] 34)
  replace HB := Lib.hid (bstep HB.out b)
  replace Ha := Lib.hid (Ha.out.below b)
  replace Hb := Lib.hid (Hb.out.below b)
  replace R0 := Lib.hid (R0.out.below b)
  replace H6 := Lib.hid (H6.out.below b)
  replace H7 := Lib.hid (H7.out.below b)
  replace H8 := Lib.hid (H8.out.below b)
  replace H9 := Lib.hid (H9.out.below b)
  replace H3 := Lib.hid (H3.out.below b)
  clear b
  clear gH90 gH91 gH70 gH71
  have HMP := product_any [(a.den : Int) / d2, (b.den : Int) / d1] (w3.heap.size + 1) 2 2 _ HR.out hgR rfl (Lib.hid (by omega)) (in_two Q4.out Q2.out)
  rw [prod_two Q4.out, HM.out.2, (fit_out (Int.not_lt.2 HDF.out)).1, (fit_out (Int.not_lt.2 HDF.out)).2] at HMP
  dsimp only at HMP
  refine (HMP).mono ?_
  rintro e w4 ⟨v, rfl, h, b⟩
  obtain ⟨d4, A4, n4, c4, rfl⟩ := h.shape
  have z4 := b.size
  simp only [World.size_alloc] at z4
  replace z4 := Lib.hid z4
  replace HB := Lib.hid (bstep HB.out b)
  replace Ha := Lib.hid (Ha.out.below b)
  replace Hb := Lib.hid (Hb.out.below b)
  replace R0 := Lib.hid (R0.out.below b)
  replace H6 := Lib.hid (H6.out.below b)
  replace H7 := Lib.hid (H7.out.below b)
  replace H8 := Lib.hid (H8.out.below b)
  replace H9 := Lib.hid (H9.out.below b)
  replace H3 := Lib.hid (H3.out.below b)
  have V4 := Lib.hid h
  clear h b
  clear HMP HR hgR
  have h := HoldI.new V4.out
  have b := al_below w4 (.cells #[.bool d4, .slice A4 n4 c4] 34)
  replace HB := Lib.hid (bstep HB.out b)
  replace Ha := Lib.hid (Ha.out.below b)
  replace Hb := Lib.hid (Hb.out.below b)
  replace R0 := Lib.hid (R0.out.below b)
  replace H6 := Lib.hid (H6.out.below b)
  replace H7 := Lib.hid (H7.out.below b)
  replace H8 := Lib.hid (H8.out.below b)
  replace H9 := Lib.hid (H9.out.below b)
  replace H3 := Lib.hid (H3.out.below b)
  clear b
  have H4 := Lib.hid h
  clear h V4
  have gR00 := R0.out.c0
  have yR00 := R0.out.f0
  have gR01 := R0.out.c1
  have yR01 := R0.out.f1
  have gR02 := R0.out.c2
  have yR02 := R0.out.f2
  have gR03 := R0.out.c3
  have yR03 := R0.out.f3
  have HF := Lib.hid (retQ (RepF.zero _ _) R0.out HB.out (by omega))
  clear HB Ha Hb R0 H6 H7 H8 H9 H3 H4
  clear ia ib HX HD1 HD2 HM HP1 HP2 HNF HDF Q1 Q2 Q3 Q4 L6 L7 L8 L9 x6_7 x8_9
  go_wp2_with fail
  exact bodyPost_ret (v := .tuple #[.agg #[.bool false, .slice none 0 0, .bool false, .slice none 0 0], .int .i64 4]) (by simp [results, Tryz.results32, go_sem, gR00, gR01, gR02, gR03]) rfl ⟨_, rfl, HF.out.1, HF.out.2.1⟩
theorem fmul_any (a b : Rat) (u v : Value) (w : World) (ha : RepF w w.heap.size a u) (hb : RepF w w.heap.size b v) (ia : InF a) (ib : InF b) : Calls Tryz.prog 32 #[u, v] w (NewFE (fitQ (a * b)) (fitR (a * b)) w) := by
  have hp := (a * b).den_pos
  by_cases hn : ((a * b).num.natAbs : Int) < lim
  · by_cases hd : (((a * b).den : Int).natAbs : Int) < lim
    · rw [(fitQ_in ⟨hn, by omega⟩).1, (fitQ_in ⟨hn, by omega⟩).2]
      exact mul_tt a b u v w ha hb ia ib hn hd
    · rw [(fitQ_out (fun h => hd (den_lim h))).1, (fitQ_out (fun h => hd (den_lim h))).2]
      exact mul_tf a b u v w ha hb ia ib hn (Int.not_lt.1 hd)
  · rw [(fitQ_out (fun h => hn h.1)).1, (fitQ_out (fun h => hn h.1)).2]
    by_cases hd : (((a * b).den : Int).natAbs : Int) < lim
    · exact mul_ft a b u v w ha hb ia ib (Int.not_lt.1 hn) hd
    · exact mul_ff a b u v w ha hb ia ib (Int.not_lt.1 hn) (Int.not_lt.1 hd)
end Go.Proofs.YtocooajlfpngdaaGreatDoor
