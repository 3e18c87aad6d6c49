/- Layer 3's laws: calls inside regions that draw their order: each gives back whatever stays true. · Fractions: sums, products, powers and the order of rational numbers in lowest terms. No Go text. · Layer 3's laws: rows of the reference's integers; integers near a bound. · Layer 3's laws: rows of strings; texts that are read. · Layer 3's laws: rows of wide.Ints and of error numbers. -/
import Derived.Test.YtocooajlfpngdaaGreatDoorB28
import Derived.Test.YtocooajlfpngdaaGreatDoorB04
namespace Go.Proofs.YtocooajlfpngdaaGreatDoor
open Go.RowKit
set_option linter.unusedVariables false

section
variable {W : World} {p g : Nat} {z : Int} {d b0 : Bool} {A A1 : Option Addr} {n c n1 k1 : Nat} {t : TypeId} {u u' : Value}
theorem HoldN.off (h : HoldN W p z d A n c) (hk : Blk2 W g t (.bool b0) (.slice A1 n1 k1)) (hne : p ≠ g) : HoldN ((W.setCell ⟨g, 0, none⟩ u).setCell ⟨g, 1, none⟩ u') p z d A n c :=
  ⟨(set2_heap W g u u' p hne).trans h.1, by rw [size_set2]; exact h.2.stored hk⟩
theorem HoldI.off (h : HoldI W p z d A n c) (hk : Blk2 W g t (.bool b0) (.slice A1 n1 k1)) (hne : p ≠ g) : HoldI ((W.setCell ⟨g, 0, none⟩ u).setCell ⟨g, 1, none⟩ u') p z d A n c :=
  ⟨(set2_heap W g u u' p hne).trans h.1, by rw [size_set2]; exact h.2.stored hk⟩
theorem InI.off {zs : List Int} (h : InI W A n zs) (hk : Blk2 W g t (.bool b0) (.slice A1 n1 k1)) : InI ((W.setCell ⟨g, 0, none⟩ u).setCell ⟨g, 1, none⟩ u') A n zs :=
  ⟨by rw [size_set2]; exact h.1.off_blk hk (set2_heap _ _ _ _), h.2⟩
theorem HoldN.made (h : RepN W W.heap.size z (.agg #[.bool d, .slice A n c])) (hk : Blk2 W g 24 (.bool b0) (.slice A1 n1 k1)) : HoldN ((W.setCell ⟨g, 0, none⟩ (.bool d)).setCell ⟨g, 1, none⟩ (.slice A n c)) g z d A n c :=
  ⟨(hk.set0 _).set1 _, by rw [size_set2]; exact h.stored hk⟩
theorem HoldI.made (h : RepI W W.heap.size z (.agg #[.bool d, .slice A n c])) (hk : Blk2 W g 34 (.bool b0) (.slice A1 n1 k1)) : HoldI ((W.setCell ⟨g, 0, none⟩ (.bool d)).setCell ⟨g, 1, none⟩ (.slice A n c)) g z d A n c :=
  ⟨(hk.set0 _).set1 _, by rw [size_set2]; exact h.stored hk⟩
theorem below_off {w0 : World} (h : Below w0.heap.size w0 W) (hg : w0.heap.size ≤ g) : Below w0.heap.size w0 ((W.setCell ⟨g, 0, none⟩ u).setCell ⟨g, 1, none⟩ u') :=
  (h.setCell (p := ⟨g, 0, none⟩) hg _).setCell (p := ⟨g, 1, none⟩) hg _
theorem HoldN.lt (h : HoldN W p z d A n c) : p < W.heap.size := h.1.lt
theorem HoldI.lt (h : HoldI W p z d A n c) : p < W.heap.size := h.1.lt
end
theorem isign_lim (x : Int) (u : Value) (w : World) (hx : RepI w w.heap.size x u) (bx : (x.natAbs : Int) < lim) (r : Int) (hr : cmpI' x 0 = r) :
    Calls Tryz.prog 61 #[u] w fun e w' => e = .returned (.int .i64 r) ∧ Below w.heap.size w w' := by
  obtain ⟨N, hN, h1⟩ := fit_pow bx
  have := isign_any x u w hx N (by omega) h1
  unfold CmpU at this
  rwa [hr] at this
theorem igcd_lim (x y : Int) (u v : Value) (w : World) (hx : RepI w w.heap.size x u) (hy : RepI w w.heap.size y v) (bx : (x.natAbs : Int) < lim) (by_ : (y.natAbs : Int) < lim) (r : Int) (hr : (Nat.gcd x.natAbs y.natAbs : Int) = r) :
    Calls Tryz.prog 69 #[u, v] w (NewI r w) := by
  obtain ⟨N, hN, h1⟩ := fit_pow bx
  obtain ⟨M, hM, h2⟩ := fit_pow by_
  subst hM
  subst hN
  have := igcd_any x y u v w hx hy 512 (by omega) h1 h2
  rwa [hr] at this
theorem ineg_lim (x : Int) (u : Value) (w : World) (hx : RepI w w.heap.size x u) (bx : (x.natAbs : Int) < lim) :
    Calls Tryz.prog 73 #[u] w (NewI (-x) w) := by
  obtain ⟨N, hN, h1⟩ := fit_pow bx
  exact ineg_any x u w hx N (by omega) h1
section
variable {S : World → Prop} {W : World}
end
/-- a generated integer -/
def Num (z : Int) : Prop := Bits 310 z
theorem bits_lt {k : Nat} {z : Int} (h : Bits k z) (hk : k ≤ 16384) : (z.natAbs : Int) < lim := by
  have := h.mono hk
  exact this
theorem Num.bits {z : Int} (h : Num z) (k : Nat) (hk : 310 ≤ k) : Bits k z := Bits.mono h hk
theorem Num.mul {x y : Int} (hx : Num x) (hy : Num y) : Bits 620 (x * y) := (Bits.mul (show Bits 310 x from hx) (show Bits 310 y from hy)).mono (by omega)
theorem Num.add {x y : Int} (hx : Num x) (hy : Num y) : Bits 311 (x + y) := (Bits.add (show Bits 310 x from hx) (show Bits 310 y from hy)).mono (by omega)
/-- a product of two generated integers -/
def Num2 (z : Int) : Prop := Bits 620 z
theorem Num2.bits {z : Int} (h : Num2 z) (k : Nat) (hk : 620 ≤ k) : Bits k z := Bits.mono h hk
theorem Num.two {x y : Int} (hx : Num x) (hy : Num y) : Num2 (x * y) := hx.mul hy
theorem gcd_ltl {a b : Int} (ha : (a.natAbs : Int) < lim) (hb : (b.natAbs : Int) < lim) : (((Nat.gcd a.natAbs b.natAbs : Nat) : Int).natAbs : Int) < lim := by
  rw [Int.natAbs_natCast]
  rcases Nat.eq_zero_or_pos a.natAbs with h | h
  · rw [h, Nat.gcd_zero_left]; exact hb
  · have := Nat.gcd_le_left b.natAbs h
    omega
theorem ediv_ltl {a : Int} (ha : (a.natAbs : Int) < lim) (g : Int) : ((a / g).natAbs : Int) < lim := by
  have := Int.natAbs_ediv_le_natAbs a g
  omega
end Go.Proofs.YtocooajlfpngdaaGreatDoor
namespace Go.Proofs.YtocooajlfpngdaaGreatDoor
open Go.RowKit
set_option linter.unusedVariables false

/-- a fraction in lowest terms, by what its terms have in common -/
theorem rat_num {p q : Int} (hq : q ≠ 0) : (Rat.divInt p q).num = (if q < 0 then -p else p) / (Nat.gcd p.natAbs q.natAbs : Nat) := by
  rw [Rat.num_divInt, Int.gcd_comm]
  show q.sign * p / ((Nat.gcd p.natAbs q.natAbs : Nat) : Int) = _
  split
  · rw [Int.sign_eq_neg_one_of_neg (by assumption), Int.neg_one_mul]
  · rw [Int.sign_eq_one_of_pos (by omega), Int.one_mul]
theorem rat_den {p q : Int} (hq : q ≠ 0) : ((Rat.divInt p q).den : Int) = (q.natAbs : Int) / (Nat.gcd p.natAbs q.natAbs : Nat) := by
  rw [Rat.den_divInt, if_neg hq, Int.gcd_comm]
  rfl
theorem gcd_dvd_l (p q : Int) : ((Nat.gcd p.natAbs q.natAbs : Nat) : Int) ∣ p := Int.ofNat_dvd_left.2 (Nat.gcd_dvd_left _ _)
theorem gcd_dvd_r (p q : Int) : ((Nat.gcd p.natAbs q.natAbs : Nat) : Int) ∣ q := Int.ofNat_dvd_left.2 (Nat.gcd_dvd_right _ _)
theorem rat_sgn {p q : Int} (hq : q ≠ 0) :
    (if q < 0 then -(p / (Nat.gcd p.natAbs q.natAbs : Nat)) else p / (Nat.gcd p.natAbs q.natAbs : Nat)) = (Rat.divInt p q).num ∧
    (if q < 0 then -(q / (Nat.gcd p.natAbs q.natAbs : Nat)) else q / (Nat.gcd p.natAbs q.natAbs : Nat)) = ((Rat.divInt p q).den : Int) := by
  rw [rat_num hq, rat_den hq]
  have h1 := gcd_dvd_l p q
  have h2 := gcd_dvd_r p q
  generalize ((Nat.gcd p.natAbs q.natAbs : Nat) : Int) = g at *
  split
  · rw [Int.neg_ediv_of_dvd h1, show (q.natAbs : Int) = -q by omega, Int.neg_ediv_of_dvd h2]
    exact ⟨rfl, rfl⟩
  · rw [show (q.natAbs : Int) = q by omega]
    exact ⟨rfl, rfl⟩
theorem den_pos' (v : Rat) : (0 : Int) < (v.den : Int) := by have := v.den_pos; omega
/-- a sum -/
theorem rat_add (a b : Rat) : ∃ g left right : Int, g = (Nat.gcd a.den b.den : Nat) ∧ 0 < g ∧ left = (a.den : Int) / g ∧ right = (b.den : Int) / g ∧ 0 < left ∧ 0 < right ∧ left * g = a.den ∧ right * g = b.den ∧
    (a + b).num = (a.num * right + b.num * left) / (Nat.gcd (a.num * right + b.num * left).natAbs g.natAbs : Nat) ∧
    ((a + b).den : Int) = (left * right * g) / (Nat.gcd (a.num * right + b.num * left).natAbs g.natAbs : Nat) ∧
    Rat.divInt (a.num * right + b.num * left) (left * b.den) = a + b := by
  obtain ⟨G, hG⟩ : ∃ G, G = Nat.gcd a.den b.den := ⟨_, rfl⟩
  obtain ⟨L, hL⟩ : ∃ L, L = a.den / G := ⟨_, rfl⟩
  obtain ⟨R, hR⟩ : ∃ R, R = b.den / G := ⟨_, rfl⟩
  have hG0 : 0 < G := hG ▸ Nat.gcd_pos_of_pos_left _ a.den_pos
  have eL : L * G = a.den := hL ▸ Nat.div_mul_cancel (hG ▸ Nat.gcd_dvd_left _ _)
  have eR : R * G = b.den := hR ▸ Nat.div_mul_cancel (hG ▸ Nat.gcd_dvd_right _ _)
  have hL0 : 0 < L := Nat.pos_of_mul_pos_right (by rw [eL]; exact a.den_pos)
  have hR0 : 0 < R := Nat.pos_of_mul_pos_right (by rw [eR]; exact b.den_pos)
  have haux := Rat.add.aux a b hG hL hR
  have hsum : a + b = Rat.divInt (a.num * R + b.num * L) ((L : Int) * b.den) := by
    have h1 : a + b = Rat.divInt (a.num * b.den + b.num * a.den) ((a.den : Int) * b.den) := by
      rw [Rat.add_def', ← Rat.divInt_ofNat, Int.natCast_mul]
    rw [h1, Rat.divInt_eq_divInt_iff, ← eL, ← eR, Int.natCast_mul, Int.natCast_mul]
    · grind
    · have := Int.mul_pos (den_pos' a) (den_pos' b); omega
    · have := Int.mul_pos (show (0 : Int) < L by omega) (den_pos' b); omega
  have hne : (L : Int) * b.den ≠ 0 := by have := Int.mul_pos (show (0 : Int) < L by omega) (den_pos' b); omega
  have hnn : ¬ (L : Int) * b.den < 0 := by have := Int.mul_pos (show (0 : Int) < L by omega) (den_pos' b); omega
  have hga : (Nat.gcd (a.num * R + b.num * L).natAbs ((L : Int) * b.den).natAbs) = Nat.gcd (a.num * R + b.num * L).natAbs G := by
    rw [Int.natAbs_mul, Int.natAbs_natCast, Int.natAbs_natCast]
    exact haux.symm
  refine ⟨G, L, R, by rw [hG], by omega, by rw [hL]; rfl, by rw [hR]; rfl, by omega, by omega, by exact_mod_cast eL, by exact_mod_cast eR, ?_, ?_, hsum.symm⟩
  · rw [hsum, rat_num hne, if_neg hnn, hga]
    rfl
  · rw [hsum, rat_den hne, hga, Int.natAbs_natCast, ← eR]
    congr 1
    rw [Int.natCast_mul]
    have : (0 : Int) ≤ (L : Int) * ((R : Int) * G) := Int.mul_nonneg (by omega) (Int.mul_nonneg (by omega) (by omega))
    rw [Int.natAbs_of_nonneg this, Int.mul_assoc]
/-- a product -/
theorem rat_mul (a b : Rat) :
    a.num / (Nat.gcd a.num.natAbs b.den : Nat) * (b.num / (Nat.gcd b.num.natAbs a.den : Nat)) = (a * b).num ∧
    (a.den : Int) / (Nat.gcd b.num.natAbs a.den : Nat) * ((b.den : Int) / (Nat.gcd a.num.natAbs b.den : Nat)) = ((a * b).den : Int) := by
  have h : a * b = Rat.mul a b := rfl
  rw [h]
  delta Rat.mul
  dsimp only
  simp only [Int.divExact_eq_tdiv, Nat.divExact_eq_div]
  constructor
  · rw [Int.tdiv_eq_ediv_of_dvd (Int.ofNat_dvd_left.2 <| Nat.gcd_dvd_left ..), Int.tdiv_eq_ediv_of_dvd (Int.ofNat_dvd_left.2 <| Nat.gcd_dvd_left ..)]
  · rw [Int.natCast_mul]
    rfl
theorem rat_mul' (a b : Rat) : Rat.divInt (a.num * b.num) ((a.den : Int) * b.den) = a * b := by
  rw [Rat.mul_def', ← Rat.divInt_ofNat, Int.natCast_mul]
theorem rat_div' (a b : Rat) : Rat.divInt (a.num * b.den) ((a.den : Int) * b.num) = a * b⁻¹ := by
  rw [Rat.inv_def]
  conv => rhs; rw [← Rat.num_divInt_den a, Rat.divInt_mul_divInt]
theorem rat_inv (b : Rat) : (b⁻¹).num = (if b.num < 0 then -(b.den : Int) else if b.num = 0 then 0 else (b.den : Int)) ∧ ((b⁻¹).den : Int) = if b.num = 0 then 1 else (b.num.natAbs : Int) := by
  rw [Rat.num_inv, Rat.den_inv]
  constructor
  · split
    · rw [Int.sign_eq_neg_one_of_neg (by assumption), Int.neg_one_mul]
    · split
      · rename_i h; rw [h]; simp
      · rw [Int.sign_eq_one_of_pos (by omega), Int.one_mul]
  · split <;> rfl
theorem npow_mono {a : Nat} (h : 0 < a) {j k : Nat} (hk : j ≤ k) : a ^ j ≤ a ^ k := Nat.pow_le_pow_right h hk
theorem abs_pow (x : Int) (n : Nat) : (x ^ n).natAbs = x.natAbs ^ n := Int.natAbs_pow x n
theorem pow_small {x : Int} (h : x.natAbs ≤ 1) (n : Nat) : (x ^ n).natAbs ≤ 1 := by
  rw [abs_pow]
  exact Nat.le_trans (Nat.pow_le_pow_left h n) (by rw [Nat.one_pow]; exact Nat.le_refl _)
/-- a power out of range stays so -/
theorem pow_out {M : Int} (hM : 1 < M) {x : Int} {j n : Nat} (hj : j ≤ n) (h : ¬ ((x ^ j).natAbs : Int) < M) : ¬ ((x ^ n).natAbs : Int) < M := by
  rcases Nat.lt_or_ge 1 x.natAbs with h1 | h1
  · have := npow_mono (show 0 < x.natAbs by omega) hj
    rw [abs_pow] at h ⊢
    omega
  · have := pow_small h1 j
    omega
theorem half_step {n k : Nat} : n / 2 ^ k = 2 * (n / 2 ^ (k + 1)) + n / 2 ^ k % 2 := by
  rw [Nat.pow_succ, ← Nat.div_div_eq_div_mul]
  omega
theorem pow_sq (x : Int) (m : Nat) : x ^ m * x ^ m = x ^ (2 * m) := by rw [← Int.pow_add]; congr 1; omega
theorem pow_sq1 (x : Int) (m : Nat) : x ^ m * x ^ m * x = x ^ (2 * m + 1) := by rw [pow_sq, Int.pow_succ]
theorem rat_pow (v : Rat) (n : Nat) : (v ^ n).num = v.num ^ n ∧ ((v ^ n).den : Int) = (v.den : Int) ^ n := ⟨rfl, by rw [Rat.den_pow]; exact Int.natCast_pow _ _⟩
theorem two_pow_le {x : Int} (h : 1 < x.natAbs) (n : Nat) : 2 ^ n ≤ ((x ^ n).natAbs : Int) := by
  rw [abs_pow]
  have := Nat.pow_le_pow_left (show 2 ≤ x.natAbs by omega) n
  have h2 : ((2 ^ n : Nat) : Int) = (2 : Int) ^ n := Int.natCast_pow 2 n
  omega
end Go.Proofs.YtocooajlfpngdaaGreatDoor
namespace Go.Proofs.YtocooajlfpngdaaGreatDoor
open Go.RowKit
set_option linter.unusedVariables false

theorem cell_at {W : World} {g o : Nat} {cs : Array Value} {t : TypeId} {v : Value} (h : W.heap[g]? = some (.cells cs t (0, 0))) (hv : cs[o]? = some v) : W.cell? ⟨g, o, none⟩ = some v := by
  simp [World.cell?, h, hv]
/-- block g holds the reference's integers L, one behind the other -/
def ArrN (W : World) (g : Nat) (L : List Int) : Prop := g < W.heap.size ∧ ∀ i : Nat, i < L.length → ∃ d A n c, W.cell? ⟨g, i * 2, none⟩ = some (.bool d) ∧ W.cell? ⟨g, i * 2 + 1, none⟩ = some (.slice A n c) ∧ RepN W W.heap.size (L[i]?.getD 0) (.agg #[.bool d, .slice A n c])
theorem ArrN.below {W W' : World} {g : Nat} {L : List Int} (h : ArrN W g L) (hb : Below W.heap.size W W') : ArrN W' g L := by
  obtain ⟨h1, h2⟩ := h
  refine ⟨Nat.lt_of_lt_of_le h1 hb.size, fun i hi => ?_⟩
  obtain ⟨d, A, n, c, a1, a2, a3⟩ := h2 i hi
  exact ⟨d, A, n, c, (hb.cell (p := ⟨g, i * 2, none⟩) h1).trans a1, (hb.cell (p := ⟨g, i * 2 + 1, none⟩) h1).trans a2, a3.step hb⟩
/-- element i of a row of the reference's integers is z -/
def HoldE (W : World) (g i : Nat) (z : Int) (d : Bool) (A : Option Addr) (n c : Nat) : Prop := g < W.heap.size ∧ W.cell? ⟨g, i * 2, none⟩ = some (.bool d) ∧ W.cell? ⟨g, i * 2 + 1, none⟩ = some (.slice A n c) ∧ RepN W W.heap.size z (.agg #[.bool d, .slice A n c])
theorem HoldE.below {W W' : World} {g i : Nat} {z : Int} {d : Bool} {A : Option Addr} {n c : Nat} (h : HoldE W g i z d A n c) (hb : Below W.heap.size W W') : HoldE W' g i z d A n c :=
  ⟨Nat.lt_of_lt_of_le h.1 hb.size, (hb.cell (p := ⟨g, i * 2, none⟩) h.1).trans h.2.1, (hb.cell (p := ⟨g, i * 2 + 1, none⟩) h.1).trans h.2.2.1, h.2.2.2.step hb⟩
theorem HoldE.c0 {W : World} {g i : Nat} {z : Int} {d : Bool} {A : Option Addr} {n c : Nat} (h : HoldE W g i z d A n c) : W.cell? ⟨g, i * 2, none⟩ = some (.bool d) := h.2.1
theorem HoldE.c1 {W : World} {g i : Nat} {z : Int} {d : Bool} {A : Option Addr} {n c : Nat} (h : HoldE W g i z d A n c) : W.cell? ⟨g, i * 2 + 1, none⟩ = some (.slice A n c) := h.2.2.1
theorem ArrN.get {W : World} {g : Nat} {L : List Int} (h : ArrN W g L) (i : Nat) (hi : i < L.length) : ∃ d A n c, HoldE W g i (L[i]?.getD 0) d A n c := by
  obtain ⟨d, A, n, c, h1, h2, h3⟩ := h.2 i hi
  exact ⟨d, A, n, c, h.1, h1, h2, h3⟩
section
variable {W : World} {z1 z2 z3 z4 : Int} {d1 d2 d3 d4 : Bool} {A1 A2 A3 A4 : Option Addr} {n1 c1 n2 c2 n3 c3 n4 c4 : Nat} (t : TypeId)
end
section
variable {W : World} {p g i : Nat} {z : Int} {d b0 : Bool} {A A1 : Option Addr} {n c n1 k1 : Nat} {t : TypeId} {u u' : Value} {L : List Int}
theorem HoldE.lt (h : HoldE W p i z d A n c) : p < W.heap.size := h.1
theorem HoldE.off (h : HoldE W p i z d A n c) (hk : Blk2 W g t (.bool b0) (.slice A1 n1 k1)) (hne : p ≠ g) : HoldE ((W.setCell ⟨g, 0, none⟩ u).setCell ⟨g, 1, none⟩ u') p i z d A n c :=
  ⟨by rw [size_set2]; exact h.1, cell_set2 h.2.1 hne, cell_set2 h.2.2.1 hne, by rw [size_set2]; exact h.2.2.2.stored hk⟩
theorem ArrN.off (h : ArrN W p L) (hk : Blk2 W g t (.bool b0) (.slice A1 n1 k1)) (hne : p ≠ g) : ArrN ((W.setCell ⟨g, 0, none⟩ u).setCell ⟨g, 1, none⟩ u') p L := by
  refine ⟨by rw [size_set2]; exact h.1, fun i hi => ?_⟩
  obtain ⟨d, A, n, c, a1, a2, a3⟩ := h.2 i hi
  exact ⟨d, A, n, c, cell_set2 a1 hne, cell_set2 a2 hne, by rw [size_set2]; exact a3.stored hk⟩
theorem Blk2.off {tt : TypeId} {x y : Value} (h : Blk2 W p tt x y) (hne : p ≠ g) : Blk2 ((W.setCell ⟨g, 0, none⟩ u).setCell ⟨g, 1, none⟩ u') p tt x y := (set2_heap W g u u' p hne).trans h
end
theorem bal {W0 W : World} (h : Below W0.heap.size W0 W) (o : Obj) : Below W0.heap.size W0 (W.alloc o) := bstep h (al_below W o)
theorem undrew {w w' : World} (h : Below w.drew.heap.size w.drew w') : Below w.heap.size w w' := ⟨h.os, h.tape, h.output, h.size, h.block⟩
section
variable {W : World} {q r : Int} {d d' b1 b2 : Bool} {A A' A1 A2 : Option Addr} {n c n' c' n1 k1 n2 k2 g g' : Nat}
end
theorem all_two {P : Int → Prop} {a b : Int} (ha : P a) (hb : P b) (i : Nat) (hi : i < 2) : P ([a, b][i]?.getD 0) := by
  have : i = 0 ∨ i = 1 := by omega
  rcases this with rfl | rfl
  · exact ha
  · exact hb
theorem all_three {P : Int → Prop} {a b c : Int} (ha : P a) (hb : P b) (hc : P c) (i : Nat) (hi : i < 3) : P ([a, b, c][i]?.getD 0) := by
  have : i = 0 ∨ i = 1 ∨ i = 2 := by omega
  rcases this with rfl | rfl | rfl
  · exact ha
  · exact hb
  · exact hc
theorem all_four {P : Int → Prop} {a b c d : Int} (ha : P a) (hb : P b) (hc : P c) (hd : P d) (i : Nat) (hi : i < 4) : P ([a, b, c, d][i]?.getD 0) := by
  have : i = 0 ∨ i = 1 ∨ i = 2 ∨ i = 3 := by omega
  rcases this with rfl | rfl | rfl | rfl
  · exact ha
  · exact hb
  · exact hc
  · exact hd
theorem tdiv7 {k : Int} (h0 : -9223372036854775808 ≤ k) (h1 : k ≤ 9223372036854775807) : -9223372036854775808 ≤ k.tdiv 7 ∧ k.tdiv 7 ≤ 9223372036854775807 := by
  rcases Int.lt_or_le k 0 with h | h
  · have e : k.tdiv 7 = -((-k) / 7) := by rw [show k = -(-k) by omega, Int.neg_tdiv, Int.tdiv_eq_ediv_of_nonneg (by omega), Int.neg_neg]
    omega
  · rw [Int.tdiv_eq_ediv_of_nonneg h]
    omega
/-- integers below the bound of the range -/
def InL (z : Int) : Prop := (z.natAbs : Int) < lim
theorem small_lim (z : Int) (v : Value) (w : World) (h : RepN w w.heap.size z v) (bz : (z.natAbs : Int) < lim) (r : Int) (ok : Bool) (hr : (if isI z then z else 0) = r) (ho : isI z = ok) :
    Calls Tryz.prog 109 #[v] w fun e w' => e = .returned (.tuple #[.int .i64 r, .bool ok]) ∧ Below w.heap.size w w' := by
  have := small_num z v w h ((fit_bits bz).mono (by omega))
  unfold SmallPost at this
  rw [show inI z = isI z from rfl, ho] at this
  rw [ho] at hr
  rwa [hr] at this
end Go.Proofs.YtocooajlfpngdaaGreatDoor
namespace Go.Proofs.YtocooajlfpngdaaGreatDoor
open Go.RowKit
set_option linter.unusedVariables false

/-- block g holds five strings -/
def ArrS (W : World) (g : Nat) : Prop := g < W.heap.size ∧ ∀ i : Nat, i < 5 → ∃ s : ByteArray, W.cell? ⟨g, i, none⟩ = some (.string s) ∧ s.size ≤ maxLen
theorem ArrS.below {W W' : World} {g : Nat} (h : ArrS W g) (hb : Below W.heap.size W W') : ArrS W' g := by
  obtain ⟨h1, h2⟩ := h
  refine ⟨Nat.lt_of_lt_of_le h1 hb.size, fun i hi => ?_⟩
  obtain ⟨s, a1, a2⟩ := h2 i hi
  exact ⟨s, (hb.cell (p := ⟨g, i, none⟩) h1).trans a1, a2⟩
theorem ArrS.new (W : World) (t : TypeId) (s0 s1 s2 s3 s4 : ByteArray) (h0 : s0.size ≤ maxLen) (h1 : s1.size ≤ maxLen) (h2 : s2.size ≤ maxLen) (h3 : s3.size ≤ maxLen) (h4 : s4.size ≤ maxLen) :
    ArrS (W.alloc (.cells #[.string s0, .string s1, .string s2, .string s3, .string s4] t)) W.heap.size := by
  refine ⟨by rw [World.size_alloc]; omega, fun i hi => ?_⟩
  have hn : (W.alloc (.cells #[.string s0, .string s1, .string s2, .string s3, .string s4] t)).heap[W.heap.size]? = some (.cells #[.string s0, .string s1, .string s2, .string s3, .string s4] t (0, 0)) := World.alloc_heap_new _ _
  have : i = 0 ∨ i = 1 ∨ i = 2 ∨ i = 3 ∨ i = 4 := by omega
  rcases this with rfl | rfl | rfl | rfl | rfl
  · exact ⟨_, cell_at hn rfl, h0⟩
  · exact ⟨_, cell_at hn rfl, h1⟩
  · exact ⟨_, cell_at hn rfl, h2⟩
  · exact ⟨_, cell_at hn rfl, h3⟩
  · exact ⟨_, cell_at hn rfl, h4⟩
theorem dec_pos (z : Int) : 1 ≤ (decT z).length := by
  unfold decT
  split
  · simp
  · split
    · simp
    · have := dec_ne (x := z) (by omega)
      cases h : dec10 z with
      | nil => exact absurd h this
      | cons a b => simp
theorem rparse_as (s : ByteArray) (w : World) (hs : s.size ≤ maxLen) (z : Int) (er : Nat) (h : parseT s.data.toList = (z, er)) :
    Calls Tryz.prog 87 #[.string s] w fun e w' => ∃ v, e = .returned (.tuple #[v, .int .i64 (er : Int)]) ∧ RepN w' w'.heap.size z v ∧ Below w.heap.size w w' := by
  have := parse_any s w hs
  unfold ParsePost at this
  rwa [h] at this
theorem parse_lt {l : List UInt8} {z : Int} {er : Nat} (h : parseT l = (z, er)) : (z.natAbs : Int) < lim := by
  have := parse_bd l
  rwa [h] at this
end Go.Proofs.YtocooajlfpngdaaGreatDoor
namespace Go.Proofs.YtocooajlfpngdaaGreatDoor
open Go.RowKit
set_option linter.unusedVariables false

/-- block g holds wide.Ints L, one behind the other -/
def ArrI (W : World) (g : Nat) (L : List Int) : Prop := g < W.heap.size ∧ ∀ i : Nat, i < L.length → ∃ d A n c, W.cell? ⟨g, i * 2, none⟩ = some (.bool d) ∧ W.cell? ⟨g, i * 2 + 1, none⟩ = some (.slice A n c) ∧ RepI W W.heap.size (L[i]?.getD 0) (.agg #[.bool d, .slice A n c])
theorem ArrI.below {W W' : World} {g : Nat} {L : List Int} (h : ArrI W g L) (hb : Below W.heap.size W W') : ArrI W' g L := by
  obtain ⟨h1, h2⟩ := h
  refine ⟨Nat.lt_of_lt_of_le h1 hb.size, fun i hi => ?_⟩
  obtain ⟨d, A, n, c, a1, a2, a3⟩ := h2 i hi
  exact ⟨d, A, n, c, (hb.cell (p := ⟨g, i * 2, none⟩) h1).trans a1, (hb.cell (p := ⟨g, i * 2 + 1, none⟩) h1).trans a2, a3.step hb⟩
/-- element i of a row of wide.Ints is z -/
def HoldF (W : World) (g i : Nat) (z : Int) (d : Bool) (A : Option Addr) (n c : Nat) : Prop := g < W.heap.size ∧ W.cell? ⟨g, i * 2, none⟩ = some (.bool d) ∧ W.cell? ⟨g, i * 2 + 1, none⟩ = some (.slice A n c) ∧ RepI W W.heap.size z (.agg #[.bool d, .slice A n c])
theorem HoldF.below {W W' : World} {g i : Nat} {z : Int} {d : Bool} {A : Option Addr} {n c : Nat} (h : HoldF W g i z d A n c) (hb : Below W.heap.size W W') : HoldF W' g i z d A n c :=
  ⟨Nat.lt_of_lt_of_le h.1 hb.size, (hb.cell (p := ⟨g, i * 2, none⟩) h.1).trans h.2.1, (hb.cell (p := ⟨g, i * 2 + 1, none⟩) h.1).trans h.2.2.1, h.2.2.2.step hb⟩
theorem HoldF.c0 {W : World} {g i : Nat} {z : Int} {d : Bool} {A : Option Addr} {n c : Nat} (h : HoldF W g i z d A n c) : W.cell? ⟨g, i * 2, none⟩ = some (.bool d) := h.2.1
theorem HoldF.c1 {W : World} {g i : Nat} {z : Int} {d : Bool} {A : Option Addr} {n c : Nat} (h : HoldF W g i z d A n c) : W.cell? ⟨g, i * 2 + 1, none⟩ = some (.slice A n c) := h.2.2.1
theorem ArrI.get {W : World} {g : Nat} {L : List Int} (h : ArrI W g L) (i : Nat) (hi : i < L.length) : ∃ d A n c, HoldF W g i (L[i]?.getD 0) d A n c := by
  obtain ⟨d, A, n, c, h1, h2, h3⟩ := h.2 i hi
  exact ⟨d, A, n, c, h.1, h1, h2, h3⟩
section
variable {W : World} {z1 z2 z3 z4 : Int} {d1 d2 d3 d4 : Bool} {A1 A2 A3 A4 : Option Addr} {n1 c1 n2 c2 n3 c3 n4 c4 : Nat} (t : TypeId)
end
/-- block g holds the error numbers L -/
def ArrU (W : World) (g : Nat) (L : List Int) : Prop := g < W.heap.size ∧ ∀ i : Nat, i < L.length → W.cell? ⟨g, i, none⟩ = some (.int .i64 (L[i]?.getD 0))
theorem ArrU.below {W W' : World} {g : Nat} {L : List Int} (h : ArrU W g L) (hb : Below W.heap.size W W') : ArrU W' g L :=
  ⟨Nat.lt_of_lt_of_le h.1 hb.size, fun i hi => (hb.cell (p := ⟨g, i, none⟩) h.1).trans (h.2 i hi)⟩
theorem fit_out {z : Int} (h : ¬ (z.natAbs : Int) < lim) : fitI z = 0 ∧ fitE z = 4 := by unfold fitI fitE; rw [if_neg h, if_neg h]; exact ⟨rfl, rfl⟩
/-- a number that WideLimits compares -/
def InB (z : Int) : Prop := Bits 20000 z
theorem InB.fits {z : Int} (h : InB z) : Bits 200000 z := Bits.mono (show Bits 20000 z from h) (by omega)
theorem strB_list (l : List UInt8) : (strB l).data.toList = l := by simp [strB]
end Go.Proofs.YtocooajlfpngdaaGreatDoor
