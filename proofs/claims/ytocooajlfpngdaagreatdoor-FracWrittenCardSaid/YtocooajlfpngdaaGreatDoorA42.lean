/- Contracts of the reference of frac: Add, Sub. · The operations of both sides at fractions in range. · The order of fractions, without Go. -/
import Derived.Deep.LoopGhost
import Derived.Test.YtocooajlfpngdaaGreatDoorA41
namespace Go.Proofs.YtocooajlfpngdaaGreatDoor
open Go.RowKit
set_option linter.unusedVariables false

end Go.Proofs.YtocooajlfpngdaaGreatDoor
namespace Go.Proofs.YtocooajlfpngdaaGreatDoor
open Go.RowKit
set_option linter.unusedVariables false

section
variable {a b : Rat} {u v : Value} {w : World}
/-- the order of two fractions, as the program and the reference say it -/
def cmpF (a b : Rat) : Int := cmpI' (a.num * (b.den : Int)) (b.num * (a.den : Int))
def sgnF (a : Rat) : Int := cmpI' a.num 0
theorem fcmp_in (ha : RepF w w.heap.size a u) (hb : RepF w w.heap.size b v) (ia : InF a) (ib : InF b) : Calls Tryz.prog 44 #[u, v] w fun e w' => e = .returned (.int .i64 (cmpF a b)) ∧ Below w.heap.size w w' := fcompare_any a b u v w ha hb ia ib _ rfl
theorem gcmp_in (ha : RepG w w.heap.size a u) (hb : RepG w w.heap.size b v) (ia : InF a) (ib : InF b) : Calls Tryz.prog 45 #[u, v] w fun e w' => e = .returned (.int .i64 (cmpF a b)) ∧ Below w.heap.size w w' :=
  gcompare_any a b u v w ha hb (fit_bits ia.1) (fit_bits (den_lim ia)) (fit_bits ib.1) (fit_bits (den_lim ib)) _ rfl
theorem fsgn_in (ha : RepF w w.heap.size a u) (ia : InF a) : Calls Tryz.prog 42 #[u] w fun e w' => e = .returned (.int .i64 (sgnF a)) ∧ Below w.heap.size w w' := fsign_any a u w ha ia _ rfl
theorem gsgn_in (ha : RepG w w.heap.size a u) : Calls Tryz.prog 43 #[u] w fun e w' => e = .returned (.int .i64 (sgnF a)) ∧ Below w.heap.size w w' := by
  rcases Int.lt_trichotomy a.num 0 with h | h | h
  · have e : sgnF a = -1 := by unfold sgnF cmpI'; (repeat' split) <;> omega
    rw [e]
    exact gsign_m a u w ha h
  · have e : sgnF a = 0 := by unfold sgnF cmpI'; (repeat' split) <;> omega
    rw [e]
    exact gsign_0 a u w ha h
  · have e : sgnF a = 1 := by unfold sgnF cmpI'; (repeat' split) <;> omega
    rw [e]
    exact gsign_p a u w ha h
end
theorem allq3 {P : Rat → Prop} {a b c : Rat} (ha : P a) (hb : P b) (hc : P c) (i : Nat) (hi : i < 3) : P ([a, b, c][i]?.getD 0) := by
  have : i = 0 ∨ i = 1 ∨ i = 2 := by omega
  rcases this with rfl | rfl | rfl
  · exact ha
  · exact hb
  · exact hc
end Go.Proofs.YtocooajlfpngdaaGreatDoor
namespace Go.Proofs.YtocooajlfpngdaaGreatDoor
open Go.RowKit
set_option linter.unusedVariables false

theorem cmpF_lt {a b : Rat} (h : a < b) : cmpF a b = -1 := by
  rw [Rat.lt_iff] at h
  unfold cmpF cmpI'
  rw [if_pos h]
theorem cmpF_gt {a b : Rat} (h : b < a) : cmpF a b = 1 := by
  rw [Rat.lt_iff] at h
  unfold cmpF cmpI'
  rw [if_neg (by omega), if_pos h]
theorem cmpF_self (a : Rat) : cmpF a a = 0 := by
  unfold cmpF cmpI'
  rw [if_neg (by omega), if_neg (by omega)]
theorem rat_tri (a b : Rat) : a < b ∨ a = b ∨ b < a := by
  rcases Rat.le_total (a := a) (b := b) with h | h
  · by_cases e : a = b
    · exact .inr (.inl e)
    · exact .inl (by grind)
  · by_cases e : a = b
    · exact .inr (.inl e)
    · exact .inr (.inr (by grind))
theorem cmpF_anti (a b : Rat) : cmpF a b = -cmpF b a := by
  rcases rat_tri a b with h | h | h
  · rw [cmpF_lt h, cmpF_gt h]
  · rw [h, cmpF_self]; rfl
  · rw [cmpF_gt h, cmpF_lt h]; rfl
theorem cmpF_zero {a b : Rat} : cmpF a b = 0 ↔ a = b := by
  rcases rat_tri a b with h | h | h
  · rw [cmpF_lt h]
    constructor
    · intro e; cases e
    · intro e; exfalso; grind
  · rw [h, cmpF_self]; simp
  · rw [cmpF_gt h]
    constructor
    · intro e; cases e
    · intro e; exfalso; grind
theorem cmpF_le {a b : Rat} : cmpF a b ≤ 0 ↔ a ≤ b := by
  rcases rat_tri a b with h | h | h
  · rw [cmpF_lt h]
    constructor
    · intro _; grind
    · intro _; decide
  · rw [h, cmpF_self]
    constructor
    · intro _; grind
    · intro _; decide
  · rw [cmpF_gt h]
    constructor
    · intro e; exact absurd e (by decide)
    · intro e; exfalso; grind
theorem cmpF_trans {a b c : Rat} (h1 : cmpF a b ≤ 0) (h2 : cmpF b c ≤ 0) : cmpF a c ≤ 0 := by
  rw [cmpF_le] at *
  grind
theorem cmpF_add (a b c : Rat) : cmpF (a + c) (b + c) = cmpF a b := by
  rcases rat_tri a b with h | h | h
  · rw [cmpF_lt h, cmpF_lt (by grind)]
  · rw [h, cmpF_self, cmpF_self]
  · rw [cmpF_gt h, cmpF_gt (by grind)]
theorem sgnF_pos {c : Rat} (h : 0 < c) : sgnF c = 1 := by
  have h1 := (Rat.lt_iff _ _).1 h
  unfold sgnF cmpI'
  have e1 : (0 : Rat).num = 0 := rfl
  have e2 : (0 : Rat).den = 1 := rfl
  rw [e1, e2] at h1
  rw [if_neg (by omega), if_pos (by omega)]
theorem sgnF_neg {c : Rat} (h : c < 0) : sgnF c = -1 := by
  have h1 := (Rat.lt_iff _ _).1 h
  unfold sgnF cmpI'
  have e1 : (0 : Rat).num = 0 := rfl
  have e2 : (0 : Rat).den = 1 := rfl
  rw [e1, e2] at h1
  rw [if_pos (by omega)]
theorem sgnF_zero : sgnF 0 = 0 := by decide
theorem cmpF_mul (a b c : Rat) : cmpF (a * c) (b * c) = cmpF a b * sgnF c := by
  rcases rat_tri c 0 with hc | hc | hc
  · rw [sgnF_neg hc]
    have hm : 0 < -c := by grind
    rcases rat_tri a b with h | h | h
    · have := (Rat.mul_lt_mul_left hm).2 h
      rw [cmpF_lt h, cmpF_gt (by grind)]; rfl
    · rw [h, cmpF_self, cmpF_self]; rfl
    · have := (Rat.mul_lt_mul_left hm).2 h
      rw [cmpF_gt h, cmpF_lt (by grind)]; rfl
  · rw [hc, sgnF_zero, Rat.mul_zero, Rat.mul_zero, cmpF_self, Int.mul_zero]
  · rw [sgnF_pos hc]
    rcases rat_tri a b with h | h | h
    · have := (Rat.mul_lt_mul_left hc).2 h
      rw [cmpF_lt h, cmpF_lt (by grind)]; rfl
    · rw [h, cmpF_self, cmpF_self]; rfl
    · have := (Rat.mul_lt_mul_left hc).2 h
      rw [cmpF_gt h, cmpF_gt (by grind)]; rfl
theorem cmpF_rng (a b : Rat) : -1 ≤ cmpF a b ∧ cmpF a b ≤ 1 := by unfold cmpF cmpI'; (repeat' split) <;> omega
theorem sgnF_rng (a : Rat) : -1 ≤ sgnF a ∧ sgnF a ≤ 1 := by unfold sgnF cmpI'; (repeat' split) <;> omega
/-- the fraction of the sums of numerators and denominators -/
def medF (a b : Rat) : Rat := Rat.divInt (a.num + b.num) ((a.den : Int) + (b.den : Int))
theorem den_val (a : Rat) : (a.num : Rat) = a * ((a.den : Int) : Rat) := by
  have h1 : a = Rat.divInt a.num a.den := (Rat.num_divInt_den a).symm
  have h2 : Rat.divInt a.num a.den = (a.num : Rat) / ((a.den : Int) : Rat) := Rat.divInt_eq_div _ _
  have h3 : ((a.den : Int) : Rat) ≠ 0 := by
    intro h
    have := a.den_pos
    have h4 : (a.den : Int) = 0 := by exact_mod_cast h
    omega
  rw [h2] at h1
  grind
theorem med_val (a b : Rat) : medF a b * (((a.den : Int) : Rat) + ((b.den : Int) : Rat)) = a * ((a.den : Int) : Rat) + b * ((b.den : Int) : Rat) := by
  have h2 : medF a b = ((a.num + b.num : Int) : Rat) / (((a.den : Int) + (b.den : Int) : Int) : Rat) := Rat.divInt_eq_div _ _
  have p1 := a.den_pos
  have p2 := b.den_pos
  have h3 : (((a.den : Int) + (b.den : Int) : Int) : Rat) ≠ 0 := by
    intro h
    have h4 : ((a.den : Int) + (b.den : Int)) = 0 := by exact_mod_cast h
    omega
  have e1 := den_val a
  have e2 := den_val b
  have e3 : ((a.num + b.num : Int) : Rat) = (a.num : Rat) + (b.num : Rat) := Rat.intCast_add _ _
  have e4 : (((a.den : Int) + (b.den : Int) : Int) : Rat) = ((a.den : Int) : Rat) + ((b.den : Int) : Rat) := Rat.intCast_add _ _
  rw [e3] at h2
  rw [e4] at h2 h3
  grind
theorem denQ_pos (a : Rat) : (0 : Rat) < ((a.den : Int) : Rat) := by
  have := a.den_pos
  exact Rat.intCast_pos.2 (by omega)
theorem med_lt {a b : Rat} (h : a < b) : a < medF a b ∧ medF a b < b := by
  have hv := med_val a b
  have pa := denQ_pos a
  have pb := denQ_pos b
  obtain ⟨p, hp⟩ : ∃ p, ((a.den : Int) : Rat) = p := ⟨_, rfl⟩
  obtain ⟨q, hq⟩ : ∃ q, ((b.den : Int) : Rat) = q := ⟨_, rfl⟩
  obtain ⟨m, hm⟩ : ∃ m, medF a b = m := ⟨_, rfl⟩
  rw [hp, hq, hm] at hv
  rw [hp] at pa
  rw [hq] at pb
  rw [hm]
  have hpq : 0 < p + q := by grind
  have k1 := (Rat.mul_lt_mul_left pb).2 h
  have k2 := (Rat.mul_lt_mul_left pa).2 h
  constructor
  · refine (Rat.mul_lt_mul_left hpq).1 ?_
    grind
  · refine (Rat.mul_lt_mul_left hpq).1 ?_
    grind
theorem med_comm (a b : Rat) : medF a b = medF b a := by unfold medF; rw [Int.add_comm a.num, Int.add_comm (a.den : Int)]
theorem med_cmp {a b : Rat} (h : cmpF a b ≠ 0) : cmpF a (medF a b) = cmpF a b ∧ cmpF (medF a b) b = cmpF a b := by
  rcases rat_tri a b with h1 | h1 | h1
  · have := med_lt h1
    rw [cmpF_lt h1, cmpF_lt this.1, cmpF_lt this.2]
    exact ⟨rfl, rfl⟩
  · exact absurd (cmpF_zero.2 h1) h
  · have := med_lt h1
    rw [med_comm b a] at this
    rw [cmpF_gt h1, cmpF_gt this.2, cmpF_gt this.1]
    exact ⟨rfl, rfl⟩
theorem equal_cmp {a b : Rat} {u v : Value} {w : World} (ha : RepF w w.heap.size a u) (hb : RepF w w.heap.size b v) (ia : InF a) (ib : InF b) :
    Calls Tryz.prog 41 #[u, v] w (fun e w' => e = .returned (.bool (cmpF a b == 0)) ∧ Below w.heap.size w w') := by
  have h := equal_law a b u v w ha hb ia ib
  have e : decide (textQ a = textQ b) = (cmpF a b == 0) := by
    by_cases e : a = b
    · subst e
      rw [cmpF_self]
      simp
    · have h1 : ¬ textQ a = textQ b := fun h => e (text_inj h ia ib)
      have h2 : ¬ cmpF a b = 0 := fun h => e (cmpF_zero.1 h)
      simp [h1, h2]
  rwa [e] at h
end Go.Proofs.YtocooajlfpngdaaGreatDoor
