/- Contracts of the reference of frac: Compare, Text, Sign. · Contracts of the reference of frac: Pick. -/
import Derived.Test.YtocooajlfpngdaaGreatDoorB39
namespace Go.Proofs.YtocooajlfpngdaaGreatDoor
open Go.RowKit
set_option linter.unusedVariables false

theorem gtext_as (z : Int) (v : Value) (w : World) (h : RepN w w.heap.size z v) (bz : (z.natAbs : Int) < lim) (T : ByteArray) (hT : strB (decT z) = T) : Calls Tryz.prog 65 #[v] w (StrU T w) := by
  have := text_any z v w h ((fit_bits bz).mono (by omega))
  unfold TextPost at this
  rw [hT] at this
  exact this
set_option maxRecDepth 100000 in
set_option maxHeartbeats 4000000 in
theorem gtext_one (a : Rat) (u : Value) (w : World) (ha : RepG w w.heap.size a u) (ia : InF a) (h1 : a.den = 1) :
    Calls Tryz.prog 49 #[u] w (StrU (strB (textQ a)) w) := by
  have HF1 := Lib.hid (show strB (decT a.num) = strB (textQ a) by unfold textQ; rw [if_pos h1])
  obtain ⟨P, hP⟩ : ∃ P, strB (decT a.num) = P := ⟨_, rfl⟩
  obtain ⟨T, hT⟩ : ∃ T, strB (decT (a.den : Int)) = T := ⟨_, rfl⟩
  have hl := text_len ia
  rw [hP, hT] at hl
  have HP := Lib.hid hP
  have HT := Lib.hid hT
  replace ia := Lib.hid ia
  have ht : T = ⟨#[49]⟩ := by rw [← hT, h1]; exact str_1
  subst ht
  clear hP hT hl h1
  have HB := Lib.hid (Below.refl w.heap.size w)
  obtain ⟨da, Aa, na, ca, ea, Ea, ma, fa, rfl⟩ := ha.shape
  have Va := Lib.hid ha
  clear ha
  go_enter Tryz.func49, Tryz.ntmps49
  have h := HoldG.new Va.out
  have b := al_below w (.cells #[.bool da, .slice Aa na ca, .bool ea, .slice Ea ma fa] 42)
  replace HB := Lib.hid (bstep HB.out b)
  clear b
  have Ha := Lib.hid h
  clear h Va
  have gHa0 := Ha.out.c0
  have gHa1 := Ha.out.c1
  have gHa2 := Ha.out.c2
  have gHa3 := Ha.out.c3
  go_wp2_with fail
  refine (gtext_as (a.den : Int) _ _ Ha.out.2.den (den_lim ia.out) _ HT.out).mono ?_
  rintro e w51 ⟨rfl, b⟩
  clear gHa0 gHa1 gHa2 gHa3
  have z51 := b.size
  simp only [World.size_alloc] at z51
  replace z51 := Lib.hid z51
  replace HB := Lib.hid (bstep HB.out b)
  replace Ha := Lib.hid (Ha.out.below b)
  clear b
  have gHa0 := Ha.out.c0
  have gHa1 := Ha.out.c1
  have gHa2 := Ha.out.c2
  have gHa3 := Ha.out.c3
  go_wp2_with fail
  refine (gtext_as a.num _ _ Ha.out.2.num ia.out.1 P HP.out).mono ?_
  rintro e w52 ⟨rfl, b⟩
  clear gHa0 gHa1 gHa2 gHa3
  have z52 := b.size
  replace z52 := Lib.hid z52
  replace HB := Lib.hid (bstep HB.out b)
  replace Ha := Lib.hid (Ha.out.below b)
  clear b
  have HB' := HB.out
  clear ia HT
  clear HB Ha
  go_wp2_with fail
  go_ret
  exact ⟨ret_str (by rw [← HP.out]; exact HF1.out), HB'⟩
set_option maxRecDepth 100000 in
set_option maxHeartbeats 4000000 in
theorem gtext_two (a : Rat) (u : Value) (w : World) (ha : RepG w w.heap.size a u) (ia : InF a) (h1 : a.den ≠ 1) :
    Calls Tryz.prog 49 #[u] w (StrU (strB (textQ a)) w) := by
  have HF1 := Lib.hid (show strB (decT a.num) ++ ⟨#[47]⟩ ++ strB (decT (a.den : Int)) = strB (textQ a) by unfold textQ; rw [if_neg h1]; rw [show (⟨#[47]⟩ : ByteArray) = strB [47] from rfl, strB_app, strB_app]; simp)
  obtain ⟨P, hP⟩ : ∃ P, strB (decT a.num) = P := ⟨_, rfl⟩
  obtain ⟨T, hT⟩ : ∃ T, strB (decT (a.den : Int)) = T := ⟨_, rfl⟩
  have hl := text_len ia
  rw [hP, hT] at hl
  have HP := Lib.hid hP
  have HT := Lib.hid hT
  replace ia := Lib.hid ia
  have ht : T ≠ ⟨#[49]⟩ := by rw [← hT]; exact den_text ia.out h1
  have hb1 : (T.toList == [49]) = false := by
    rw [Lib.toList_data, beq_eq_false_iff_ne]
    exact fun e => ht (byteArray_ext e)
  have hn1 : ¬ 9223372036854775807 < P.size + 1 := by omega
  have hn2 : ¬ 9223372036854775807 < P.size + 1 + T.size := by omega
  clear ht
  clear hP hT hl h1
  have HB := Lib.hid (Below.refl w.heap.size w)
  obtain ⟨da, Aa, na, ca, ea, Ea, ma, fa, rfl⟩ := ha.shape
  have Va := Lib.hid ha
  clear ha
  go_enter Tryz.func49, Tryz.ntmps49
  have h := HoldG.new Va.out
  have b := al_below w (.cells #[.bool da, .slice Aa na ca, .bool ea, .slice Ea ma fa] 42)
  replace HB := Lib.hid (bstep HB.out b)
  clear b
  have Ha := Lib.hid h
  clear h Va
  have gHa0 := Ha.out.c0
  have gHa1 := Ha.out.c1
  have gHa2 := Ha.out.c2
  have gHa3 := Ha.out.c3
  go_wp2_with fail
  refine (gtext_as (a.den : Int) _ _ Ha.out.2.den (den_lim ia.out) _ HT.out).mono ?_
  rintro e w51 ⟨rfl, b⟩
  clear gHa0 gHa1 gHa2 gHa3
  have z51 := b.size
  simp only [World.size_alloc] at z51
  replace z51 := Lib.hid z51
  replace HB := Lib.hid (bstep HB.out b)
  replace Ha := Lib.hid (Ha.out.below b)
  clear b
  have gHa0 := Ha.out.c0
  have gHa1 := Ha.out.c1
  have gHa2 := Ha.out.c2
  have gHa3 := Ha.out.c3
  go_wp2_with fail
  refine (gtext_as a.num _ _ Ha.out.2.num ia.out.1 P HP.out).mono ?_
  rintro e w52 ⟨rfl, b⟩
  clear gHa0 gHa1 gHa2 gHa3
  have z52 := b.size
  replace z52 := Lib.hid z52
  replace HB := Lib.hid (bstep HB.out b)
  replace Ha := Lib.hid (Ha.out.below b)
  clear b
  have HB' := HB.out
  clear ia
  clear HB Ha
  go_wp2_with fail
  go_ret
  exact ⟨ret_str (by rw [← HP.out, ← HT.out]; exact HF1.out), HB'⟩
theorem gtext_any (a : Rat) (u : Value) (w : World) (ha : RepG w w.heap.size a u) (ia : InF a) : Calls Tryz.prog 49 #[u] w (StrU (strB (textQ a)) w) := by
  by_cases h : a.den = 1
  · exact gtext_one a u w ha ia h
  · exact gtext_two a u w ha ia h
set_option maxRecDepth 100000 in
set_option maxHeartbeats 4000000 in
theorem gsign_0 (a : Rat) (u : Value) (w : World) (ha : RepG w w.heap.size a u) (hs : a.num = 0) :
    Calls Tryz.prog 43 #[u] w (fun e w' => e = .returned (.int .i64 (0)) ∧ Below w.heap.size w w') := by
  have HB := Lib.hid (Below.refl w.heap.size w)
  obtain ⟨da, Aa, na, ca, ea, Ea, ma, fa, rfl⟩ := ha.shape
  have Va := Lib.hid ha
  clear ha
  replace hs := Lib.hid hs
  go_enter Tryz.func43, Tryz.ntmps43
  have h := HoldG.new Va.out
  have b := al_below w (.cells #[.bool da, .slice Aa na ca, .bool ea, .slice Ea ma fa] 42)
  replace HB := Lib.hid (bstep HB.out b)
  clear b
  have Ha := Lib.hid h
  clear h Va
  obtain rfl : na = 0 := Ha.out.2.num.zero.2 hs.out
  have HF := HB.out
  clear HB Ha
  go_wp2_with fail
  go_ret
  exact ⟨rfl, HF⟩
set_option maxRecDepth 100000 in
set_option maxHeartbeats 4000000 in
theorem gsign_m (a : Rat) (u : Value) (w : World) (ha : RepG w w.heap.size a u) (hs : a.num < 0) :
    Calls Tryz.prog 43 #[u] w (fun e w' => e = .returned (.int .i64 (-1)) ∧ Below w.heap.size w w') := by
  have HB := Lib.hid (Below.refl w.heap.size w)
  obtain ⟨da, Aa, na, ca, ea, Ea, ma, fa, rfl⟩ := ha.shape
  have Va := Lib.hid ha
  clear ha
  replace hs := Lib.hid hs
  go_enter Tryz.func43, Tryz.ntmps43
  have h := HoldG.new Va.out
  have b := al_below w (.cells #[.bool da, .slice Aa na ca, .bool ea, .slice Ea ma fa] 42)
  replace HB := Lib.hid (bstep HB.out b)
  clear b
  have Ha := Lib.hid h
  clear h Va
  have hny : na ≠ 0 := fun e => by have h1 := Ha.out.2.num.zero.1 e; have h2 := hs.out; omega
  have hny1 : ((na : Int) == 0) = false := by simp [hny]
  obtain rfl : da = true := by rw [Ha.out.2.num.sgn']; exact decide_eq_true hs.out
  have HF := HB.out
  clear HB Ha
  go_wp2_with fail
  go_ret
  exact ⟨rfl, HF⟩
set_option maxRecDepth 100000 in
set_option maxHeartbeats 4000000 in
theorem gsign_p (a : Rat) (u : Value) (w : World) (ha : RepG w w.heap.size a u) (hs : 0 < a.num) :
    Calls Tryz.prog 43 #[u] w (fun e w' => e = .returned (.int .i64 (1)) ∧ Below w.heap.size w w') := by
  have HB := Lib.hid (Below.refl w.heap.size w)
  obtain ⟨da, Aa, na, ca, ea, Ea, ma, fa, rfl⟩ := ha.shape
  have Va := Lib.hid ha
  clear ha
  replace hs := Lib.hid hs
  go_enter Tryz.func43, Tryz.ntmps43
  have h := HoldG.new Va.out
  have b := al_below w (.cells #[.bool da, .slice Aa na ca, .bool ea, .slice Ea ma fa] 42)
  replace HB := Lib.hid (bstep HB.out b)
  clear b
  have Ha := Lib.hid h
  clear h Va
  have hny : na ≠ 0 := fun e => by have h1 := Ha.out.2.num.zero.1 e; have h2 := hs.out; omega
  have hny1 : ((na : Int) == 0) = false := by simp [hny]
  obtain rfl : da = false := by rw [Ha.out.2.num.sgn']; exact decide_eq_false (by have := hs.out; omega)
  have HF := HB.out
  clear HB Ha
  go_wp2_with fail
  go_ret
  exact ⟨rfl, HF⟩
end Go.Proofs.YtocooajlfpngdaaGreatDoor
namespace Go.Proofs.YtocooajlfpngdaaGreatDoor
open Go.RowKit
set_option linter.unusedVariables false

def PickU (w : World) (e : Ending) (w' : World) : Prop := ∃ r : Int, e = .returned (.int .i64 r) ∧ -9223372036854775808 ≤ r ∧ r ≤ 9223372036854775807 ∧ w = w'
set_option maxHeartbeats 1000000 in
theorem gpick_any (A : Option Addr) (n c : Nat) (i : Int) (zs : List Int) (w : World) (h : InI w A n zs) (hn : n ≤ 9223372036854775807) (hi0 : 0 ≤ i) (hi1 : i ≤ 1000) :
    Calls Tryz.prog 12 #[.slice A n c, .int .i64 i] w (PickU w) := by
  obtain ⟨k, rfl⟩ := Int.eq_ofNat_of_zero_le hi0
  have hneg : decide ((k : Int) < 0) = false := decide_eq_false (by omega)
  by_cases hlt : k < n
  · have hge : decide ((n : Int) ≤ (k : Int)) = false := decide_eq_false (by omega)
    obtain ⟨b, off, rfl, _, hc⟩ := h.1.at_ (by omega)
    have ck := hc k hlt
    have hz := h.2 (zs[k]?.getD 0) (by rw [List.getElem?_eq_getElem (by rw [h.1.len]; exact hlt)]; exact List.getElem_mem _)
    obtain ⟨z, hzz⟩ : ∃ z, z = zs[k]?.getD 0 := ⟨_, rfl⟩
    rw [← hzz] at ck hz
    have HF := Lib.hid (show PickU w (.returned (.int .i64 z)) w from ⟨_, rfl, hz.1, hz.2, rfl⟩)
    clear h hc hz hzz
    go_enter Tryz.func12, Tryz.ntmps12
    go_wp2_with fail
    go_ret
    exact HF.out
  · have hge : decide ((n : Int) ≤ (k : Int)) = true := decide_eq_true (by omega)
    have HF := Lib.hid (show PickU w (.returned (.int .i64 0)) w from ⟨_, rfl, by omega, by omega, rfl⟩)
    clear h
    go_enter Tryz.func12, Tryz.ntmps12
    go_wp2_with fail
    go_ret
    exact HF.out
end Go.Proofs.YtocooajlfpngdaaGreatDoor
