/- Contracts of the reference of wide: normal. -/
import Derived.Test.YtpilpceclmppgaaDoorNums
import Derived.Test.YtpilpceclmppgaaDoorBlk
namespace Go.Proofs.YtpilpceclmppgaaDoor
open Go.RowKit
set_option linter.unusedVariables false

/-- an integer of the reference: its sign and its digits -/
def RepN (w : World) (B : Nat) (z : Int) (v : Value) : Prop :=
  ∃ A n c zs, v = .agg #[.bool (decide (z < 0)), .slice A n c] ∧ Sl .i64 w B A n zs ∧ n ≤ c ∧ c ≤ maxLen ∧ (A = none → c = 0) ∧ Dig 10000 zs ∧ Top zs ∧ dv 10000 zs = (z.natAbs : Int)
theorem RepN.below {w w' : World} {B : Nat} {z : Int} {v : Value} (h : RepN w B z v) (hb : Below B w w') : RepN w' B z v := by
  obtain ⟨A, n, c, zs, h1, h2, h3⟩ := h
  exact ⟨A, n, c, zs, h1, h2.below hb, h3⟩
theorem RepN.more {w : World} {B B' : Nat} {z : Int} {v : Value} (h : RepN w B z v) (hb : B ≤ B') : RepN w B' z v := by
  obtain ⟨A, n, c, zs, h1, h2, h3⟩ := h
  exact ⟨A, n, c, zs, h1, h2.more hb, h3⟩
def slLen : Value → Nat
  | .slice _ k _ => k
  | _ => 0
/-- what normal returns -/
def NormPost (B : Nat) (z : Int) (w : World) (e : Ending) (w' : World) : Prop := ∃ v, e = .returned v ∧ RepN w' B z v ∧ Below w.heap.size w w'
/-- the same, with the slice's place -/
def NormA (B : Nat) (A : Option Addr) (c : Nat) (z : Int) (w : World) (e : Ending) (w' : World) : Prop := ∃ d k, e = .returned (.agg #[.bool d, .slice A k c]) ∧ RepN w' B z (.agg #[.bool d, .slice A k c]) ∧ Below w.heap.size w w'
theorem NormPost.mk {B k c : Nat} {neg : Bool} {A : Option Addr} {zs : List Int} {w w' : World} (hd : Dig 10000 zs) (hk : k ≤ zs.length) (hs : Sl .i64 w' B A k (zs.take k)) (hn : k ≤ c) (hc : c ≤ maxLen) (hA : A = none → c = 0) (ht : Top (zs.take k)) (hv : dv 10000 (zs.take k) = dv 10000 zs)
    (hb : Below w.heap.size w w') (b : Bool) (hb' : b = (neg && decide (0 < k))) : NormA B A c (if neg then - dv 10000 zs else dv 10000 zs) w (.returned (.agg #[.bool b, .slice A k c])) w' := by
  have h0 := dv_nonneg (show (0 : Int) < 10000 by omega) hd
  have hkl : (zs.take k).length = k := by rw [List.length_take]; omega
  have hpos : 0 < k ↔ 0 < dv 10000 zs := by
    constructor
    · intro h
      have hne : zs.take k ≠ [] := fun e => by rw [e] at hkl; simp at hkl; omega
      have := top_ge (show (1 : Int) < 10000 by omega) (hd.take k) ht hne
      have := pow_pos' (show (0 : Int) < 10000 by omega) ((zs.take k).length - 1)
      omega
    · intro h
      rcases Nat.eq_zero_or_pos k with rfl | h1
      · simp [dv] at hv; omega
      · exact h1
  refine ⟨_, _, rfl, ⟨A, k, c, zs.take k, ?_, hs, hn, hc, hA, hd.take k, ht, ?_⟩, hb⟩
  · congr 3
    subst hb'
    cases neg
    · simp; omega
    · simp [hpos]
  · rw [hv]
    cases neg <;> simp <;> omega

set_option maxHeartbeats 1000000 in
theorem normal_at (neg : Bool) (A : Option Addr) (n c B : Nat) (zs : List Int) (w : World) (h : Sl .i64 w B A n zs) (hB : B ≤ w.heap.size) (hn : n ≤ c) (hc : c ≤ maxLen) (hA : A = none → c = 0) (hd : Dig 10000 zs) :
    Calls Tryd.prog 51 #[.bool neg, .slice A n c] w (NormA B A c (if neg then - dv 10000 zs else dv 10000 zs) w) := by
  have hl := h.len
  have HS := Lib.hid h
  have HD := Lib.hid hd
  have HA := Lib.hid hA
  have HL := Lib.hid hl
  have hc' := hc
  unfold maxLen at hc'
  have hal : ∀ o : Obj, Below w.heap.size w (w.alloc o) := fun o => (Below.refl _ _).alloc (Nat.le_refl _) _
  have HAL := Lib.hid hal
  obtain ⟨z, hz⟩ : ∃ z, z = if neg then - dv 10000 zs else dv 10000 zs := ⟨_, rfl⟩
  rw [← hz]
  have HZ := Lib.hid hz
  clear h hd hA hl hal hz
  go_enter Tryd.func51, Tryd.ntmps51
  go_wp2_with fail
  go_loopw [1] (fun d wr => ∃ k : Nat, k ≤ n ∧ d = .slice A k c ∧ Hid (dv 10000 (zs.take k) = dv 10000 zs) ∧ Below w.heap.size w wr ∧ Blk2 wr w.heap.size 25 (.bool false) (.slice none 0 0)) (fun d _ => slLen d)
  case atStart => exact ⟨n, Nat.le_refl _, rfl, by rw [List.take_of_length_le (by rw [HL.out]; omega)]; exact rfl, HAL.out _, Blk2.new _ _ _ _⟩
  case round =>
    obtain ⟨k, hk, rfl, HV, hb, hbk⟩ := hrel
    have HB := Lib.hid hb
    have f0 := hbk.f0
    have f1 := hbk.f1
    have c0 := hbk.c0
    have c1 := hbk.c1
    have HSW := Lib.hid ((HS.out.take k hk).below (hb.mono hB))
    have HBK := Lib.hid hbk
    clear hb hbk
    rcases Nat.eq_zero_or_pos k with rfl | hk0
    · have HT := Lib.hid (show Top (zs.take 0) by simp [Top])
      cases neg
      · go_wp2_with fail
        have hbs := ((HB.out.setCell (p := ⟨w.heap.size, 0, none⟩) (Nat.le_refl _) (.bool false)).setCell (p := ⟨w.heap.size, 1, none⟩) (Nat.le_refl _) (.slice A 0 c))
        refine bodyPost_ret (v := .agg #[.bool false, .slice A 0 c]) (by simp [results, Tryd.results51, go_sem, c0, c1]) rfl ?_
        rw [HZ.out]
        exact NormPost.mk (neg := false) HD.out (by rw [HL.out]; omega) (HSW.out.below ((((Below.refl _ _).setCell (p := ⟨w.heap.size, 0, none⟩) hB _)).setCell (p := ⟨w.heap.size, 1, none⟩) hB _)) (by omega) hc HA.out HT.out HV hbs _ (by simp)
      · go_wp2_with fail
        have hbs := ((HB.out.setCell (p := ⟨w.heap.size, 0, none⟩) (Nat.le_refl _) (.bool false)).setCell (p := ⟨w.heap.size, 1, none⟩) (Nat.le_refl _) (.slice A 0 c))
        refine bodyPost_ret (v := .agg #[.bool false, .slice A 0 c]) (by simp [results, Tryd.results51, go_sem, c0, c1]) rfl ?_
        rw [HZ.out]
        exact NormPost.mk (neg := true) HD.out (by rw [HL.out]; omega) (HSW.out.below ((((Below.refl _ _).setCell (p := ⟨w.heap.size, 0, none⟩) hB _)).setCell (p := ⟨w.heap.size, 1, none⟩) hB _)) (by omega) hc HA.out HT.out HV hbs _ (by simp)
    · obtain ⟨k, rfl⟩ : ∃ j, k = j + 1 := ⟨k - 1, by omega⟩
      obtain ⟨bl, off, rfl, hbl, hcl⟩ := HS.out.at_ (by omega)
      have hcell := (HB.out.cell (p := ⟨bl, off + k, none⟩) (by show bl < w.heap.size; omega)).trans (hcl k (by omega))
      obtain ⟨x, hx⟩ : ∃ x, x = zs[k]?.getD 0 := ⟨_, rfl⟩
      rw [← hx] at hcell
      have HX := Lib.hid hx
      clear hcl hx
      by_cases hx0 : x = 0
      · subst hx0
        have HV2 := Lib.hid (show dv 10000 (zs.take k) = dv 10000 zs by rw [← strip_step 10000 zs k HX.out.symm]; exact HV)
        go_wp2_with fail
        first
          | (go_roundw
             case rel => exact ⟨k, by omega, rfl, HV2.out, HB.out, HBK.out⟩
             case measure => simp [slLen])
          | exact ⟨⟨k, by omega, rfl, HV2.out, HB.out, HBK.out⟩, by simp [slLen]⟩
      · have hxf : (x == 0) = false := by simpa using hx0
        have HT := Lib.hid (show Top (zs.take (k + 1)) by
          unfold Top
          rw [List.getLast?_eq_getElem?, List.length_take, HL.out, Nat.min_eq_left hk, List.getElem?_take]
          rw [if_pos (by omega), show k + 1 - 1 = k by omega]
          intro e
          have := HX.out
          rw [e] at this
          exact hx0 this)
        cases neg
        · go_wp2_with fail
          have hbs := ((HB.out.setCell (p := ⟨w.heap.size, 0, none⟩) (Nat.le_refl _) (.bool false)).setCell (p := ⟨w.heap.size, 1, none⟩) (Nat.le_refl _) (.slice (some ⟨bl, off, none⟩) (k + 1) c))
          refine bodyPost_ret (v := .agg #[.bool false, .slice (some ⟨bl, off, none⟩) (k + 1) c]) (by simp [results, Tryd.results51, go_sem, c0, c1]) rfl ?_
          rw [HZ.out]
          exact NormPost.mk (neg := false) HD.out (by rw [HL.out]; omega) (HSW.out.below ((((Below.refl _ _).setCell (p := ⟨w.heap.size, 0, none⟩) hB _)).setCell (p := ⟨w.heap.size, 1, none⟩) hB _)) (by omega) hc HA.out HT.out HV hbs _ (by simp)
        · go_wp2_with fail
          have hbs := ((HB.out.setCell (p := ⟨w.heap.size, 0, none⟩) (Nat.le_refl _) (.bool true)).setCell (p := ⟨w.heap.size, 1, none⟩) (Nat.le_refl _) (.slice (some ⟨bl, off, none⟩) (k + 1) c))
          refine bodyPost_ret (v := .agg #[.bool true, .slice (some ⟨bl, off, none⟩) (k + 1) c]) (by simp [results, Tryd.results51, go_sem, c0, c1]) rfl ?_
          rw [HZ.out]
          exact NormPost.mk (neg := true) HD.out (by rw [HL.out]; omega) (HSW.out.below ((((Below.refl _ _).setCell (p := ⟨w.heap.size, 0, none⟩) hB _)).setCell (p := ⟨w.heap.size, 1, none⟩) hB _)) (by omega) hc HA.out HT.out HV hbs _ (by simp)
theorem normal_any (neg : Bool) (A : Option Addr) (n c B : Nat) (zs : List Int) (w : World) (h : Sl .i64 w B A n zs) (hB : B ≤ w.heap.size) (hn : n ≤ c) (hc : c ≤ maxLen) (hA : A = none → c = 0) (hd : Dig 10000 zs) :
    Calls Tryd.prog 51 #[.bool neg, .slice A n c] w (NormPost B (if neg then - dv 10000 zs else dv 10000 zs) w) :=
  (normal_at neg A n c B zs w h hB hn hc hA hd).mono fun _ _ h => by
    obtain ⟨d, k, h1, h2, h3⟩ := h
    exact ⟨_, h1, h2, h3⟩
end Go.Proofs.YtpilpceclmppgaaDoor
