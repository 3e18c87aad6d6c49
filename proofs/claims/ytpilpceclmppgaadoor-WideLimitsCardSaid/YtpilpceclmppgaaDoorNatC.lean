/- Contracts of package wide's numbers: divideBy. -/
import Derived.Test.YtpilpceclmppgaaDoorNatB
import Derived.Laws.BitsAllLaws
namespace Go.Proofs.YtpilpceclmppgaaDoor
open Go.RowKit
set_option linter.unusedVariables false

theorem or_add {r x : Int} (h0 : 0 ≤ r) (h1 : r < 4294967296) (h2 : 0 ≤ x) (h3 : x < 4294967296) : bits .or .u64 (r * 4294967296) x = r * 4294967296 + x := by
  rw [u64_or _ _ (by omega) (by omega) h2 (by omega)]
  have h := Nat.two_pow_add_eq_or_of_lt (i := 32) (b := x.toNat) (by omega) r.toNat
  have e : (r * 4294967296).toNat = 2 ^ 32 * r.toNat := by omega
  rw [e, ← h]
  omega
/-- a division by one digit under way: the places from k on are done -/
def QuoI (d : Int) (L0 : List Int) (k : Nat) (r : Int) (L : List Int) : Prop :=
  L.length = L0.length ∧ Dig 4294967296 L ∧ 0 ≤ r ∧ r < d ∧ dv 4294967296 (L.drop k) * d + r = dv 4294967296 (L0.drop k) ∧ ∀ j, j < k → L[j]?.getD 0 = L0[j]?.getD 0
theorem QuoI.start {d : Int} {L : List Int} (hd : Dig 4294967296 L) (h0 : 0 < d) : QuoI d L L.length 0 L := by
  refine ⟨rfl, hd, by omega, h0, ?_, fun _ _ => rfl⟩
  rw [List.drop_of_length_le (Nat.le_refl _)]; simp [dv]
theorem QuoI.step {d r : Int} {L0 L : List Int} {k : Nat} (h : QuoI d L0 (k + 1) r L) (hk : k < L0.length) (h0 : 0 < d) :
    0 ≤ L[k]?.getD 0 ∧ L[k]?.getD 0 < 4294967296 ∧ (r * 4294967296 + L[k]?.getD 0) / d < 4294967296 ∧ QuoI d L0 k ((r * 4294967296 + L[k]?.getD 0) % d) (L.set k ((r * 4294967296 + L[k]?.getD 0) / d)) := by
  obtain ⟨h1, h2, h3, h4, h5, h6⟩ := h
  have hg := h2.get (show (0 : Int) < 4294967296 by omega) k
  have he := h6 k (by omega)
  obtain ⟨x, hx⟩ : ∃ x, x = L[k]?.getD 0 := ⟨_, rfl⟩
  rw [← hx] at hg he ⊢
  have hq0 : 0 ≤ (r * 4294967296 + x) / d := Int.ediv_nonneg (by omega) (by omega)
  have hq1 : (r * 4294967296 + x) / d < 4294967296 := Int.ediv_lt_of_lt_mul h0 (by omega)
  have hm := Int.mul_ediv_add_emod (r * 4294967296 + x) d
  refine ⟨hg.1, hg.2, hq1, by rw [List.length_set]; exact h1, h2.set _ ⟨hq0, hq1⟩, Int.emod_nonneg _ (by omega), Int.emod_lt_of_pos _ h0, ?_, fun j hj => by rw [set_getD' _ _ _ _ (by omega)]; exact h6 j (by omega)⟩
  have e1 : L0.drop k = x :: L0.drop (k + 1) := by rw [List.drop_eq_getElem_cons hk, he, List.getElem?_eq_getElem hk]; rfl
  have e2 : (L.set k ((r * 4294967296 + x) / d)).drop k = (r * 4294967296 + x) / d :: L.drop (k + 1) := by
    rw [List.drop_eq_getElem_cons (by rw [List.length_set]; omega), List.getElem_set_self, List.drop_set_of_lt (by omega)]
  rw [e1, e2, dv, dv, ← h5]
  grind
def QuoPost (g : Nat) (d : Int) (L0 : List Int) (w : World) (e : Ending) (w' : World) : Prop :=
  ∃ r L, e = .returned (.int .u32 r) ∧ RowW .u32 w' g 94 L ∧ w.grownBy w' (some g) ∧ QuoI d L0 0 r L
set_option maxRecDepth 100000 in
set_option maxHeartbeats 4000000 in
theorem divideBy_any (g n c : Nat) (d : Int) (L0 : List Int) (w : World) (hL : RowW .u32 w g 94 L0) (hn : L0.length = n) (hn2 : n ≤ 100000) (hd : Dig 4294967296 L0) (h0 : 0 < d) (h1 : d < 4294967296) :
    Calls Tryd.prog 72 #[.slice (some ⟨g, 0, none⟩) n c, .int .u32 d] w (QuoPost g d L0 w) := by
  have HL := Lib.hid hL
  have HI0 := Lib.hid (QuoI.start hd h0)
  rw [hn] at HI0
  have HN := Lib.hid hn
  clear hL hd hn
  go_enter Tryd.func72, Tryd.ntmps72
  go_wp2_with fail
  go_loopw [5, 6] (fun rv iv wr => ∃ (k : Nat) (r : Int) (L : List Int), k ≤ n ∧ iv = .int .i64 ((k : Int) - 1) ∧ rv = .int .u64 r ∧ Hid (QuoI d L0 k r L) ∧ Hid (RowW .u32 wr g 94 L) ∧ Hid (w.grownBy wr (some g))) (fun _ iv _ => (intOf iv + 1).toNat)
  case atStart => exact ⟨n, 0, L0, Nat.le_refl _, rfl, rfl, HI0.out, HL.out, World.grownBy.refl _ _⟩
  case round =>
    clear HI0 HL
    obtain ⟨k, r, L, hk, rfl, rfl, HI, HL, HG⟩ := hrel
    have r0 := HI.out.2.2.1
    have r1 := HI.out.2.2.2.1
    rcases Nat.eq_zero_or_pos k with rfl | hk0
    · have HF := Lib.hid (show QuoPost g d L0 w (.returned (.int .u32 r)) wr from ⟨r, L, rfl, HL.out, HG.out, HI.out⟩)
      go_wp2_with fail
      go_ret
      exact HF.out
    · obtain ⟨j, rfl⟩ : ∃ j, k = j + 1 := ⟨k - 1, by omega⟩
      rw [show (((j + 1 : Nat) : Int) - 1) = (j : Int) by omega]
      obtain ⟨x0, x1, q1, hI2⟩ := HI.out.step (by rw [HN.out]; omega) h0
      have hc := HL.out.cell j (by rw [HI.out.1, HN.out]; omega)
      have hf := HL.out.free j
      obtain ⟨x, hx⟩ : ∃ x, x = L[j]?.getD 0 := ⟨_, rfl⟩
      rw [← hx] at x0 x1 q1 hI2 hc
      have HI2 := Lib.hid hI2
      have HL2 := Lib.hid (fun (v : Int) => HL.out.set_ j (by rw [HI.out.1, HN.out]; omega) v)
      have HG2 := Lib.hid (fun (v : Value) => grown_own (o := j) (u := v) HG.out)
      have hor := or_add r0 (by omega) x0 x1
      obtain ⟨V, hV⟩ : ∃ V, V = r * 4294967296 + x := ⟨_, rfl⟩
      rw [← hV] at hor q1 HI2
      have v0 : 0 ≤ V := by omega
      have v1 : V ≤ 18446744073709551615 := by omega
      have hq0 : 0 ≤ V / d := Int.ediv_nonneg v0 (by omega)
      have htd : V.tdiv d = V / d := Int.tdiv_eq_ediv_of_nonneg v0
      have htm : V.tmod d = V % d := Int.tmod_eq_emod_of_nonneg v0
      obtain ⟨Q, hQ⟩ : ∃ Q, Q = V / d := ⟨_, rfl⟩
      rw [← hQ] at hq0 htd q1 HI2
      have hw : IntKind.u64.wrap Q = Q := IntWalk.u64_in _ (by omega)
      have hm : Q % 4294967296 = Q := by omega
      have hd0 : (d == 0) = false := by simp; omega
      clear hI2 hx hV hQ
      go_wp2_with fail
      exact ⟨⟨j, V % d, L.set j Q, by omega, rfl, rfl, HI2.out, HL2.out _, HG2.out _⟩, by simp [intOf]⟩
end Go.Proofs.YtpilpceclmppgaaDoor
