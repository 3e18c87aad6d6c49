/- Contracts of the reference: Decimal, Text. -/
import Derived.Test.YtpilpceclmppgaaDoorRef3N
namespace Go.Proofs.YtpilpceclmppgaaDoor
open Go.RowKit
set_option linter.unusedVariables false

def strB (l : List UInt8) : ByteArray := ⟨l.toArray⟩
theorem ret_str {a b : ByteArray} (h : a = b) : Ending.returned (.string a) = .returned (.string b) := by rw [h]
theorem dec_more {x d : Int} (hx : 0 ≤ x) (hd : 0 ≤ d ∧ d < 10) (h : 0 < 10 * x + d) : dec10 (10 * x + d) = dec10 x ++ [chr d] := by
  rcases Int.lt_or_eq_of_le hx with h1 | h1
  · exact dec_step h1 hd
  · subst h1
    have e : dec10 0 = [] := by unfold dec10; rw [digs_neg (by omega)]; rfl
    rw [e, Int.mul_zero, Int.zero_add, dec_one (by omega)]; rfl
theorem digit_slice (d : Nat) (hd : d < 10) (w : World) : (Instr.slice 9 (.string ⟨#[48, 49, 50, 51, 52, 53, 54, 55, 56, 57]⟩) (some (.int .i64 (d : Int))) (some (.int .i64 ((d : Int) + 1))) none).run Tryd.prog w = .ok (.string (strB [chr (d : Int)])) w := by
  have e : (⟨#[48, 49, 50, 51, 52, 53, 54, 55, 56, 57]⟩ : ByteArray).extract d (d + 1) = strB [chr (d : Int)] := by
    have : d = 0 ∨ d = 1 ∨ d = 2 ∨ d = 3 ∨ d = 4 ∨ d = 5 ∨ d = 6 ∨ d = 7 ∨ d = 8 ∨ d = 9 := by omega
    rcases this with h | h | h | h | h | h | h | h | h | h <;> subst h <;> rfl
  have h := run_slice_string (P := Tryd.prog) w 9 ⟨#[48, 49, 50, 51, 52, 53, 54, 55, 56, 57]⟩ .i64 .i64 (d : Int) ((d : Int) + 1) Tryd.underlying9 (by omega) (by omega) (by show (d : Int) + 1 ≤ ((10 : Nat) : Int); omega)
  rw [Int.toNat_natCast, show ((d : Int) + 1).toNat = d + 1 by omega, e] at h
  exact h
set_option maxRecDepth 100000 in
set_option maxHeartbeats 2000000 in
theorem decimal_any (n : Int) (w : World) (h0 : 0 ≤ n) (h1 : n ≤ 9223372036854775807) :
    Calls Tryd.prog 44 #[.int .i64 n] w fun e w' => e = .returned (.string (strB (decT n))) ∧ w = w' := by
  by_cases hz : n = 0
  · subst hz
    go_enter Tryd.func44, Tryd.ntmps44
    go_wp2
    go_ret
    exact ⟨ret_str rfl, rfl⟩
  · have hzb : (n == 0) = false := by simpa using hz
    have hneg : ¬ n < 0 := by omega
    have HD : Hid (decT n = dec10 n) := by show decT n = dec10 n; unfold decT; rw [if_neg hz, if_neg hneg]
    go_enter Tryd.func44, Tryd.ntmps44
    go_wp2_with fail
    go_loop [4, 5] (fun s kv => ∃ (k : Int) (l : List UInt8), 0 ≤ k ∧ k ≤ n ∧ kv = .int .i64 k ∧ s = .string (strB l) ∧ l.length ≤ 100 ∧ Hid (dec10 n = dec10 k ++ l)) (fun _ kv => (intOf kv).toNat)
    case atStart => exact ⟨n, [], h0, Int.le_refl _, rfl, rfl, by simp, by show dec10 n = dec10 n ++ []; simp⟩
    case round =>
      obtain ⟨k, l, hk0, hkn, rfl, rfl, hll, HL⟩ := hrel
      by_cases hk : k = 0
      · subst hk
        go_wp2_with fail
        go_ret
        exact ⟨ret_str (by rw [HD.out, HL.out, show dec10 0 = [] from by unfold dec10; rw [digs_neg (by omega)]; rfl]; rfl), rfl⟩
      · have hkb : (k == 0) = false := by simpa using hk
        have t1 : k.tmod 10 = k % 10 := Int.tmod_eq_emod_of_nonneg hk0
        have t2 : k.tdiv 10 = k / 10 := Int.tdiv_eq_ediv_of_nonneg hk0
        obtain ⟨d, hd⟩ : ∃ d : Nat, k % 10 = (d : Int) := ⟨(k % 10).toNat, by omega⟩
        have t4 : d < 10 := by omega
        rw [hd] at t1
        have HDD := Lib.hid hd
        have HK := Lib.hid (show 10 * (k / 10) + (d : Int) = k by omega)
        have t6 : (d : Int) + 1 ≤ 10 := by omega
        have hsl := digit_slice d t4 w
        have hs1 : (strB [chr (d : Int)]).size ≤ 1 := Nat.le_refl _
        have hs2 : (strB l).size ≤ 100 := hll
        have hl20 : l.length < 20 := by
          rcases Nat.lt_or_ge l.length 20 with h | h
          · exact h
          · have e := congrArg List.length HL.out
            rw [List.length_append] at e
            have h2 : (dec10 n).length ≤ 19 := by rw [dec_len]; exact digs_len (by omega) h0 (by have : (10 : Int) ^ 19 = 10000000000000000000 := by decide
                                                                                                 omega)
            omega
        have HL2 := Lib.hid (show dec10 n = dec10 (k / 10) ++ (chr (d : Int) :: l) by
          have e := dec_more (x := k / 10) (d := (d : Int)) (by omega) (by omega) (by have := HK.out; omega)
          rw [HK.out] at e
          rw [HL.out, e]; simp)
        clear hll
        go_wp2_with fail
        exact ⟨⟨k / 10, chr (d : Int) :: l, by omega, by omega, rfl, rfl, by simp; omega, HL2.out⟩, by simp [intOf]; omega⟩
end Go.Proofs.YtpilpceclmppgaaDoor
