/- Contracts of the reference of wide: Fits, Small. · Contracts of the reference: Decimal, Text. · Contracts of the reference: Text. -/
import Derived.Test.YtocooajlfpngdaaGreatDoorA24
import Derived.Test.YtocooajlfpngdaaGreatDoorA04
namespace Go.Proofs.YtocooajlfpngdaaGreatDoor
open Go.RowKit
set_option linter.unusedVariables false

/-! ### Small -/
end Go.Proofs.YtocooajlfpngdaaGreatDoor
namespace Go.Proofs.YtocooajlfpngdaaGreatDoor
open Go.RowKit
set_option linter.unusedVariables false

def strB (l : List UInt8) : ByteArray := ⟨l.toArray⟩
theorem ret_str {a b : ByteArray} (h : a = b) : Ending.returned (.string a) = .returned (.string b) := by rw [h]
theorem dec_more {x d : Int} (hx : 0 ≤ x) (hd : 0 ≤ d ∧ d < 10) (h : 0 < 10 * x + d) : dec10 (10 * x + d) = dec10 x ++ [chr d] := by
  rcases Int.lt_or_eq_of_le hx with h1 | h1
  · exact dec_step h1 hd
  · subst h1
    have e : dec10 0 = [] := by unfold dec10; rw [digs_neg (by omega)]; rfl
    rw [e, Int.mul_zero, Int.zero_add, dec_one (by omega)]; rfl
theorem digit_slice (d : Nat) (hd : d < 10) (w : World) : (Instr.slice 9 (.string ⟨#[48, 49, 50, 51, 52, 53, 54, 55, 56, 57]⟩) (some (.int .i64 (d : Int))) (some (.int .i64 ((d : Int) + 1))) none).run Tryz.prog w = .ok (.string (strB [chr (d : Int)])) w := by
  have e : (⟨#[48, 49, 50, 51, 52, 53, 54, 55, 56, 57]⟩ : ByteArray).extract d (d + 1) = strB [chr (d : Int)] := by
    have : d = 0 ∨ d = 1 ∨ d = 2 ∨ d = 3 ∨ d = 4 ∨ d = 5 ∨ d = 6 ∨ d = 7 ∨ d = 8 ∨ d = 9 := by omega
    rcases this with h | h | h | h | h | h | h | h | h | h <;> subst h <;> rfl
  have h := run_slice_string (P := Tryz.prog) w 9 ⟨#[48, 49, 50, 51, 52, 53, 54, 55, 56, 57]⟩ .i64 .i64 (d : Int) ((d : Int) + 1) Tryz.underlying9 (by omega) (by omega) (by show (d : Int) + 1 ≤ ((10 : Nat) : Int); omega)
  rw [Int.toNat_natCast, show ((d : Int) + 1).toNat = d + 1 by omega, e] at h
  exact h
set_option maxRecDepth 100000 in
set_option maxHeartbeats 2000000 in
theorem decimal_any (n : Int) (w : World) (h0 : 0 ≤ n) (h1 : n ≤ 9223372036854775807) :
    Calls Tryz.prog 100 #[.int .i64 n] w fun e w' => e = .returned (.string (strB (decT n))) ∧ w = w' := by
  by_cases hz : n = 0
  · subst hz
    go_enter Tryz.func100, Tryz.ntmps100
    go_wp2
    go_ret
    exact ⟨ret_str rfl, rfl⟩
  · have hzb : (n == 0) = false := by simpa using hz
    have hneg : ¬ n < 0 := by omega
    have HD : Hid (decT n = dec10 n) := by show decT n = dec10 n; unfold decT; rw [if_neg hz, if_neg hneg]
    go_enter Tryz.func100, Tryz.ntmps100
    go_wp2_with fail
    go_loop [4, 5] (fun s kv => ∃ (k : Int) (l : List UInt8), 0 ≤ k ∧ k ≤ n ∧ kv = .int .i64 k ∧ s = .string (strB l) ∧ l.length ≤ 100 ∧ Hid (dec10 n = dec10 k ++ l)) (fun _ kv => (intOf kv).toNat)
    case atStart => exact ⟨n, [], h0, Int.le_refl _, rfl, rfl, by simp, by show dec10 n = dec10 n ++ []; simp⟩
    case round =>
      obtain ⟨k, l, hk0, hkn, rfl, rfl, hll, HL⟩ := hrel
      by_cases hk : k = 0
      · subst hk
        go_wp2_with fail
        go_ret
        exact ⟨ret_str (by rw [HD.out, HL.out, show dec10 0 = [] from by unfold dec10; rw [digs_neg (by omega)]; rfl]; rfl), rfl⟩
      · have hkb : (k == 0) = false := by simpa using hk
        have t1 : k.tmod 10 = k % 10 := Int.tmod_eq_emod_of_nonneg hk0
        have t2 : k.tdiv 10 = k / 10 := Int.tdiv_eq_ediv_of_nonneg hk0
        obtain ⟨d, hd⟩ : ∃ d : Nat, k % 10 = (d : Int) := ⟨(k % 10).toNat, by omega⟩
        have t4 : d < 10 := by omega
        rw [hd] at t1
        have HDD := Lib.hid hd
        have HK := Lib.hid (show 10 * (k / 10) + (d : Int) = k by omega)
        have t6 : (d : Int) + 1 ≤ 10 := by omega
        have hsl := digit_slice d t4 w
        have hs1 : (strB [chr (d : Int)]).size ≤ 1 := Nat.le_refl _
        have hs2 : (strB l).size ≤ 100 := hll
        have hl20 : l.length < 20 := by
          rcases Nat.lt_or_ge l.length 20 with h | h
          · exact h
          · have e := congrArg List.length HL.out
            rw [List.length_append] at e
            have h2 : (dec10 n).length ≤ 19 := by rw [dec_len]; exact digs_len (by omega) h0 (by have : (10 : Int) ^ 19 = 10000000000000000000 := by decide
                                                                                                 omega)
            omega
        have HL2 := Lib.hid (show dec10 n = dec10 (k / 10) ++ (chr (d : Int) :: l) by
          have e := dec_more (x := k / 10) (d := (d : Int)) (by omega) (by omega) (by have := HK.out; omega)
          rw [HK.out] at e
          rw [HL.out, e]; simp)
        clear hll
        go_wp2_with fail
        exact ⟨⟨k / 10, chr (d : Int) :: l, by omega, by omega, rfl, rfl, by simp; omega, HL2.out⟩, by simp [intOf]; omega⟩
end Go.Proofs.YtocooajlfpngdaaGreatDoor
namespace Go.Proofs.YtocooajlfpngdaaGreatDoor
open Go.RowKit
set_option linter.unusedVariables false

def strLen : Value → Nat
  | .string b => b.size
  | _ => 0
theorem strB_app (a b : List UInt8) : strB a ++ strB b = strB (a ++ b) := by
  unfold strB
  apply ByteArray.ext
  simp
theorem strB_size (l : List UInt8) : (strB l).size = l.length := rfl
theorem drop_pos {zs : List Int} (hd : Dig 10000 zs) (ht : Top zs) (k : Nat) (hk : k < zs.length) : 0 < dv 10000 (zs.drop k) := by
  have ht2 : Top (zs.drop k) := by
    unfold Top at *
    rw [List.getLast?_drop, if_neg (by omega)]
    exact ht
  have h := top_ge (show (1 : Int) < 10000 by omega) (hd.drop k) ht2 (fun e => by have := congrArg List.length e; rw [List.length_drop] at this; simp at this; omega)
  have := pow_pos' (show (0 : Int) < 10000 by omega) ((zs.drop k).length - 1)
  omega
theorem dec10_len4 {zs : List Int} (hd : Dig 10000 zs) (k : Nat) : (dec10 (dv 10000 (zs.drop k))).length ≤ 4 * zs.length := by
  rw [dec_len]
  refine digs_len (by omega) (dv_nonneg (by omega) (hd.drop k)) ?_
  have h1 := dv_lt (show (0 : Int) < 10000 by omega) (hd.drop k)
  have h2 := pow_mono' (show (0 : Int) < 10000 by omega) (show (zs.drop k).length ≤ zs.length by rw [List.length_drop]; omega)
  have h3 : (10 : Int) ^ (4 * zs.length) = 10000 ^ zs.length := by rw [Int.pow_mul]; rfl
  omega
def TextPost (z : Int) (w : World) (e : Ending) (w' : World) : Prop := e = .returned (.string (strB (decT z))) ∧ Below w.heap.size w w'
set_option maxRecDepth 100000 in
set_option maxHeartbeats 4000000 in
theorem text_any (z : Int) (v : Value) (w : World) (h : RepN w w.heap.size z v) (bz : Bits 60000 z) :
    Calls Tryz.prog 65 #[v] w (TextPost z w) := by
  obtain ⟨A, n, c, zs, rfl, hs, hn, hc, hA, hd, ht, hv, hl⟩ := h.parts (m := 5000) bz (by omega)
  have hzz := h.zero
  obtain ⟨b, hb⟩ : ∃ b, b = decide (z < 0) := ⟨_, rfl⟩
  rw [← hb]
  obtain ⟨W, hW⟩ : ∃ W, W = w.alloc (.cells #[.bool b, .slice A n c] 24) := ⟨_, rfl⟩
  have hal : Below w.heap.size w W := by rw [hW]; exact (Below.refl _ _).alloc (Nat.le_refl _) _
  have hk : Blk2 W w.heap.size 24 (.bool b) (.slice A n c) := by rw [hW]; exact Blk2.new _ _ _ _
  have HAL := Lib.hid hal
  have HS := Lib.hid (hs.below hal)
  have HD := Lib.hid hd
  have HT := Lib.hid ht
  have HV := Lib.hid hv
  have HB := Lib.hid hb
  have HW := Lib.hid hW
  have HLN := Lib.hid hs.len
  have HZ := Lib.hid hzz
  have g0 := hk.c0
  have g1 := hk.c1
  clear h bz hal hs hd ht hv hb hW hk hA hzz
  by_cases hn0 : n = 0
  · have hz : z = 0 := HZ.out.1 hn0
    subst hn0
    have HF := Lib.hid (show TextPost z w (.returned (.string ⟨#[48]⟩)) W from ⟨by rw [hz]; rfl, HAL.out⟩)
    clear hz
    go_enter Tryz.func65, Tryz.ntmps65
    go_upto_region 1 with (fail)
    rw [← HW.out]
    go_wp2_with fail
    go_ret
    exact HF.out
  · obtain ⟨p, rfl⟩ : ∃ p, n = p + 1 := ⟨n - 1, by omega⟩
    obtain ⟨ba, oa, rfl, _, hca⟩ := HS.out.at_ (by omega)
    have hpl : p < zs.length := by rw [HLN.out]; omega
    have hg := fun k => HD.out.get (show (0 : Int) < 10000 by omega) k
    have HG := Lib.hid hg
    have HCA := Lib.hid hca
    have c0 := hca p (by omega)
    obtain ⟨d, hd⟩ : ∃ d, d = zs[p]?.getD 0 := ⟨_, rfl⟩
    rw [← hd] at c0
    have hdb := hg p
    rw [← hd] at hdb
    have HDC := Lib.hid (decimal_any d W (by omega) (by omega))
    have hdrop : dv 10000 (zs.drop p) = d := by
      rw [List.drop_eq_getElem_cons hpl, List.drop_of_length_le (by rw [HLN.out]; omega), hd, List.getElem?_eq_getElem hpl]
      simp [dv]
    have hd0 := drop_pos HD.out HT.out p hpl
    have hdt : decT d = dec10 (dv 10000 (zs.drop p)) := by
      rw [hdrop] at hd0 ⊢
      unfold decT
      rw [if_neg (by omega), if_neg (by omega)]
    rw [hdt] at HDC
    have hl2 := dec10_len4 HD.out p
    rw [HLN.out] at hl2
    have hs0 : (strB (dec10 (dv 10000 (zs.drop p)))).size ≤ 20000 := by rw [strB_size]; omega
    have hne : ((p : Int) + 1 == 0) = false := by simp; omega
    have hp1 : (p : Int) + 1 - 1 = (p : Int) := by omega
    clear hd hdb hdrop hd0 hdt hl2 hg hca hn0 hpl
    go_enter Tryz.func65, Tryz.ntmps65
    go_upto_region 1 with (fail)
    rw [← HW.out]
    go_wp2_with fail
    refine HDC.out.mono ?_
    rintro e w1 ⟨rfl, rfl⟩
    clear c0 hs0
    go_wp2_with fail
    go_loop [3, 4] (fun ov iv => ∃ k : Nat, k ≤ p ∧ iv = .int .i64 ((k : Int) - 1) ∧ ov = .string (strB (dec10 (dv 10000 (zs.drop k))))) (fun _ iv => (intOf iv + 1).toNat)
    case atStart => exact ⟨p, Nat.le_refl _, by congr 1; omega, rfl⟩
    case round =>
      obtain ⟨k, hk, rfl, rfl⟩ := hrel
      have hl2 := dec10_len4 HD.out k
      rw [HLN.out] at hl2
      have hs0 : (strB (dec10 (dv 10000 (zs.drop k)))).size ≤ 20000 := by rw [strB_size]; omega
      clear hl2
      rcases Nat.eq_zero_or_pos k with rfl | hk0
      · have hv0 : dv 10000 (zs.drop 0) = (z.natAbs : Int) := by rw [List.drop_zero]; exact HV.out
        have hz0 : z ≠ 0 := fun e => by have := HZ.out.2 e; omega
        obtain ⟨s, hs⟩ : ∃ s, s = strB (dec10 (dv 10000 (zs.drop 0))) := ⟨_, rfl⟩
        rw [← hs] at hs0 ⊢
        cases b
        · have hb : ¬ z < 0 := by have h := HB.out; exact of_decide_eq_false h.symm
          have HF := Lib.hid (show TextPost z w (.returned (.string s)) W from ⟨by rw [hs, hv0]; unfold decT; rw [if_neg hz0, if_neg hb, show ((z.natAbs : Nat) : Int) = z by omega], HAL.out⟩)
          clear hv0 hz0 hs hb
          go_wp2_with fail
          go_ret
          exact HF.out
        · have hb : z < 0 := by have h := HB.out; exact of_decide_eq_true (p := z < 0) h.symm
          have HF := Lib.hid (show TextPost z w (.returned (.string (⟨#[45]⟩ ++ s))) W from ⟨by rw [hs, hv0]; unfold decT; rw [if_neg hz0, if_pos hb, show ((z.natAbs : Nat) : Int) = -z by omega, show (⟨#[45]⟩ : ByteArray) = strB [45] from rfl, strB_app]; rfl, HAL.out⟩)
          clear hv0 hz0 hs hb
          go_wp2_with fail
          go_ret
          exact HF.out
      · obtain ⟨j, rfl⟩ : ∃ j, k = j + 1 := ⟨k - 1, by omega⟩
        rw [show (((j + 1 : Nat) : Int) - 1) = (j : Int) by omega]
        have cj := HCA.out j (by omega)
        have hdb := HG.out j
        have hjl : j < zs.length := by rw [HLN.out]; omega
        have hjl2 : j + 1 < zs.length := by rw [HLN.out]; omega
        obtain ⟨d, hd⟩ : ∃ d, d = zs[j]?.getD 0 := ⟨_, rfl⟩
        rw [← hd] at cj hdb
        have HDC := Lib.hid (decimal_any d W (by omega) (by omega))
        have hst : dec10 (dv 10000 (zs.drop j)) = dec10 (dv 10000 (zs.drop (j + 1))) ++ pad4 d := by
          have e : zs.drop j = d :: zs.drop (j + 1) := by rw [List.drop_eq_getElem_cons hjl, hd, List.getElem?_eq_getElem hjl]; rfl
          rw [e, dv, Int.add_comm]
          exact dec_step4 (drop_pos HD.out HT.out (j + 1) hjl2) hdb
        have hpd := pad4_of hdb
        have HST := Lib.hid hst
        have HPD := Lib.hid hpd
        obtain ⟨X, hX⟩ : ∃ X, X = strB (dec10 (dv 10000 (zs.drop (j + 1)))) := ⟨_, rfl⟩
        rw [← hX] at hs0 ⊢
        have HX := Lib.hid hX
        clear hd hdb hst hpd hX hjl hjl2
        go_wp2_with fail
        refine HDC.out.mono ?_
        rintro e w1 ⟨rfl, rfl⟩
        clear cj
        go_wp2_with fail
        go_loop [5] (fun sv => ∃ q : Nat, q + (decT d).length ≤ 4 ∧ sv = .string (strB (List.replicate q 48 ++ decT d))) (fun sv => 4 - strLen sv)
        case atStart => exact ⟨0, by have := HPD.out.1; omega, rfl⟩
        case round =>
          obtain ⟨q, hq, rfl⟩ := hrel
          have hsz : (strB (List.replicate q 48 ++ decT d)).size = q + (decT d).length := by rw [strB_size]; simp
          obtain ⟨L, hL⟩ : ∃ L, L = (decT d).length := ⟨_, rfl⟩
          rw [← hL] at hsz hq
          obtain ⟨s, hs⟩ : ∃ s, s = strB (List.replicate q 48 ++ decT d) := ⟨_, rfl⟩
          rw [← hs] at hsz ⊢
          have hsz2 : s.size ≤ 4 := by omega
          have hsz3 : (s.size : Int) = ((q + L : Nat) : Int) := by omega
          have HL := Lib.hid hL
          have HSS := Lib.hid hs
          have HSZ := Lib.hid hsz
          clear hL hs hsz hsz3
          by_cases h4 : s.size < 4
          · go_wp2_with fail
            have e1 : (⟨#[48]⟩ : ByteArray) ++ s = strB (List.replicate (q + 1) 48 ++ decT d) := by
              rw [HSS.out, show (⟨#[48]⟩ : ByteArray) = strB [48] from rfl, strB_app, List.replicate_succ]
              rfl
            exact ⟨⟨q + 1, by have := HL.out; have := HSZ.out; omega, congrArg Value.string e1⟩, by
              show 4 - ((⟨#[48]⟩ : ByteArray) ++ s).size < 4 - s.size
              rw [ByteArray.size_append, show (⟨#[48]⟩ : ByteArray).size = 1 from rfl]
              omega⟩
          · have hs4 : s.size = 4 := by omega
            have HFF := Lib.hid (show X ++ s = strB (dec10 (dv 10000 (zs.drop j))) by
              have e : 4 - (decT d).length = q := by have := HSZ.out; have := HL.out; omega
              have h2 := HPD.out.2
              rw [e] at h2
              rw [HX.out, HSS.out, strB_app, HST.out, ← h2])
            clear hs4
            go_wp2_with fail
            exact ⟨⟨j, by omega, rfl, congrArg Value.string HFF.out⟩, by simp [intOf]⟩
end Go.Proofs.YtocooajlfpngdaaGreatDoor
