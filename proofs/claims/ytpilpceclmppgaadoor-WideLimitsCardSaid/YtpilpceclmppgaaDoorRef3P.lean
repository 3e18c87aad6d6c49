/- Contracts of the reference: Text. -/
import Derived.Test.YtpilpceclmppgaaDoorRef3O
namespace Go.Proofs.YtpilpceclmppgaaDoor
open Go.RowKit
set_option linter.unusedVariables false

def strLen : Value → Nat
  | .string b => b.size
  | _ => 0
theorem strB_app (a b : List UInt8) : strB a ++ strB b = strB (a ++ b) := by
  unfold strB
  apply ByteArray.ext
  simp
theorem strB_size (l : List UInt8) : (strB l).size = l.length := rfl
theorem drop_pos {zs : List Int} (hd : Dig 10000 zs) (ht : Top zs) (k : Nat) (hk : k < zs.length) : 0 < dv 10000 (zs.drop k) := by
  have ht2 : Top (zs.drop k) := by
    unfold Top at *
    rw [List.getLast?_drop, if_neg (by omega)]
    exact ht
  have h := top_ge (show (1 : Int) < 10000 by omega) (hd.drop k) ht2 (fun e => by have := congrArg List.length e; rw [List.length_drop] at this; simp at this; omega)
  have := pow_pos' (show (0 : Int) < 10000 by omega) ((zs.drop k).length - 1)
  omega
theorem dec10_len4 {zs : List Int} (hd : Dig 10000 zs) (k : Nat) : (dec10 (dv 10000 (zs.drop k))).length ≤ 4 * zs.length := by
  rw [dec_len]
  refine digs_len (by omega) (dv_nonneg (by omega) (hd.drop k)) ?_
  have h1 := dv_lt (show (0 : Int) < 10000 by omega) (hd.drop k)
  have h2 := pow_mono' (show (0 : Int) < 10000 by omega) (show (zs.drop k).length ≤ zs.length by rw [List.length_drop]; omega)
  have h3 : (10 : Int) ^ (4 * zs.length) = 10000 ^ zs.length := by rw [Int.pow_mul]; rfl
  omega
def TextPost (z : Int) (w : World) (e : Ending) (w' : World) : Prop := e = .returned (.string (strB (decT z))) ∧ Below w.heap.size w w'
set_option maxRecDepth 100000 in
set_option maxHeartbeats 4000000 in
theorem text_any (z : Int) (v : Value) (w : World) (h : RepN w w.heap.size z v) (bz : Bits 60000 z) :
    Calls Tryd.prog 12 #[v] w (TextPost z w) := by
  obtain ⟨A, n, c, zs, rfl, hs, hn, hc, hA, hd, ht, hv, hl⟩ := h.parts (m := 5000) bz (by omega)
  have hzz := h.zero
  obtain ⟨b, hb⟩ : ∃ b, b = decide (z < 0) := ⟨_, rfl⟩
  rw [← hb]
  obtain ⟨W, hW⟩ : ∃ W, W = w.alloc (.cells #[.bool b, .slice A n c] 25) := ⟨_, rfl⟩
  have hal : Below w.heap.size w W := by rw [hW]; exact (Below.refl _ _).alloc (Nat.le_refl _) _
  have hk : Blk2 W w.heap.size 25 (.bool b) (.slice A n c) := by rw [hW]; exact Blk2.new _ _ _ _
  have HAL := Lib.hid hal
  have HS := Lib.hid (hs.below hal)
  have HD := Lib.hid hd
  have HT := Lib.hid ht
  have HV := Lib.hid hv
  have HB := Lib.hid hb
  have HW := Lib.hid hW
  have HLN := Lib.hid hs.len
  have HZ := Lib.hid hzz
  have g0 := hk.c0
  have g1 := hk.c1
  clear h bz hal hs hd ht hv hb hW hk hA hzz
  by_cases hn0 : n = 0
  · have hz : z = 0 := HZ.out.1 hn0
    subst hn0
    have HF := Lib.hid (show TextPost z w (.returned (.string ⟨#[48]⟩)) W from ⟨by rw [hz]; rfl, HAL.out⟩)
    clear hz
    go_enter Tryd.func12, Tryd.ntmps12
    go_upto_region 1 with (fail)
    rw [← HW.out]
    go_wp2_with fail
    go_ret
    exact HF.out
  · obtain ⟨p, rfl⟩ : ∃ p, n = p + 1 := ⟨n - 1, by omega⟩
    obtain ⟨ba, oa, rfl, _, hca⟩ := HS.out.at_ (by omega)
    have hpl : p < zs.length := by rw [HLN.out]; omega
    have hg := fun k => HD.out.get (show (0 : Int) < 10000 by omega) k
    have HG := Lib.hid hg
    have HCA := Lib.hid hca
    have c0 := hca p (by omega)
    obtain ⟨d, hd⟩ : ∃ d, d = zs[p]?.getD 0 := ⟨_, rfl⟩
    rw [← hd] at c0
    have hdb := hg p
    rw [← hd] at hdb
    have HDC := Lib.hid (decimal_any d W (by omega) (by omega))
    have hdrop : dv 10000 (zs.drop p) = d := by
      rw [List.drop_eq_getElem_cons hpl, List.drop_of_length_le (by rw [HLN.out]; omega), hd, List.getElem?_eq_getElem hpl]
      simp [dv]
    have hd0 := drop_pos HD.out HT.out p hpl
    have hdt : decT d = dec10 (dv 10000 (zs.drop p)) := by
      rw [hdrop] at hd0 ⊢
      unfold decT
      rw [if_neg (by omega), if_neg (by omega)]
    rw [hdt] at HDC
    have hl2 := dec10_len4 HD.out p
    rw [HLN.out] at hl2
    have hs0 : (strB (dec10 (dv 10000 (zs.drop p)))).size ≤ 20000 := by rw [strB_size]; omega
    have hne : ((p : Int) + 1 == 0) = false := by simp; omega
    have hp1 : (p : Int) + 1 - 1 = (p : Int) := by omega
    clear hd hdb hdrop hd0 hdt hl2 hg hca hn0 hpl
    go_enter Tryd.func12, Tryd.ntmps12
    go_upto_region 1 with (fail)
    rw [← HW.out]
    go_wp2_with fail
    refine HDC.out.mono ?_
    rintro e w1 ⟨rfl, rfl⟩
    clear c0 hs0
    go_wp2_with fail
    go_loop [3, 4] (fun ov iv => ∃ k : Nat, k ≤ p ∧ iv = .int .i64 ((k : Int) - 1) ∧ ov = .string (strB (dec10 (dv 10000 (zs.drop k))))) (fun _ iv => (intOf iv + 1).toNat)
    case atStart => exact ⟨p, Nat.le_refl _, by congr 1; omega, rfl⟩
    case round =>
      obtain ⟨k, hk, rfl, rfl⟩ := hrel
      have hl2 := dec10_len4 HD.out k
      rw [HLN.out] at hl2
      have hs0 : (strB (dec10 (dv 10000 (zs.drop k)))).size ≤ 20000 := by rw [strB_size]; omega
      clear hl2
      rcases Nat.eq_zero_or_pos k with rfl | hk0
      · have hv0 : dv 10000 (zs.drop 0) = (z.natAbs : Int) := by rw [List.drop_zero]; exact HV.out
        have hz0 : z ≠ 0 := fun e => by have := HZ.out.2 e; omega
        obtain ⟨s, hs⟩ : ∃ s, s = strB (dec10 (dv 10000 (zs.drop 0))) := ⟨_, rfl⟩
        rw [← hs] at hs0 ⊢
        cases b
        · have hb : ¬ z < 0 := by have h := HB.out; exact of_decide_eq_false h.symm
          have HF := Lib.hid (show TextPost z w (.returned (.string s)) W from ⟨by rw [hs, hv0]; unfold decT; rw [if_neg hz0, if_neg hb, show ((z.natAbs : Nat) : Int) = z by omega], HAL.out⟩)
          clear hv0 hz0 hs hb
          go_wp2_with fail
          go_ret
          exact HF.out
        · have hb : z < 0 := by have h := HB.out; exact of_decide_eq_true (p := z < 0) h.symm
          have HF := Lib.hid (show TextPost z w (.returned (.string (⟨#[45]⟩ ++ s))) W from ⟨by rw [hs, hv0]; unfold decT; rw [if_neg hz0, if_pos hb, show ((z.natAbs : Nat) : Int) = -z by omega, show (⟨#[45]⟩ : ByteArray) = strB [45] from rfl, strB_app]; rfl, HAL.out⟩)
          clear hv0 hz0 hs hb
          go_wp2_with fail
          go_ret
          exact HF.out
      · obtain ⟨j, rfl⟩ : ∃ j, k = j + 1 := ⟨k - 1, by omega⟩
        rw [show (((j + 1 : Nat) : Int) - 1) = (j : Int) by omega]
        have cj := HCA.out j (by omega)
        have hdb := HG.out j
        have hjl : j < zs.length := by rw [HLN.out]; omega
        have hjl2 : j + 1 < zs.length := by rw [HLN.out]; omega
        obtain ⟨d, hd⟩ : ∃ d, d = zs[j]?.getD 0 := ⟨_, rfl⟩
        rw [← hd] at cj hdb
        have HDC := Lib.hid (decimal_any d W (by omega) (by omega))
        have hst : dec10 (dv 10000 (zs.drop j)) = dec10 (dv 10000 (zs.drop (j + 1))) ++ pad4 d := by
          have e : zs.drop j = d :: zs.drop (j + 1) := by rw [List.drop_eq_getElem_cons hjl, hd, List.getElem?_eq_getElem hjl]; rfl
          rw [e, dv, Int.add_comm]
          exact dec_step4 (drop_pos HD.out HT.out (j + 1) hjl2) hdb
        have hpd := pad4_of hdb
        have HST := Lib.hid hst
        have HPD := Lib.hid hpd
        obtain ⟨X, hX⟩ : ∃ X, X = strB (dec10 (dv 10000 (zs.drop (j + 1)))) := ⟨_, rfl⟩
        rw [← hX] at hs0 ⊢
        have HX := Lib.hid hX
        clear hd hdb hst hpd hX hjl hjl2
        go_wp2_with fail
        refine HDC.out.mono ?_
        rintro e w1 ⟨rfl, rfl⟩
        clear cj
        go_wp2_with fail
        go_loop [5] (fun sv => ∃ q : Nat, q + (decT d).length ≤ 4 ∧ sv = .string (strB (List.replicate q 48 ++ decT d))) (fun sv => 4 - strLen sv)
        case atStart => exact ⟨0, by have := HPD.out.1; omega, rfl⟩
        case round =>
          obtain ⟨q, hq, rfl⟩ := hrel
          have hsz : (strB (List.replicate q 48 ++ decT d)).size = q + (decT d).length := by rw [strB_size]; simp
          obtain ⟨L, hL⟩ : ∃ L, L = (decT d).length := ⟨_, rfl⟩
          rw [← hL] at hsz hq
          obtain ⟨s, hs⟩ : ∃ s, s = strB (List.replicate q 48 ++ decT d) := ⟨_, rfl⟩
          rw [← hs] at hsz ⊢
          have hsz2 : s.size ≤ 4 := by omega
          have hsz3 : (s.size : Int) = ((q + L : Nat) : Int) := by omega
          have HL := Lib.hid hL
          have HSS := Lib.hid hs
          have HSZ := Lib.hid hsz
          clear hL hs hsz hsz3
          by_cases h4 : s.size < 4
          · go_wp2_with fail
            have e1 : (⟨#[48]⟩ : ByteArray) ++ s = strB (List.replicate (q + 1) 48 ++ decT d) := by
              rw [HSS.out, show (⟨#[48]⟩ : ByteArray) = strB [48] from rfl, strB_app, List.replicate_succ]
              rfl
            exact ⟨⟨q + 1, by have := HL.out; have := HSZ.out; omega, congrArg Value.string e1⟩, by
              show 4 - ((⟨#[48]⟩ : ByteArray) ++ s).size < 4 - s.size
              rw [ByteArray.size_append, show (⟨#[48]⟩ : ByteArray).size = 1 from rfl]
              omega⟩
          · have hs4 : s.size = 4 := by omega
            have HFF := Lib.hid (show X ++ s = strB (dec10 (dv 10000 (zs.drop j))) by
              have e : 4 - (decT d).length = q := by have := HSZ.out; have := HL.out; omega
              have h2 := HPD.out.2
              rw [e] at h2
              rw [HX.out, HSS.out, strB_app, HST.out, ← h2])
            clear hs4
            go_wp2_with fail
            exact ⟨⟨j, by omega, rfl, congrArg Value.string HFF.out⟩, by simp [intOf]⟩
end Go.Proofs.YtpilpceclmppgaaDoor
