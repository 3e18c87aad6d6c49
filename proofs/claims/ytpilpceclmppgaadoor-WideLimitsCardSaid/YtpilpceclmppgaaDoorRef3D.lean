/- Contracts of the reference of wide: compared. -/
import Derived.Test.YtpilpceclmppgaaDoorRef3C
namespace Go.Proofs.YtpilpceclmppgaaDoor
open Go.RowKit
set_option linter.unusedVariables false

def cmpI (x y : Int) : Int := if x < y then -1 else if y < x then 1 else 0
set_option maxRecDepth 100000 in
set_option maxHeartbeats 1000000 in
theorem compared_any (A E : Option Addr) (n c m f : Nat) (zs ys : List Int) (w : World) (h : Sl .i64 w w.heap.size A n zs) (k : Sl .i64 w w.heap.size E m ys) (hn : n ≤ 100000) (hm : m ≤ 100000) (hz : Dig 10000 zs) (hy : Dig 10000 ys) (tz : Top zs) (ty : Top ys) :
    Calls Tryd.prog 61 #[.slice A n c, .slice E m f] w fun e w' => e = .returned (.int .i64 (cmpI (dv 10000 zs) (dv 10000 ys))) ∧ ∃ q, w' = w.drewN q := by
  have HLN := Lib.hid h.len
  have HLM := Lib.hid k.len
  have HS := Lib.hid h
  have HK := Lib.hid k
  have HZ := Lib.hid hz
  have HY := Lib.hid hy
  have L1 := Lib.hid (fun (hlt : n < m) => len_lt (show (1 : Int) < 10000 by omega) hz hy ty (by rw [h.len, k.len]; exact hlt))
  have L2 := Lib.hid (fun (hlt : m < n) => len_lt (show (1 : Int) < 10000 by omega) hy hz tz (by rw [h.len, k.len]; exact hlt))
  obtain ⟨R, hR⟩ : ∃ R, R = cmpI (dv 10000 zs) (dv 10000 ys) := ⟨_, rfl⟩
  rw [← hR]
  have HR := Lib.hid hR
  clear h k hz hy tz ty hR
  rcases Nat.lt_trichotomy n m with hlt | rfl | hgt
  · obtain rfl : R = -1 := by rw [HR.out, cmpI, if_pos (L1.out hlt)]
    go_enter Tryd.func61, Tryd.ntmps61
    go_wp2
    go_ret
    exact ⟨rfl, 0, rfl⟩
  · go_enter Tryd.func61, Tryd.ntmps61
    go_wp2
    go_loopw [5] (fun i wr => ∃ k q : Nat, k ≤ n ∧ i = .int .i64 ((k : Int) - 1) ∧ Hid (zs.drop k = ys.drop k) ∧ wr = w.drewN q) (fun i _ => (intOf i + 1).toNat)
    case atStart => exact ⟨n, 0, Nat.le_refl _, rfl, by show zs.drop n = ys.drop n; rw [List.drop_of_length_le (by rw [HLN.out]; omega), List.drop_of_length_le (by rw [HLM.out]; omega)], rfl⟩
    case round =>
      obtain ⟨k, q, hk, rfl, HD, rfl⟩ := hrel
      rcases Nat.eq_zero_or_pos k with rfl | hk0
      · obtain rfl : R = 0 := by
          have e : zs = ys := HD
          rw [HR.out, e, cmpI, if_neg (by omega), if_neg (by omega)]
        go_wp2
        go_ret
        exact ⟨rfl, _, rfl⟩
      · obtain ⟨j, rfl⟩ : ∃ j, k = j + 1 := ⟨k - 1, by omega⟩
        rw [show (((j + 1 : Nat) : Int) - 1) = (j : Int) by omega]
        obtain ⟨b1, o1, rfl, _, hc1⟩ := HS.out.at_ (by omega)
        obtain ⟨b2, o2, rfl, _, hc2⟩ := HK.out.at_ (by omega)
        have c1 := hc1 j (by omega)
        have c2 := hc2 j (by omega)
        have hj1 : j < zs.length := by rw [HLN.out]; omega
        have hj2 : j < ys.length := by rw [HLM.out]; omega
        have hx : zs[j]?.getD 0 = zs[j] := by rw [List.getElem?_eq_getElem hj1]; rfl
        have hy : ys[j]?.getD 0 = ys[j] := by rw [List.getElem?_eq_getElem hj2]; rfl
        have D1 := Lib.hid (fun (hd : zs[j]?.getD 0 < ys[j]?.getD 0) => diff_lt (show (1 : Int) < 10000 by omega) HZ.out HY.out j hj1 hj2 HD (by rw [← hx, ← hy]; exact hd))
        have D2 := Lib.hid (fun (hd : ys[j]?.getD 0 < zs[j]?.getD 0) => diff_lt (show (1 : Int) < 10000 by omega) HY.out HZ.out j hj2 hj1 (show ys.drop (j + 1) = zs.drop (j + 1) from Eq.symm HD) (by rw [← hx, ← hy]; exact hd))
        have D3 := Lib.hid (fun (hd : zs[j]?.getD 0 = ys[j]?.getD 0) => show zs.drop j = ys.drop j by
          rw [List.drop_eq_getElem_cons hj1, List.drop_eq_getElem_cons hj2, ← hx, ← hy, hd, show zs.drop (j + 1) = ys.drop (j + 1) from HD])
        obtain ⟨x, hxe⟩ : ∃ x, x = zs[j]?.getD 0 := ⟨_, rfl⟩
        obtain ⟨y, hye⟩ : ∃ y, y = ys[j]?.getD 0 := ⟨_, rfl⟩
        rw [← hxe] at c1 D1 D2 D3
        rw [← hye] at c2 D1 D2 D3
        clear hc1 hc2 hx hy hxe hye
        rcases Int.lt_trichotomy x y with hxy | hxy | hxy
        · obtain rfl : R = -1 := by rw [HR.out, cmpI, if_pos (D1.out hxy)]
          clear hj1 hj2
          go_wp2
          go_quiet (fail)
          go_wp2
          go_ret
          exact ⟨rfl, _, World.drewN_drewN _ _ _⟩
        · have HQ := Lib.hid (D3.out hxy)
          subst hxy
          clear hj1 hj2
          go_wp2
          go_quiet (fail)
          go_wp2
          go_quiet (fail)
          go_wp2
          go_roundw
          case rel => exact ⟨j, _, by omega, by go_num, HQ.out, rfl⟩
          case measure => simp [intOf]
        · obtain rfl : R = 1 := by rw [HR.out, cmpI, if_neg (by have := D2.out hxy; omega), if_pos (D2.out hxy)]
          have hnl : ¬ x < y := by omega
          clear hj1 hj2
          go_wp2
          go_quiet (fail)
          go_wp2
          go_quiet (fail)
          go_wp2
          go_ret
          exact ⟨rfl, _, (by rw [World.drewN_drewN, World.drewN_drewN])⟩
  · obtain rfl : R = 1 := by rw [HR.out, cmpI, if_neg (by have := L2.out hgt; omega), if_pos (L2.out hgt)]
    have hnl : ¬ n < m := by omega
    go_enter Tryd.func61, Tryd.ntmps61
    go_wp2
    go_ret
    exact ⟨rfl, 0, rfl⟩
end Go.Proofs.YtpilpceclmppgaaDoor
