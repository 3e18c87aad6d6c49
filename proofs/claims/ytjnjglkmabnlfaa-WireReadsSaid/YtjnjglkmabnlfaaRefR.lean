/- The reference's reader: Uint, Back, Int, Bool, length, End. -/
import Derived.Test.YtjnjglkmabnlfaaWireLX
namespace Go.Proofs.Ytjnjglkmabnlfaa
open Go.RowKit
set_option linter.unusedVariables false

/-- a reader of the reference -/
def RdR (w : World) (p B : Nat) (s : RS) : Prop := Rd 47 w p B s
theorem RdR.cells {w : World} {p B : Nat} {s : RS} (h : RdR w p B s) : ∃ A n c, w.cell? ⟨p, 0, none⟩ = some (.slice A n c) ∧ w.cell? ⟨p, 1, none⟩ = some (.int .i64 s.er) ∧ w.frozen? ⟨p, 0, none⟩ = false ∧ w.frozen? ⟨p, 1, none⟩ = false ∧ n ≤ c ∧ c ≤ maxLen ∧ (s.er = 0 → n = s.bs.length) ∧ (A = none → c = 0) ∧ (s.er = 0 → Sl .u8 w B A n s.bs) := by
  obtain ⟨A, n, c, h1, h2, h3, h4, h5, h6⟩ := h
  exact ⟨A, n, c, h1.c0, h1.c1, h1.f0, h1.f1, h2, h3, fun h0 => (h5 h0).len.symm, h4, h5⟩
theorem RdR.fail {w : World} {p B : Nat} {s : RS} (h : RdR w p B s) (e : Int) (he : e = 2 ∨ e = 3) : RdR (w.setCell ⟨p, 1, none⟩ (.int .i64 e)) p B (bad e) := by
  obtain ⟨A, n, c, h1, h2, h3, h4, h5, h6, h7⟩ := h
  exact ⟨A, n, c, h1.set1 _, h2, h3, h4, (fun h => by simp only [bad] at h; omega), bad_ok e he, Nat.le_trans h7 (grown_set _ _ _ _).size⟩
/-- the bytes are cut -/
theorem RdR.cut {w : World} {p B n c k : Nat} {A A' : Option Addr} {bs : List Int} (h : RdR w p B ⟨bs, 0⟩) (hc : w.cell? ⟨p, 0, none⟩ = some (.slice A n c)) (hk : k ≤ n) (hA : k < c → A' = A.map (·.add k)) (hA0 : A' = none → c - k = 0) :
    RdR (w.setCell ⟨p, 0, none⟩ (.slice A' (n - k) (c - k))) p B ⟨bs.drop k, 0⟩ := by
  obtain ⟨A1, n1, c1, h1, h2, h3, h4, h5, h6, h7⟩ := h
  rw [h1.c0] at hc
  simp only [Option.some.injEq, Value.slice.injEq] at hc
  obtain ⟨rfl, rfl, rfl⟩ := hc
  have hs := h5 rfl
  have hl := hs.len
  simp only at hl
  refine ⟨A', n1 - k, c1 - k, h1.set0 _, by omega, by unfold maxLen at *; omega, hA0, fun _ => ?_, ⟨fun b hb => h6.1 b (List.mem_of_mem_drop hb), fun h => absurd rfl h, .inl rfl⟩, Nat.le_trans h7 (grown_set _ _ _ _).size⟩
  have hs' : Sl .u8 w B A' (n1 - k) (bs.drop k) := by
    refine ⟨by simp [hl], ?_⟩
    rcases Nat.eq_zero_or_pos (n1 - k) with h0 | h0
    · exact .inl h0
    · obtain ⟨b, off, rfl, hb, hcl⟩ := hs.at_ (by omega)
      rw [hA (by omega)]
      refine .inr ⟨b, off + k, by simp [add_lit], hb, fun j hj => ?_⟩
      rw [show off + k + j = off + (k + j) by omega, hcl (k + j) (by omega), List.getElem?_drop]
  exact hs'.two h7 h1 (grown_set _ _ _ _)

/-! ### Uint -/
/-- the rest of a varint, i bytes behind -/
theorem decA_step (v : Int) (i : Nat) (b : Int) (t : List Int) : decA v i (b :: t) = if (0 < i ∧ b = 0) ∨ (i = 9 ∧ 1 < b) then .err 2 else if b < 128 then .got (v + b * 128 ^ i) t else decA (v + (b - 128) * 128 ^ i) (i + 1) t := rfl
theorem wrap_fit (x : Int) (h0 : 0 ≤ x) (h1 : x ≤ 18446744073709551615) : IntKind.u64.wrap x = x := by rw [IntKind.wrap_u64]; omega
theorem acc_fit (v z : Int) (k : Nat) (hk : k ≤ 8) (hv0 : 0 ≤ v) (hv1 : v < 128 ^ k) (hz0 : 0 ≤ z) (hz1 : z ≤ 127) : IntKind.u64.wrap (v + IntKind.u64.wrap (z * 128 ^ k)) = v + z * 128 ^ k := by
  have hP := pow128 k (by omega)
  have h1 := mul_bd z (128 ^ k) hz0 hz1 hP.1
  have h2 := (pow128 (k + 1) (by omega)).2
  rw [pow128_succ] at h2
  rw [wrap_fit (z * 128 ^ k) (by omega) (by omega), wrap_fit _ (by omega) (by omega)]
theorem pow128_9 : (128 : Int) ^ 9 = 9223372036854775808 := by decide
theorem acc_fit9 (v z : Int) (hv0 : 0 ≤ v) (hv1 : v < 128 ^ 9) (hz0 : 0 ≤ z) (hz1 : z ≤ 1) : IntKind.u64.wrap (v + z * 9223372036854775808) = v + z * 128 ^ 9 := by
  rw [pow128_9] at *
  rw [wrap_fit _ (by omega) (by omega)]
theorem unit_fit (k : Nat) (hk : k ≤ 8) : IntKind.u64.wrap (128 ^ k * 128) = 128 ^ (k + 1) := by
  have hP := pow128 k (by omega)
  have h2 := (pow128 (k + 1) (by omega)).2
  rw [pow128_succ] at h2 ⊢
  rw [Int.mul_comm, wrap_fit _ (by omega) (by omega)]
theorem drop_cons' {bs : List Int} {k : Nat} (h : k < bs.length) : bs.drop k = bs[k] :: bs.drop (k + 1) := List.drop_eq_getElem_cons h

theorem rr_bad (p B : Nat) (s : RS) (w : World) (h : RdR w p B s) (he : s.er ≠ 0) :
    Calls Try.prog 49 #[.pointer (some ⟨p, 0, none⟩)] w fun e w' => e = .returned (.int .u64 0) ∧ w = w' := by
  obtain ⟨A, n, c, c0, c1, f0, f1, hnc, hcm, _, _, _⟩ := h.cells
  have hne : (s.er == 0) = false := by simpa using he
  clear he
  go_enter Try.func49, Try.ntmps49
  go_wp2_with fail
  go_loopw [3, 4, 5] (fun a b i wr => a = .int .u64 0 ∧ b = .int .u64 1 ∧ i = .int .i64 0 ∧ wr = w) (fun _ _ _ _ => 0)
  case atStart => exact ⟨rfl, rfl, rfl, rfl⟩
  case round =>
    obtain ⟨rfl, rfl, rfl, rfl⟩ := hrel
    go_wp2
    go_ret
    exact ⟨rfl, rfl⟩

set_option maxHeartbeats 4000000 in
theorem rr_uint (p B : Nat) (s : RS) (w : World) (h : RdR w p B s) (hl : s.bs.length ≤ 1000000) :
    Calls Try.prog 49 #[.pointer (some ⟨p, 0, none⟩)] w fun e w' => e = .returned (.int .u64 (rdU s).1) ∧ RdR w' p B (rdU s).2 ∧ w.grownBy w' (some p) := by
  by_cases he : s.er = 0
  · obtain ⟨bs, er⟩ := s
    simp only at he hl
    subst he
    obtain ⟨A, n, c, c0, c1, f0, f1, hnc, hcm, hnl, hA, hsl⟩ := h.cells
    have hnl' := hnl rfl
    have hsl' := hsl rfl
    simp only at hnl' hsl' c1
    have HB := Lib.hid h.ok.1
    have HR := Lib.hid h
    have HS := Lib.hid hsl'
    have HNL := Lib.hid hnl'
    have hn6 : n ≤ 1000000 := by omega
    unfold maxLen at hcm
    clear h hnl hsl hnl' hsl' hl
    go_enter Try.func49, Try.ntmps49
    go_wp2_with fail
    go_loopw [3, 4, 5] (fun a b i wr => ∃ (k : Nat) (v : Int), k ≤ 9 ∧ k ≤ n ∧ a = .int .u64 v ∧ b = .int .u64 (128 ^ k) ∧ i = .int .i64 k ∧ 0 ≤ v ∧ Hid (v < 128 ^ k) ∧ Hid (decA v k (bs.drop k) = decA 0 0 bs) ∧ wr = w) (fun _ _ i _ => 10 - (intOf i).toNat)
    case atStart => exact ⟨0, 0, by omega, Nat.zero_le _, rfl, rfl, rfl, by omega, by show (0 : Int) < 128 ^ 0; decide, rfl, rfl⟩
    case round =>
      obtain ⟨k, v, hk9, hkn, rfl, rfl, rfl, hv0, HV, HD, rfl⟩ := hrel
      by_cases hlt : k < n
      · have hkb : k < bs.length := by rw [← HNL.out]; exact hlt
        have hdc := drop_cons' hkb
        obtain ⟨bl, off, rfl, hb, hcl⟩ := HS.out.at_ (by omega)
        have hcell := hcl k hlt
        obtain ⟨y, hy⟩ : ∃ y, y = bs[k] := ⟨_, rfl⟩
        have hy2 : bs[k]?.getD 0 = y := by rw [List.getElem?_eq_getElem hkb, hy]; rfl
        rw [hy2] at hcell
        have hyb : byteI y := by rw [hy]; exact HB.out _ (List.getElem_mem hkb)
        rw [← hy] at hdc
        have hst := HD.out
        rw [hdc, decA_step] at hst
        obtain ⟨hy0, hy1⟩ := hyb
        have HST := Lib.hid hst
        have hPk := pow128 k hk9
        clear hcl hy hy2 hdc hst
        by_cases hbad : (0 < k ∧ y = 0) ∨ (k = 9 ∧ 1 < y)
        · have HE := Lib.hid (show rdU ⟨bs, 0⟩ = (0, bad 2) from rdU_nil _ rfl 2 (by have := HST.out; rw [if_pos hbad] at this; exact this.symm))
          rcases hbad with ⟨hk0, hy⟩ | ⟨hk9', hy⟩
          · subst hy
            go_wp2_with fail
            all_goals
              go_ret
              rw [HE.out]
              exact ⟨rfl, HR.out.fail 2 (.inl rfl), grown_set _ _ _ _⟩
          · subst hk9'
            have hyn : (y == 0) = false := by simp; omega
            go_wp2_with fail
            all_goals
              go_ret
              rw [HE.out]
              exact ⟨rfl, HR.out.fail 2 (.inl rfl), grown_set _ _ _ _⟩
        · have hbn : 0 < k → (y == 0) = false := fun h => by simp; intro e; exact hbad (.inl ⟨h, e⟩)
          have h9 : k = 9 → y ≤ 1 := fun h => by
            rcases Int.lt_or_le 1 y with h' | h'
            · exact absurd (.inr ⟨h, h'⟩) hbad
            · exact h'
          by_cases hy128 : y < 128
          · have hst := HST.out
            rw [if_neg hbad, if_pos hy128] at hst
            have HE := Lib.hid (show rdU ⟨bs, 0⟩ = (v + y * 128 ^ k, ⟨bs.drop (k + 1), 0⟩) from rdU_got _ rfl _ _ hst.symm)
            clear hbad hst
            have hmod : y % 128 = y := by omega
            by_cases hkk : k = 9
            · subst hkk
              have h91 := h9 rfl
              have hyn := hbn (by omega)
              have HF := Lib.hid (acc_fit9 v y hv0 HV.out hy0 h91)
              clear h9 hbn
              by_cases hc1 : c = 10
              · subst hc1
                obtain rfl : n = 10 := by omega
                go_wp2_with fail
                all_goals
                  go_ret
                  rw [HE.out]
                  exact ⟨ret_int HF.out, HR.out.cut (k := 10) c0 (by omega) (fun h => by omega) (fun h => by cases h), grown_set _ _ _ _⟩
              · go_wp2_with fail
                all_goals
                  go_ret
                  rw [HE.out]
                  exact ⟨ret_int HF.out, HR.out.cut (k := 10) c0 (by omega) (fun _ => by simp [add_lit]) (fun h => by cases h), grown_set _ _ _ _⟩
            · have HF := Lib.hid (acc_fit v y k (by omega) hv0 HV.out hy0 (by omega))
              clear h9 hPk
              by_cases hc1 : c = k + 1
              · subst hc1
                obtain rfl : n = k + 1 := by omega
                go_wp2_with fail
                all_goals
                  go_ret
                  rw [HE.out]
                  exact ⟨ret_int HF.out, by have := HR.out.cut (k := k + 1) (A' := some ⟨bl, off, none⟩) c0 (by omega) (fun h => by omega) (fun h => by cases h); simpa using this, grown_set _ _ _ _⟩
              · go_wp2_with fail
                all_goals
                  go_ret
                  rw [HE.out]
                  exact ⟨ret_int HF.out, HR.out.cut (k := k + 1) c0 (by omega) (fun _ => by simp [add_lit]) (fun h => by cases h), grown_set _ _ _ _⟩
          · have hst := HST.out
            rw [if_neg hbad, if_neg hy128] at hst
            have hk8 : k ≤ 8 := by
              rcases Nat.lt_or_ge k 9 with h | h
              · omega
              · have : k = 9 := by omega
                have := h9 this; omega
            have HE := Lib.hid hst
            have HF := Lib.hid (acc_fit v (y % 128) k hk8 hv0 HV.out (by omega) (by omega))
            have HU := Lib.hid (unit_fit k hk8)
            have hm : y % 128 = y - 128 := by omega
            have hbd := next_bd v y k hk9 hv0 HV.out (by omega) hy1
            have HBD := Lib.hid hbd
            have HM := Lib.hid hm
            have hmm : y % 128 % 128 = y % 128 := by omega
            have HMM := Lib.hid hmm
            have hk9n : ((k : Int) == 9) = false := by simp; omega
            clear hbad hst h9 hPk hm hbd hmm
            go_wp2_with fail
            all_goals
              first
                | (go_roundw
                   case rel => exact ⟨k + 1, v + (y - 128) * 128 ^ k, by omega, by omega, by rw [← HM.out]; exact congrArg _ HF.out, by rw [HU.out], by go_num, HBD.out.1, HBD.out.2, HE.out, trivial⟩
                   case measure => simp [intOf]; omega)
                | exact ⟨⟨k + 1, v + (y - 128) * 128 ^ k, by omega, by omega, by rw [← HM.out]; exact congrArg _ HF.out, by rw [HU.out], by go_num, HBD.out.1, HBD.out.2, HE.out, trivial⟩, by simp [intOf]; omega⟩
      · obtain rfl : k = n := by omega
        have hst := HD.out
        rw [List.drop_of_length_le (by rw [HNL.out]; omega)] at hst
        have HE := Lib.hid (show rdU ⟨bs, 0⟩ = (0, bad 3) from rdU_nil _ rfl 3 hst.symm)
        clear hst
        go_wp2_with fail
        all_goals
          go_ret
          rw [HE.out]
          exact ⟨rfl, HR.out.fail 3 (.inr rfl), grown_set _ _ _ _⟩
  · have hr := rr_bad p B s w h he
    refine hr.mono ?_
    rintro e w' ⟨rfl, rfl⟩
    rw [rdU_stay s he]
    exact ⟨rfl, h, World.grownBy.refl _ _⟩
end Go.Proofs.Ytjnjglkmabnlfaa
