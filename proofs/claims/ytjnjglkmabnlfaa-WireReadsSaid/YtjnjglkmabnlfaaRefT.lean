/- The reference's reader: Raw, Ints. -/
import Derived.Test.YtjnjglkmabnlfaaRefQ
namespace Go.Proofs.Ytjnjglkmabnlfaa
open Go.RowKit
set_option linter.unusedVariables false

theorem rdN_O_cut (M : Nat) (bs : List Int) (h : M ≤ bs.length) : rdN rdO M [] ⟨bs, 0⟩ = (bs.take M, ⟨bs.drop M, 0⟩) := by
  have e := rdN_O (bs.take M) (bs.drop M) []
  rw [List.take_append_drop, List.length_take, Nat.min_eq_left h, List.nil_append] at e
  exact e

def RawPost (p B : Nat) (s : RS) (w : World) (e : Ending) (w' : World) : Prop :=
  ∃ A c, e = .returned (.slice A (rdL rdO s).1.length c) ∧ Sl .u8 w' B A (rdL rdO s).1.length (rdL rdO s).1 ∧ RdR w' p B (rdL rdO s).2 ∧ w.grownBy w' (some p)
theorem RawPost.mk {p B : Nat} {s : RS} {w w' : World} {A : Option Addr} {M c : Nat} {bs : List Int} {s' : RS} (hR : rdL rdO s = (bs, s')) (hs : Sl .u8 w' B A M bs) (hr : RdR w' p B s') (hg : w.grownBy w' (some p)) : RawPost p B s w (.returned (.slice A M c)) w' := by
  have hl := hs.len
  subst hl
  exact ⟨A, c, by rw [hR], by rw [hR]; exact hs, by rw [hR]; exact hr, hg⟩

set_option maxHeartbeats 2000000 in
theorem rr_raw (p B : Nat) (s : RS) (w : World) (h : RdR w p B s) (hl : s.bs.length ≤ 1000000) :
    Calls Try.prog 52 #[.pointer (some ⟨p, 0, none⟩)] w (RawPost p B s w) := by
  obtain ⟨l0, l1, l2, l3⟩ := lenR_ok s h.ok
  obtain ⟨M, hM⟩ : ∃ M : Nat, (lenR s).1 = M := ⟨(lenR s).1.toNat, by omega⟩
  have hRL := rdL_lenR rdO s
  rw [hM, Int.toNat_natCast] at hRL
  rw [hM] at l1
  obtain ⟨st, hst⟩ : ∃ st, st = (lenR s).2 := ⟨_, rfl⟩
  rw [← hst] at l1 l2 l3 hRL
  have HM := Lib.hid hM
  have HST := Lib.hid hst
  clear hM hst l0
  go_enter Try.func52, Try.ntmps52
  go_wp2_with fail
  refine (rr_length p B s _ h hl).mono ?_
  rintro e w1 ⟨rfl, h1, hg1⟩
  rw [HM.out]
  rw [← HST.out] at h1
  have HG := Lib.hid hg1
  have HSB := h1.size
  obtain ⟨A, n, c, c0, c1, f0, f1, hnc, hcm, hnl, hA, hsl⟩ := h1.cells
  unfold maxLen at hcm
  have H1 := Lib.hid h1
  clear hg1 h1 h
  by_cases he : st.er = 0
  · obtain ⟨bs, er⟩ := st
    simp only at he
    subst he
    have hnl' := hnl rfl
    have hsl' := hsl rfl
    simp only at hnl' hsl' c1 l1 l3
    have hMn : M ≤ n := by omega
    have hn6 : n ≤ 1000000 := by omega
    rw [if_pos rfl, rdN_O_cut M bs (by omega)] at hRL
    have HRL := Lib.hid hRL
    have HS := Lib.hid (hsl'.take M (by omega))
    clear hRL hnl hsl hsl' hnl' l1 l2 l3
    cases A with
    | none =>
      have hc0 := hA rfl
      subst hc0
      obtain rfl : n = 0 := by omega
      obtain rfl : M = 0 := by omega
      clear hA
      go_wp2_with fail
      go_ret
      exact RawPost.mk HRL.out (Rd.sl H1.out HS.out HSB (grown_set _ _ _ _)) (H1.out.cut (k := 0) (c := 0) (n := 0) c0 (Nat.le_refl _) (fun h => absurd h (Nat.lt_irrefl 0)) (fun _ => rfl)) (grown_trans HG.out (grown_set _ _ _ _))
    | some ad =>
      clear hA
      by_cases hcM : c = M
      · subst hcM
        obtain rfl : n = c := by omega
        go_wp2_with fail
        go_ret
        exact RawPost.mk HRL.out (Rd.sl H1.out HS.out HSB (grown_set _ _ _ _)) (by have hh := H1.out.cut (k := n) (n := n) (c := n) (A' := some ad) c0 (Nat.le_refl _) (fun h => absurd h (Nat.lt_irrefl n)) (fun h => by cases h); rw [Nat.sub_self] at hh; exact hh) (grown_trans HG.out (grown_set _ _ _ _))
      · go_wp2_with fail
        go_ret
        exact RawPost.mk HRL.out (Rd.sl H1.out HS.out HSB (grown_set _ _ _ _)) (H1.out.cut (k := M) c0 (by omega) (fun _ => rfl) (fun h => by cases h)) (grown_trans HG.out (grown_set _ _ _ _))
  · rw [if_neg he] at hRL
    have HRL := Lib.hid hRL
    have hne : (st.er == 0) = false := by simpa using he
    have hne2 : (st.er != 0) = true := by simpa using he
    clear he hRL hnl hsl
    go_wp2_with fail
    go_ret
    exact RawPost.mk HRL.out (Sl.nil _ _ _ _) H1.out HG.out
theorem cI_snoc (l : List Int) (x : Int) : cI l ++ [Value.int .i64 x] = cI (l ++ [x]) := by simp [cI]
theorem grown_belowB {w0 w w' : World} {row : Option Nat} (hg : w0.grownBy w row) (hb : Below w0.heap.size w w') : w0.grownBy w' row :=
  ⟨hb.os.trans hg.os, hb.tape.trans hg.tape, hb.output.trans hg.output, Nat.le_trans hg.size hb.size, fun i hi hn => (hb.block i hi).trans (hg.block i hi hn)⟩

theorem Rd.belowC {t : TypeId} {w w' : World} {p B C : Nat} {s : RS} (h : Rd t w p B s) (hp : p < C) (hB : B ≤ C) (hb : Below C w w') : Rd t w' p B s := by
  obtain ⟨A, n, c, h1, h2, h3, h4, h5, h6, h7⟩ := h
  exact ⟨A, n, c, (hb.block p hp).trans h1, h2, h3, h4, fun h0 => (h5 h0).below (hb.mono hB), h6, Nat.le_trans h7 hb.size⟩
def IntsPost (p B : Nat) (s : RS) (w : World) (e : Ending) (w' : World) : Prop :=
  ∃ v, e = .returned v ∧ w'.ownsRow w.heap.size 3 1 v (rdL rdI s).1.length (cI (rdL rdI s).1) ∧ RdR w' p B (rdL rdI s).2 ∧ w.grownBy w' (some p)
theorem IntsPost.mk {p B k : Nat} {s : RS} {w w' : World} {v : Value} {zs : List Int} {s' : RS} (hR : rdL rdI s = (zs, s')) (hk : zs.length = k) (hs : w'.ownsRow w.heap.size 3 1 v k (cI zs)) (hr : RdR w' p B s') (hg : w.grownBy w' (some p)) : IntsPost p B s w (.returned v) w' := by
  subst hk
  exact ⟨v, rfl, by rw [hR]; exact hs, by rw [hR]; exact hr, hg⟩

set_option maxHeartbeats 2000000 in
theorem rr_ints (p B : Nat) (s : RS) (w : World) (h : RdR w p B s) (hl : s.bs.length ≤ 1000000) :
    Calls Try.prog 53 #[.pointer (some ⟨p, 0, none⟩)] w (IntsPost p B s w) := by
  obtain ⟨i0, hi, hz0, hz1, hz2⟩ := info_parts int_info
  obtain ⟨l0, l1, l2, l3⟩ := lenR_ok s h.ok
  obtain ⟨M, hM⟩ : ∃ M : Nat, (lenR s).1 = M := ⟨(lenR s).1.toNat, by omega⟩
  have hRL := rdL_lenR rdI s
  rw [hM, Int.toNat_natCast] at hRL
  rw [hM] at l1
  obtain ⟨st, hst⟩ : ∃ st, st = (lenR s).2 := ⟨_, rfl⟩
  rw [← hst] at l1 l2 l3 hRL
  have hM6 : M ≤ 1000000 := by omega
  have hst6 : st.bs.length ≤ 1000000 := by omega
  have HM := Lib.hid hM
  have HST := Lib.hid hst
  have HST6 := Lib.hid hst6
  have HRL := Lib.hid hRL
  have hpw := h.lt
  have hBw := h.size
  clear hM hst l0 l1 l2 l3 hRL hst6
  go_enter Try.func53, Try.ntmps53
  go_wp2_with fail
  refine (rr_length p B s _ h hl).mono ?_
  rintro e w1 ⟨rfl, h1, hg1⟩
  rw [HM.out]
  rw [← HST.out] at h1
  have HG1 := Lib.hid hg1
  have H1 := Lib.hid h1
  clear hg1 h1 h
  go_wp2_with fail
  go_loopw [4, 5] (fun o i wr => ∃ (k : Nat) (acc : List Int) (sk : RS), k ≤ M ∧ i = .int .i64 k ∧ wr.ownsRow w.heap.size 3 1 o k (cI acc) ∧ Hid (acc.length = k) ∧ RdR wr p B sk ∧ w.grownBy wr (some p) ∧ Hid (sk.bs.length ≤ 1000000) ∧ Hid (rdL rdI s = if sk.er = 0 then rdN rdI (M - k) acc sk else ([], sk))) (fun _ i _ => M - (intOf i).toNat)
  case atStart => exact ⟨0, [], st, Nat.zero_le _, rfl, World.ownsRow_nil _ _ _ _, rfl, H1.out, HG1.out, HST6.out, HRL.out⟩
  case round =>
    obtain ⟨k, acc, sk, hk, rfl, hown, HA, hr, hgr, HL, HD⟩ := hrel
    obtain ⟨A, n, c, c0, c1, f0, f1, hnc, hcm, _, _, _⟩ := hr.cells
    obtain ⟨A0, d0, rfl, hd1, hd2⟩ := own_shape hown
    have HO := Lib.hid hown
    have HR := Lib.hid hr
    have HGR := Lib.hid hgr
    clear hown hr hgr
    by_cases he : sk.er = 0
    · have hD := HD.out
      rw [if_pos he] at hD
      have HD1 := Lib.hid hD
      have hE : (sk.er == 0) = true := by simpa using he
      have hE2 : (sk.er != 0) = false := by simpa using he
      clear hD he
      by_cases hlt : k < M
      · go_wp2_with fail
        refine (rr_int p B sk _ HR.out HL.out).mono ?_
        rintro e w3 ⟨rfl, h3, hg3⟩
        have hown3 := Rd.own HR.out HO.out (by decide) hg3
        have HG3 := Lib.hid (grown_trans HGR.out hg3)
        have H3 := Lib.hid h3
        have hsz3 := HG3.out.size
        have hok := rdI_ok sk HR.out.ok
        have HL3 := Lib.hid (show (rdI sk).2.bs.length ≤ 1000000 from Nat.le_trans hok.2.2 HL.out)
        have HD3 := Lib.hid (show rdL rdI s = if (rdI sk).2.er = 0 then rdN rdI (M - (k + 1)) (acc ++ [(rdI sk).1]) (rdI sk).2 else ([], (rdI sk).2) by
          have := HD1.out
          rw [show M - k = M - (k + 1) + 1 by omega] at this
          rw [this]
          split
          · rename_i h; exact rdN_step _ _ _ _ h
          · rename_i h; exact rdN_fail _ _ _ _ h)
        obtain ⟨x, hx⟩ : ∃ x, x = (rdI sk).1 := ⟨_, rfl⟩
        obtain ⟨s', hs'⟩ : ∃ s', s' = (rdI sk).2 := ⟨_, rfl⟩
        rw [← hx, ← hs'] at HD3
        rw [← hs'] at HL3 H3
        rw [← hx]
        have E1 := Lib.hid (show cI acc ++ [Value.int .i64 x] = cI (acc ++ [x]) from cI_snoc acc x)
        have hr1 : k + 1 ≤ maxLen := by unfold maxLen; omega
        have hr2 : (k + 1) * 8 ≤ 140737488355328 := by omega
        clear h3 hg3 hok hx hs' c0 c1 f0 f1
        go_wp2_with (at_builtin; refine wpList_append_own _ rfl _ _ _ rfl w.heap.size 3 i0 _ 1 8 Try.underlying22 hi hz0 hz1 hz2 rfl (by omega) _ k (cI acc) rfl (hown3.alloc _) ⟨w3.heap.size, 0, none⟩ 1 1 [.int .i64 x] rfl rfl (cell_one_new _ _ _) (by simp [Value.oneCell']) hr1 hr2 (by simp; omega) ?_; intro v5 w5 hown5 hg5 hnil5; rw [E1.out] at hown5; have hb5 := below_row (((Below.refl w.heap.size w3).alloc hsz3 (.cells #[.int .i64 x] 3))) hg5 (by simp; omega) (fun g hg => (hown3.lt g hg).1); clear hg5 hnil5; have O5 := Lib.hid hown5; have R5 := Lib.hid (Rd.belowC H3.out hpw hBw hb5); have G5 := Lib.hid (grown_belowB HG3.out hb5); clear hown5 hb5)
        go_wp2_with fail
        go_roundw
        case rel => exact ⟨k + 1, acc ++ [x], s', by omega, by go_num, O5.out, by rw [List.length_append, HA]; rfl, R5.out, G5.out, HL3.out, HD3.out⟩
        case measure => simp [intOf]; omega
      · obtain rfl : k = M := by omega
        have hD := HD1.out
        rw [Nat.sub_self, show rdN rdI 0 acc sk = (acc, sk) from rfl] at hD
        have HD2 := Lib.hid hD
        clear hD
        go_wp2_with fail
        go_ret
        exact IntsPost.mk HD2.out HA HO.out HR.out HGR.out
    · have hD := HD.out
      rw [if_neg he] at hD
      have HD1 := Lib.hid hD
      have hE : (sk.er == 0) = false := by simpa using he
      have hE2 : (sk.er != 0) = true := by simpa using he
      clear hD he
      by_cases hlt : k < M
      · go_wp2_with fail
        go_ret
        exact IntsPost.mk HD1.out rfl (World.ownsRow_nil _ _ _ _) HR.out HGR.out
      · go_wp2_with fail
        go_ret
        exact IntsPost.mk HD1.out rfl (World.ownsRow_nil _ _ _ _) HR.out HGR.out
end Go.Proofs.Ytjnjglkmabnlfaa
