/- Contracts of the reference of wide: at, plus. · Contracts of the reference of wide: minus. · Contracts of the reference of wide: compared. -/
import Derived.Test.YtgfhniiidejmoaaGreatDoorB15
import Derived.Test.YtgfhniiidejmoaaGreatDoorB14
import Derived.Test.YtgfhniiidejmoaaGreatDoorB06
import Derived.Maps.AppendAt
namespace Go.Proofs.YtgfhniiidejmoaaGreatDoor
open Go.RowKit
set_option linter.unusedVariables false

theorem at_any (A : Option Addr) (n c i : Nat) (zs : List Int) (w : World) (h : Sl .i64 w w.heap.size A n zs) (hn : n ≤ 1000000) (hi : i ≤ 2000000) :
    Calls Tryz.prog 73 #[.slice A n c, .int .i64 i] w fun e w' => e = .returned (.int .i64 (zs[i]?.getD 0)) ∧ w = w' := by
  have hl := h.len
  by_cases hlt : i < n
  · obtain ⟨bl, off, rfl, hbl, hcl⟩ := h.at_ (by omega)
    have hcell := hcl i hlt
    clear hcl h hl
    go_enter Tryz.func73, Tryz.ntmps73
    go_wp2
    go_ret
    exact ⟨rfl, rfl⟩
  · have e : zs[i]?.getD 0 = 0 := by rw [List.getElem?_eq_none (by omega)]; rfl
    rw [e]
    clear h hl e
    go_enter Tryz.func73, Tryz.ntmps73
    go_wp2
    go_ret
    exact ⟨rfl, rfl⟩
/-- a row of digits of the call's own -/
def OwnD (w : World) (x : Int) (e : Ending) (w' : World) (mx : Nat) : Prop :=
  ∃ v l, e = .returned v ∧ w'.ownsRow w.heap.size 3 1 v l.length (l.map (Value.int .i64)) ∧ Below w.heap.size w w' ∧ Dig 10000 l ∧ dv 10000 l = x ∧ l.length ≤ mx

set_option maxRecDepth 100000 in
set_option maxHeartbeats 2000000 in
theorem plus_any (A E : Option Addr) (n c m f : Nat) (zs ys : List Int) (w : World) (h : Sl .i64 w w.heap.size A n zs) (k : Sl .i64 w w.heap.size E m ys) (hn : n ≤ 100000) (hm : m ≤ 100000) (hz : Dig 10000 zs) (hy : Dig 10000 ys) :
    Calls Tryz.prog 44 #[.slice A n c, .slice E m f] w fun e w' => OwnD w (dv 10000 zs + dv 10000 ys) e w' (max n m + 1) := by
  obtain ⟨i0, hi, hz0, hz1, hz2⟩ := info_parts int_info
  obtain ⟨M, hM⟩ : ∃ M, M = max n m := ⟨_, rfl⟩
  rw [← hM]
  have hM1 : n ≤ M ∧ m ≤ M ∧ M ≤ 100000 := by omega
  obtain ⟨hM1, hM2, hM3⟩ := hM1
  have HLN := Lib.hid h.len
  have HLM := Lib.hid k.len
  have HS := Lib.hid h
  have HK := Lib.hid k
  have HZ := Lib.hid hz
  have HY := Lib.hid hy
  clear h k hz hy hM
  go_enter Tryz.func44, Tryz.ntmps44
  go_wp2_with fail
  go_loopw [5, 6, 7] (fun o cv i wr => ∃ (k : Nat) (l : List Int) (cy : Int), k ≤ M + 1 ∧ i = .int .i64 k ∧ cv = .int .i64 cy ∧ 0 ≤ cy ∧ cy ≤ 1 ∧ (M < k → cy = 0) ∧ wr.ownsRow w.heap.size 3 1 o k (l.map (Value.int .i64)) ∧ Hid (l.length = k) ∧ Hid (Dig 10000 l) ∧ Hid (dv 10000 l + 10000 ^ k * cy = dv 10000 (zs.take k) + dv 10000 (ys.take k)) ∧ Below w.heap.size w wr) (fun _ _ i _ => M + 1 - (intOf i).toNat)
  case atStart => exact ⟨0, [], 0, by omega, rfl, rfl, by omega, by omega, fun _ => rfl, World.ownsRow_nil _ _ _ _, rfl, Dig.nil, by show dv 10000 [] + 10000 ^ 0 * 0 = dv 10000 (zs.take 0) + dv 10000 (ys.take 0); simp [dv], Below.refl _ _⟩
  case round =>
    obtain ⟨k, l, cy, hk, rfl, rfl, hcy0, hcy1, hcM, hown, HL, HD, HV, hb⟩ := hrel
    have HO := Lib.hid hown
    have HB := Lib.hid hb
    have HSW := Lib.hid ((HS.out.below hb).more hb.size)
    have HKW := Lib.hid ((HK.out.below hb).more hb.size)
    have hbs := hb.size
    clear hown hb
    by_cases hgo : k < n ∨ k < m ∨ 0 < cy
    · have hkM : k ≤ M := by
        rcases Nat.lt_or_ge M k with h1 | h1
        · have := hcM h1; omega
        · exact h1
      have hx := HZ.out.get (by omega) k
      have hy := HY.out.get (by omega) k
      obtain ⟨x, hxe⟩ : ∃ x, x = zs[k]?.getD 0 := ⟨_, rfl⟩
      obtain ⟨y, hye⟩ : ∃ y, y = ys[k]?.getD 0 := ⟨_, rfl⟩
      have hat := at_any A n c k zs wr HSW.out (by omega) (by omega)
      have hat2 := at_any E m f k ys wr HKW.out (by omega) (by omega)
      rw [← hxe] at hx hat
      rw [← hye] at hy hat2
      obtain ⟨hx0, hx1⟩ := hx
      obtain ⟨hy0, hy1⟩ := hy
      have hbd := plus_bd (show (1 : Int) < 10000 by omega) ⟨hx0, hx1⟩ ⟨hy0, hy1⟩ ⟨hcy0, hcy1⟩
      have hst := plus_step zs ys l k cy (x + y + cy) HL (by rw [hxe, hye]) HV
      have HAT := Lib.hid hat
      have HAT2 := Lib.hid hat2
      have hcM2 : M < k + 1 → (x + y + cy) / 10000 = 0 := by
        intro h1
        have e1 : x = 0 := by rw [hxe, List.getElem?_eq_none (by rw [HLN.out]; omega)]; rfl
        have e2 : y = 0 := by rw [hye, List.getElem?_eq_none (by rw [HLM.out]; omega)]; rfl
        rw [e1, e2]; omega
      obtain ⟨v, hv⟩ : ∃ v, v = x + y + cy := ⟨_, rfl⟩
      rw [← hv] at hbd hst hcM2
      have hv0 : 0 ≤ v := by omega
      have hv1 : v ≤ 20000 := by omega
      obtain ⟨hbd0, hbd1⟩ := hbd
      have HST := Lib.hid hst
      have HCM := Lib.hid hcM2
      have htm : v.tmod 10000 = v % 10000 := Int.tmod_eq_emod_of_nonneg hv0
      have htd : v.tdiv 10000 = v / 10000 := Int.tdiv_eq_ediv_of_nonneg hv0
      have E1 := Lib.hid (show l.map (Value.int .i64) ++ [Value.int .i64 (v % 10000)] = (l ++ [v % 10000]).map (Value.int .i64) by simp)
      have hown := HO.out
      have hr1 : k + 1 ≤ maxLen := by unfold maxLen; omega
      have hr2 : (k + 1) * 8 ≤ 140737488355328 := by omega
      clear hxe hye hat hat2 hst hcM2 hcM
      subst hv
      have hcases : k < n ∨ (¬ k < n ∧ k < m) ∨ (¬ k < n ∧ ¬ k < m ∧ cy = 1) := by omega
      have HG := Lib.hid hgo
      clear hgo
      rcases hcases with h1 | ⟨h1, h2⟩ | ⟨h1, h2, h3⟩
      · go_wp2_with fail
        refine HAT.out.mono ?_
        rintro e w1 ⟨rfl, rfl⟩
        go_wp2_with fail
        refine HAT2.out.mono ?_
        rintro e w1 ⟨rfl, rfl⟩
        go_wp2_with (at_builtin; refine wpList_append_own _ rfl _ _ _ rfl w.heap.size 3 i0 _ 1 8 Tryz.underlying23 hi hz0 hz1 hz2 rfl (by omega) _ k (l.map (Value.int .i64)) rfl (hown.alloc _) ⟨wr.heap.size, 0, none⟩ 1 1 [.int .i64 ((x + y + cy) % 10000)] rfl rfl (cell_one_new _ _ _) (by simp [Value.oneCell']) hr1 hr2 (by simp; omega) ?_; intro v5 w5 hown5 hg5 hnil5; rw [E1.out] at hown5; have HB5 := Lib.hid ((HB.out.alloc HB.out.size _).trans (below_of_grown hg5 (by simp; omega) (fun g hg => (hown.lt g hg).1))); have O5 := Lib.hid hown5; clear hown5 hg5 hnil5)
        go_wp2_with fail
        have HD5 := HD.app (Dig.cons (B := 10000) (d := (x + y + cy) % 10000) (t := []) (by omega) Dig.nil)
        have HL5 : (l ++ [(x + y + cy) % 10000]).length = k + 1 := by rw [List.length_append, HL]; rfl
        first
          | (go_roundw
             case rel => exact ⟨k + 1, l ++ [(x + y + cy) % 10000], (x + y + cy) / 10000, by omega, by go_num, rfl, hbd0, hbd1, HCM.out, O5.out, HL5, HD5, HST.out, HB5.out⟩
             case measure => simp [intOf]; omega)
          | exact ⟨⟨k + 1, l ++ [(x + y + cy) % 10000], (x + y + cy) / 10000, by omega, by go_num, rfl, hbd0, hbd1, HCM.out, O5.out, HL5, HD5, HST.out, HB5.out⟩, by simp [intOf]; omega⟩
      · go_wp2_with fail
        refine HAT.out.mono ?_
        rintro e w1 ⟨rfl, rfl⟩
        go_wp2_with fail
        refine HAT2.out.mono ?_
        rintro e w1 ⟨rfl, rfl⟩
        go_wp2_with (at_builtin; refine wpList_append_own _ rfl _ _ _ rfl w.heap.size 3 i0 _ 1 8 Tryz.underlying23 hi hz0 hz1 hz2 rfl (by omega) _ k (l.map (Value.int .i64)) rfl (hown.alloc _) ⟨wr.heap.size, 0, none⟩ 1 1 [.int .i64 ((x + y + cy) % 10000)] rfl rfl (cell_one_new _ _ _) (by simp [Value.oneCell']) hr1 hr2 (by simp; omega) ?_; intro v5 w5 hown5 hg5 hnil5; rw [E1.out] at hown5; have HB5 := Lib.hid ((HB.out.alloc HB.out.size _).trans (below_of_grown hg5 (by simp; omega) (fun g hg => (hown.lt g hg).1))); have O5 := Lib.hid hown5; clear hown5 hg5 hnil5)
        go_wp2_with fail
        have HD5 := HD.app (Dig.cons (B := 10000) (d := (x + y + cy) % 10000) (t := []) (by omega) Dig.nil)
        have HL5 : (l ++ [(x + y + cy) % 10000]).length = k + 1 := by rw [List.length_append, HL]; rfl
        first
          | (go_roundw
             case rel => exact ⟨k + 1, l ++ [(x + y + cy) % 10000], (x + y + cy) / 10000, by omega, by go_num, rfl, hbd0, hbd1, HCM.out, O5.out, HL5, HD5, HST.out, HB5.out⟩
             case measure => simp [intOf]; omega)
          | exact ⟨⟨k + 1, l ++ [(x + y + cy) % 10000], (x + y + cy) / 10000, by omega, by go_num, rfl, hbd0, hbd1, HCM.out, O5.out, HL5, HD5, HST.out, HB5.out⟩, by simp [intOf]; omega⟩
      · subst h3
        go_wp2_with fail
        refine HAT.out.mono ?_
        rintro e w1 ⟨rfl, rfl⟩
        go_wp2_with fail
        refine HAT2.out.mono ?_
        rintro e w1 ⟨rfl, rfl⟩
        go_wp2_with (at_builtin; refine wpList_append_own _ rfl _ _ _ rfl w.heap.size 3 i0 _ 1 8 Tryz.underlying23 hi hz0 hz1 hz2 rfl (by omega) _ k (l.map (Value.int .i64)) rfl (hown.alloc _) ⟨wr.heap.size, 0, none⟩ 1 1 [.int .i64 ((x + y + 1) % 10000)] rfl rfl (cell_one_new _ _ _) (by simp [Value.oneCell']) hr1 hr2 (by simp; omega) ?_; intro v5 w5 hown5 hg5 hnil5; rw [E1.out] at hown5; have HB5 := Lib.hid ((HB.out.alloc HB.out.size _).trans (below_of_grown hg5 (by simp; omega) (fun g hg => (hown.lt g hg).1))); have O5 := Lib.hid hown5; clear hown5 hg5 hnil5)
        go_wp2_with fail
        have HD5 := HD.app (Dig.cons (B := 10000) (d := (x + y + 1) % 10000) (t := []) (by omega) Dig.nil)
        have HL5 : (l ++ [(x + y + 1) % 10000]).length = k + 1 := by rw [List.length_append, HL]; rfl
        first
          | (go_roundw
             case rel => exact ⟨k + 1, l ++ [(x + y + 1) % 10000], (x + y + 1) / 10000, by omega, by go_num, rfl, hbd0, hbd1, HCM.out, O5.out, HL5, HD5, HST.out, HB5.out⟩
             case measure => simp [intOf]; omega)
          | exact ⟨⟨k + 1, l ++ [(x + y + 1) % 10000], (x + y + 1) / 10000, by omega, by go_num, rfl, hbd0, hbd1, HCM.out, O5.out, HL5, HD5, HST.out, HB5.out⟩, by simp [intOf]; omega⟩
    · obtain rfl : cy = 0 := by omega
      have hk1 : ¬ k < n := by omega
      have hk2 : ¬ k < m := by omega
      have hv := HV
      have HF := Lib.hid (show dv 10000 l = dv 10000 zs + dv 10000 ys by
        have e := HV
        have e1 : zs.take k = zs := List.take_of_length_le (by rw [HLN.out]; omega)
        have e2 : ys.take k = ys := List.take_of_length_le (by rw [HLM.out]; omega)
        have e3 : dv 10000 l + 10000 ^ k * 0 = dv 10000 (zs.take k) + dv 10000 (ys.take k) := e
        rw [e1, e2, Int.mul_zero, Int.add_zero] at e3
        exact e3)
      clear hv hgo
      go_wp2_with fail
      go_ret
      have hL : l.length = k := HL
      subst hL
      exact ⟨_, l, rfl, HO.out, HB.out, HD, HF.out, by omega⟩
end Go.Proofs.YtgfhniiidejmoaaGreatDoor
namespace Go.Proofs.YtgfhniiidejmoaaGreatDoor
open Go.RowKit
set_option linter.unusedVariables false

set_option maxRecDepth 100000 in
set_option maxHeartbeats 2000000 in
theorem minus_any (A E : Option Addr) (n c m f : Nat) (zs ys : List Int) (w : World) (h : Sl .i64 w w.heap.size A n zs) (k : Sl .i64 w w.heap.size E m ys) (hmn : m ≤ n) (hn : n ≤ 100000) (hz : Dig 10000 zs) (hy : Dig 10000 ys) (hle : dv 10000 ys ≤ dv 10000 zs) :
    Calls Tryz.prog 46 #[.slice A n c, .slice E m f] w fun e w' => OwnD w (dv 10000 zs - dv 10000 ys) e w' n := by
  obtain ⟨i0, hi, hz0, hz1, hz2⟩ := info_parts int_info
  have HLN := Lib.hid h.len
  have HLM := Lib.hid k.len
  have HS := Lib.hid h
  have HK := Lib.hid k
  have HZ := Lib.hid hz
  have HY := Lib.hid hy
  have HLE := Lib.hid hle
  clear h k hz hy hle
  go_enter Tryz.func46, Tryz.ntmps46
  go_wp2_with fail
  go_loopw [5, 6, 7] (fun o cv i wr => ∃ (k : Nat) (l : List Int) (cy : Int), k ≤ n ∧ i = .int .i64 k ∧ cv = .int .i64 cy ∧ (cy = 0 ∨ cy = 1) ∧ wr.ownsRow w.heap.size 3 1 o k (l.map (Value.int .i64)) ∧ Hid (l.length = k) ∧ Hid (Dig 10000 l) ∧ Hid (dv 10000 l - 10000 ^ k * cy = dv 10000 (zs.take k) - dv 10000 (ys.take k)) ∧ Below w.heap.size w wr) (fun _ _ i _ => n - (intOf i).toNat)
  case atStart => exact ⟨0, [], 0, by omega, rfl, rfl, .inl rfl, World.ownsRow_nil _ _ _ _, rfl, Dig.nil, by show dv 10000 [] - 10000 ^ 0 * 0 = dv 10000 (zs.take 0) - dv 10000 (ys.take 0); simp [dv], Below.refl _ _⟩
  case round =>
    obtain ⟨k, l, cy, hk, rfl, rfl, hcy, hown, HL, HD, HV, hb⟩ := hrel
    have HO := Lib.hid hown
    have HB := Lib.hid hb
    have HSW := Lib.hid ((HS.out.below hb).more hb.size)
    have HKW := Lib.hid ((HK.out.below hb).more hb.size)
    have hbs := hb.size
    have HCY := Lib.hid hcy
    have hcy0 : 0 ≤ cy ∧ cy ≤ 1 := by omega
    obtain ⟨hcy0, hcy1⟩ := hcy0
    clear hown hb hcy
    by_cases hlt : k < n
    · have hx := HZ.out.get (by omega) k
      have hy := HY.out.get (by omega) k
      obtain ⟨x, hxe⟩ : ∃ x, x = zs[k]?.getD 0 := ⟨_, rfl⟩
      obtain ⟨y, hye⟩ : ∃ y, y = ys[k]?.getD 0 := ⟨_, rfl⟩
      have hat := at_any A n c k zs wr HSW.out (by omega) (by omega)
      have hat2 := at_any E m f k ys wr HKW.out (by omega) (by omega)
      rw [← hxe] at hx hat
      rw [← hye] at hy hat2
      obtain ⟨hx0, hx1⟩ := hx
      obtain ⟨hy0, hy1⟩ := hy
      have HST := Lib.hid (fun v' c' hv' => minus_step (B := 10000) zs ys l k cy (x - y - cy) v' c' HL (by rw [hxe, hye]) hv' HV)
      have HAT := Lib.hid hat
      have HAT2 := Lib.hid hat2
      have hown := HO.out
      have hr1 : k + 1 ≤ maxLen := by unfold maxLen; omega
      have hr2 : (k + 1) * 8 ≤ 140737488355328 := by omega
      clear hxe hye hat hat2
      by_cases hneg : x - y - cy < 0
      · have E1 := Lib.hid (show l.map (Value.int .i64) ++ [Value.int .i64 (x - y - cy + 10000)] = (l ++ [x - y - cy + 10000]).map (Value.int .i64) by simp)
        go_wp2_with fail
        refine HAT.out.mono ?_
        rintro e w1 ⟨rfl, rfl⟩
        go_wp2_with fail
        refine HAT2.out.mono ?_
        rintro e w1 ⟨rfl, rfl⟩
        go_wp2_with (at_builtin; refine wpList_append_own _ rfl _ _ _ rfl w.heap.size 3 i0 _ 1 8 Tryz.underlying23 hi hz0 hz1 hz2 rfl (by omega) _ k (l.map (Value.int .i64)) rfl (hown.alloc _) ⟨wr.heap.size, 0, none⟩ 1 1 [.int .i64 (x - y - cy + 10000)] rfl rfl (cell_one_new _ _ _) (by simp [Value.oneCell']) hr1 hr2 (by simp; omega) ?_; intro v5 w5 hown5 hg5 hnil5; rw [E1.out] at hown5; have HB5 := Lib.hid ((HB.out.alloc HB.out.size _).trans (below_of_grown hg5 (by simp; omega) (fun g hg => (hown.lt g hg).1))); have O5 := Lib.hid hown5; clear hown5 hg5 hnil5)
        go_wp2_with fail
        have HD5 := HD.app (Dig.cons (B := 10000) (d := x - y - cy + 10000) (t := []) (by omega) Dig.nil)
        have HL5 : (l ++ [x - y - cy + 10000]).length = k + 1 := by rw [List.length_append, HL]; rfl
        have HV5 := HST.out (x - y - cy + 10000) 1 (by omega)
        first
          | (go_roundw
             case rel => exact ⟨k + 1, l ++ [x - y - cy + 10000], 1, by omega, by go_num, rfl, .inr rfl, O5.out, HL5, HD5, HV5, HB5.out⟩
             case measure => simp [intOf]; omega)
          | exact ⟨⟨k + 1, l ++ [x - y - cy + 10000], 1, by omega, by go_num, rfl, .inr rfl, O5.out, HL5, HD5, HV5, HB5.out⟩, by simp [intOf]; omega⟩
      · have E1 := Lib.hid (show l.map (Value.int .i64) ++ [Value.int .i64 (x - y - cy)] = (l ++ [x - y - cy]).map (Value.int .i64) by simp)
        go_wp2_with fail
        refine HAT.out.mono ?_
        rintro e w1 ⟨rfl, rfl⟩
        go_wp2_with fail
        refine HAT2.out.mono ?_
        rintro e w1 ⟨rfl, rfl⟩
        go_wp2_with (at_builtin; refine wpList_append_own _ rfl _ _ _ rfl w.heap.size 3 i0 _ 1 8 Tryz.underlying23 hi hz0 hz1 hz2 rfl (by omega) _ k (l.map (Value.int .i64)) rfl (hown.alloc _) ⟨wr.heap.size, 0, none⟩ 1 1 [.int .i64 (x - y - cy)] rfl rfl (cell_one_new _ _ _) (by simp [Value.oneCell']) hr1 hr2 (by simp; omega) ?_; intro v5 w5 hown5 hg5 hnil5; rw [E1.out] at hown5; have HB5 := Lib.hid ((HB.out.alloc HB.out.size _).trans (below_of_grown hg5 (by simp; omega) (fun g hg => (hown.lt g hg).1))); have O5 := Lib.hid hown5; clear hown5 hg5 hnil5)
        go_wp2_with fail
        have HD5 := HD.app (Dig.cons (B := 10000) (d := x - y - cy) (t := []) (by omega) Dig.nil)
        have HL5 : (l ++ [x - y - cy]).length = k + 1 := by rw [List.length_append, HL]; rfl
        have HV5 := HST.out (x - y - cy) 0 (by omega)
        first
          | (go_roundw
             case rel => exact ⟨k + 1, l ++ [x - y - cy], 0, by omega, by go_num, rfl, .inl rfl, O5.out, HL5, HD5, HV5, HB5.out⟩
             case measure => simp [intOf]; omega)
          | exact ⟨⟨k + 1, l ++ [x - y - cy], 0, by omega, by go_num, rfl, .inl rfl, O5.out, HL5, HD5, HV5, HB5.out⟩, by simp [intOf]; omega⟩
    · obtain rfl : k = n := by omega
      have HF := Lib.hid (show dv 10000 l = dv 10000 zs - dv 10000 ys by
        have e1 : zs.take k = zs := List.take_of_length_le (by rw [HLN.out]; omega)
        have e2 : ys.take k = ys := List.take_of_length_le (by rw [HLM.out]; omega)
        have e3 : dv 10000 l - 10000 ^ k * cy = dv 10000 (zs.take k) - dv 10000 (ys.take k) := HV
        rw [e1, e2] at e3
        have hL : l.length = k := HL
        rw [← hL] at e3
        exact minus_end (by omega) l cy _ HD HCY.out (by have := HLE.out; omega) e3)
      go_wp2_with fail
      go_ret
      have hL : l.length = k := HL
      subst hL
      exact ⟨_, l, rfl, HO.out, HB.out, HD, HF.out, Nat.le_refl _⟩
end Go.Proofs.YtgfhniiidejmoaaGreatDoor
namespace Go.Proofs.YtgfhniiidejmoaaGreatDoor
open Go.RowKit
set_option linter.unusedVariables false

def cmpI (x y : Int) : Int := if x < y then -1 else if y < x then 1 else 0
set_option maxRecDepth 100000 in
set_option maxHeartbeats 1000000 in
theorem compared_any (A E : Option Addr) (n c m f : Nat) (zs ys : List Int) (w : World) (h : Sl .i64 w w.heap.size A n zs) (k : Sl .i64 w w.heap.size E m ys) (hn : n ≤ 100000) (hm : m ≤ 100000) (hz : Dig 10000 zs) (hy : Dig 10000 ys) (tz : Top zs) (ty : Top ys) :
    Calls Tryz.prog 45 #[.slice A n c, .slice E m f] w fun e w' => e = .returned (.int .i64 (cmpI (dv 10000 zs) (dv 10000 ys))) ∧ ∃ q, w' = w.drewN q := by
  have HLN := Lib.hid h.len
  have HLM := Lib.hid k.len
  have HS := Lib.hid h
  have HK := Lib.hid k
  have HZ := Lib.hid hz
  have HY := Lib.hid hy
  have L1 := Lib.hid (fun (hlt : n < m) => len_lt (show (1 : Int) < 10000 by omega) hz hy ty (by rw [h.len, k.len]; exact hlt))
  have L2 := Lib.hid (fun (hlt : m < n) => len_lt (show (1 : Int) < 10000 by omega) hy hz tz (by rw [h.len, k.len]; exact hlt))
  obtain ⟨R, hR⟩ : ∃ R, R = cmpI (dv 10000 zs) (dv 10000 ys) := ⟨_, rfl⟩
  rw [← hR]
  have HR := Lib.hid hR
  clear h k hz hy tz ty hR
  rcases Nat.lt_trichotomy n m with hlt | rfl | hgt
  · obtain rfl : R = -1 := by rw [HR.out, cmpI, if_pos (L1.out hlt)]
    go_enter Tryz.func45, Tryz.ntmps45
    go_wp2
    go_ret
    exact ⟨rfl, 0, rfl⟩
  · go_enter Tryz.func45, Tryz.ntmps45
    go_wp2
    go_loopw [5] (fun i wr => ∃ k q : Nat, k ≤ n ∧ i = .int .i64 ((k : Int) - 1) ∧ Hid (zs.drop k = ys.drop k) ∧ wr = w.drewN q) (fun i _ => (intOf i + 1).toNat)
    case atStart => exact ⟨n, 0, Nat.le_refl _, rfl, by show zs.drop n = ys.drop n; rw [List.drop_of_length_le (by rw [HLN.out]; omega), List.drop_of_length_le (by rw [HLM.out]; omega)], rfl⟩
    case round =>
      obtain ⟨k, q, hk, rfl, HD, rfl⟩ := hrel
      rcases Nat.eq_zero_or_pos k with rfl | hk0
      · obtain rfl : R = 0 := by
          have e : zs = ys := HD
          rw [HR.out, e, cmpI, if_neg (by omega), if_neg (by omega)]
        go_wp2
        go_ret
        exact ⟨rfl, _, rfl⟩
      · obtain ⟨j, rfl⟩ : ∃ j, k = j + 1 := ⟨k - 1, by omega⟩
        rw [show (((j + 1 : Nat) : Int) - 1) = (j : Int) by omega]
        obtain ⟨b1, o1, rfl, _, hc1⟩ := HS.out.at_ (by omega)
        obtain ⟨b2, o2, rfl, _, hc2⟩ := HK.out.at_ (by omega)
        have c1 := hc1 j (by omega)
        have c2 := hc2 j (by omega)
        have hj1 : j < zs.length := by rw [HLN.out]; omega
        have hj2 : j < ys.length := by rw [HLM.out]; omega
        have hx : zs[j]?.getD 0 = zs[j] := by rw [List.getElem?_eq_getElem hj1]; rfl
        have hy : ys[j]?.getD 0 = ys[j] := by rw [List.getElem?_eq_getElem hj2]; rfl
        have D1 := Lib.hid (fun (hd : zs[j]?.getD 0 < ys[j]?.getD 0) => diff_lt (show (1 : Int) < 10000 by omega) HZ.out HY.out j hj1 hj2 HD (by rw [← hx, ← hy]; exact hd))
        have D2 := Lib.hid (fun (hd : ys[j]?.getD 0 < zs[j]?.getD 0) => diff_lt (show (1 : Int) < 10000 by omega) HY.out HZ.out j hj2 hj1 (show ys.drop (j + 1) = zs.drop (j + 1) from Eq.symm HD) (by rw [← hx, ← hy]; exact hd))
        have D3 := Lib.hid (fun (hd : zs[j]?.getD 0 = ys[j]?.getD 0) => show zs.drop j = ys.drop j by
          rw [List.drop_eq_getElem_cons hj1, List.drop_eq_getElem_cons hj2, ← hx, ← hy, hd, show zs.drop (j + 1) = ys.drop (j + 1) from HD])
        obtain ⟨x, hxe⟩ : ∃ x, x = zs[j]?.getD 0 := ⟨_, rfl⟩
        obtain ⟨y, hye⟩ : ∃ y, y = ys[j]?.getD 0 := ⟨_, rfl⟩
        rw [← hxe] at c1 D1 D2 D3
        rw [← hye] at c2 D1 D2 D3
        clear hc1 hc2 hx hy hxe hye
        rcases Int.lt_trichotomy x y with hxy | hxy | hxy
        · obtain rfl : R = -1 := by rw [HR.out, cmpI, if_pos (D1.out hxy)]
          clear hj1 hj2
          go_wp2
          go_quiet (fail)
          go_wp2
          go_ret
          exact ⟨rfl, _, World.drewN_drewN _ _ _⟩
        · have HQ := Lib.hid (D3.out hxy)
          subst hxy
          clear hj1 hj2
          go_wp2
          go_quiet (fail)
          go_wp2
          go_quiet (fail)
          go_wp2
          go_roundw
          case rel => exact ⟨j, _, by omega, by go_num, HQ.out, rfl⟩
          case measure => simp [intOf]
        · obtain rfl : R = 1 := by rw [HR.out, cmpI, if_neg (by have := D2.out hxy; omega), if_pos (D2.out hxy)]
          have hnl : ¬ x < y := by omega
          clear hj1 hj2
          go_wp2
          go_quiet (fail)
          go_wp2
          go_quiet (fail)
          go_wp2
          go_ret
          exact ⟨rfl, _, (by rw [World.drewN_drewN, World.drewN_drewN])⟩
  · obtain rfl : R = 1 := by rw [HR.out, cmpI, if_neg (by have := L2.out hgt; omega), if_pos (L2.out hgt)]
    have hnl : ¬ n < m := by omega
    go_enter Tryz.func45, Tryz.ntmps45
    go_wp2
    go_ret
    exact ⟨rfl, 0, rfl⟩
end Go.Proofs.YtgfhniiidejmoaaGreatDoor
