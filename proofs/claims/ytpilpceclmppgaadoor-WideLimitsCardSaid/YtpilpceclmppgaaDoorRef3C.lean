/- Contracts of the reference of wide: minus. -/
import Derived.Test.YtpilpceclmppgaaDoorRef3B
namespace Go.Proofs.YtpilpceclmppgaaDoor
open Go.RowKit
set_option linter.unusedVariables false

set_option maxRecDepth 100000 in
set_option maxHeartbeats 2000000 in
theorem minus_any (A E : Option Addr) (n c m f : Nat) (zs ys : List Int) (w : World) (h : Sl .i64 w w.heap.size A n zs) (k : Sl .i64 w w.heap.size E m ys) (hmn : m ≤ n) (hn : n ≤ 100000) (hz : Dig 10000 zs) (hy : Dig 10000 ys) (hle : dv 10000 ys ≤ dv 10000 zs) :
    Calls Tryd.prog 62 #[.slice A n c, .slice E m f] w fun e w' => OwnD w (dv 10000 zs - dv 10000 ys) e w' n := by
  obtain ⟨i0, hi, hz0, hz1, hz2⟩ := info_parts int_info
  have HLN := Lib.hid h.len
  have HLM := Lib.hid k.len
  have HS := Lib.hid h
  have HK := Lib.hid k
  have HZ := Lib.hid hz
  have HY := Lib.hid hy
  have HLE := Lib.hid hle
  clear h k hz hy hle
  go_enter Tryd.func62, Tryd.ntmps62
  go_wp2_with fail
  go_loopw [5, 6, 7] (fun o cv i wr => ∃ (k : Nat) (l : List Int) (cy : Int), k ≤ n ∧ i = .int .i64 k ∧ cv = .int .i64 cy ∧ (cy = 0 ∨ cy = 1) ∧ wr.ownsRow w.heap.size 3 1 o k (l.map (Value.int .i64)) ∧ Hid (l.length = k) ∧ Hid (Dig 10000 l) ∧ Hid (dv 10000 l - 10000 ^ k * cy = dv 10000 (zs.take k) - dv 10000 (ys.take k)) ∧ Below w.heap.size w wr) (fun _ _ i _ => n - (intOf i).toNat)
  case atStart => exact ⟨0, [], 0, by omega, rfl, rfl, .inl rfl, World.ownsRow_nil _ _ _ _, rfl, Dig.nil, by show dv 10000 [] - 10000 ^ 0 * 0 = dv 10000 (zs.take 0) - dv 10000 (ys.take 0); simp [dv], Below.refl _ _⟩
  case round =>
    obtain ⟨k, l, cy, hk, rfl, rfl, hcy, hown, HL, HD, HV, hb⟩ := hrel
    have HO := Lib.hid hown
    have HB := Lib.hid hb
    have HSW := Lib.hid ((HS.out.below hb).more hb.size)
    have HKW := Lib.hid ((HK.out.below hb).more hb.size)
    have hbs := hb.size
    have HCY := Lib.hid hcy
    have hcy0 : 0 ≤ cy ∧ cy ≤ 1 := by omega
    obtain ⟨hcy0, hcy1⟩ := hcy0
    clear hown hb hcy
    by_cases hlt : k < n
    · have hx := HZ.out.get (by omega) k
      have hy := HY.out.get (by omega) k
      obtain ⟨x, hxe⟩ : ∃ x, x = zs[k]?.getD 0 := ⟨_, rfl⟩
      obtain ⟨y, hye⟩ : ∃ y, y = ys[k]?.getD 0 := ⟨_, rfl⟩
      have hat := at_any A n c k zs wr HSW.out (by omega) (by omega)
      have hat2 := at_any E m f k ys wr HKW.out (by omega) (by omega)
      rw [← hxe] at hx hat
      rw [← hye] at hy hat2
      obtain ⟨hx0, hx1⟩ := hx
      obtain ⟨hy0, hy1⟩ := hy
      have HST := Lib.hid (fun v' c' hv' => minus_step (B := 10000) zs ys l k cy (x - y - cy) v' c' HL (by rw [hxe, hye]) hv' HV)
      have HAT := Lib.hid hat
      have HAT2 := Lib.hid hat2
      have hown := HO.out
      have hr1 : k + 1 ≤ maxLen := by unfold maxLen; omega
      have hr2 : (k + 1) * 8 ≤ 140737488355328 := by omega
      clear hxe hye hat hat2
      by_cases hneg : x - y - cy < 0
      · have E1 := Lib.hid (show l.map (Value.int .i64) ++ [Value.int .i64 (x - y - cy + 10000)] = (l ++ [x - y - cy + 10000]).map (Value.int .i64) by simp)
        go_wp2_with fail
        refine HAT.out.mono ?_
        rintro e w1 ⟨rfl, rfl⟩
        go_wp2_with fail
        refine HAT2.out.mono ?_
        rintro e w1 ⟨rfl, rfl⟩
        go_wp2_with (at_builtin; refine wpList_append_own _ rfl _ _ _ rfl w.heap.size 3 i0 _ 1 8 Tryd.underlying22 hi hz0 hz1 hz2 rfl (by omega) _ k (l.map (Value.int .i64)) rfl (hown.alloc _) ⟨wr.heap.size, 0, none⟩ 1 1 [.int .i64 (x - y - cy + 10000)] rfl rfl (cell_one_new _ _ _) (by simp [Value.oneCell']) hr1 hr2 (by simp; omega) ?_; intro v5 w5 hown5 hg5 hnil5; rw [E1.out] at hown5; have HB5 := Lib.hid ((HB.out.alloc HB.out.size _).trans (below_of_grown hg5 (by simp; omega) (fun g hg => (hown.lt g hg).1))); have O5 := Lib.hid hown5; clear hown5 hg5 hnil5)
        go_wp2_with fail
        have HD5 := HD.app (Dig.cons (B := 10000) (d := x - y - cy + 10000) (t := []) (by omega) Dig.nil)
        have HL5 : (l ++ [x - y - cy + 10000]).length = k + 1 := by rw [List.length_append, HL]; rfl
        have HV5 := HST.out (x - y - cy + 10000) 1 (by omega)
        first
          | (go_roundw
             case rel => exact ⟨k + 1, l ++ [x - y - cy + 10000], 1, by omega, by go_num, rfl, .inr rfl, O5.out, HL5, HD5, HV5, HB5.out⟩
             case measure => simp [intOf]; omega)
          | exact ⟨⟨k + 1, l ++ [x - y - cy + 10000], 1, by omega, by go_num, rfl, .inr rfl, O5.out, HL5, HD5, HV5, HB5.out⟩, by simp [intOf]; omega⟩
      · have E1 := Lib.hid (show l.map (Value.int .i64) ++ [Value.int .i64 (x - y - cy)] = (l ++ [x - y - cy]).map (Value.int .i64) by simp)
        go_wp2_with fail
        refine HAT.out.mono ?_
        rintro e w1 ⟨rfl, rfl⟩
        go_wp2_with fail
        refine HAT2.out.mono ?_
        rintro e w1 ⟨rfl, rfl⟩
        go_wp2_with (at_builtin; refine wpList_append_own _ rfl _ _ _ rfl w.heap.size 3 i0 _ 1 8 Tryd.underlying22 hi hz0 hz1 hz2 rfl (by omega) _ k (l.map (Value.int .i64)) rfl (hown.alloc _) ⟨wr.heap.size, 0, none⟩ 1 1 [.int .i64 (x - y - cy)] rfl rfl (cell_one_new _ _ _) (by simp [Value.oneCell']) hr1 hr2 (by simp; omega) ?_; intro v5 w5 hown5 hg5 hnil5; rw [E1.out] at hown5; have HB5 := Lib.hid ((HB.out.alloc HB.out.size _).trans (below_of_grown hg5 (by simp; omega) (fun g hg => (hown.lt g hg).1))); have O5 := Lib.hid hown5; clear hown5 hg5 hnil5)
        go_wp2_with fail
        have HD5 := HD.app (Dig.cons (B := 10000) (d := x - y - cy) (t := []) (by omega) Dig.nil)
        have HL5 : (l ++ [x - y - cy]).length = k + 1 := by rw [List.length_append, HL]; rfl
        have HV5 := HST.out (x - y - cy) 0 (by omega)
        first
          | (go_roundw
             case rel => exact ⟨k + 1, l ++ [x - y - cy], 0, by omega, by go_num, rfl, .inl rfl, O5.out, HL5, HD5, HV5, HB5.out⟩
             case measure => simp [intOf]; omega)
          | exact ⟨⟨k + 1, l ++ [x - y - cy], 0, by omega, by go_num, rfl, .inl rfl, O5.out, HL5, HD5, HV5, HB5.out⟩, by simp [intOf]; omega⟩
    · obtain rfl : k = n := by omega
      have HF := Lib.hid (show dv 10000 l = dv 10000 zs - dv 10000 ys by
        have e1 : zs.take k = zs := List.take_of_length_le (by rw [HLN.out]; omega)
        have e2 : ys.take k = ys := List.take_of_length_le (by rw [HLM.out]; omega)
        have e3 : dv 10000 l - 10000 ^ k * cy = dv 10000 (zs.take k) - dv 10000 (ys.take k) := HV
        rw [e1, e2] at e3
        have hL : l.length = k := HL
        rw [← hL] at e3
        exact minus_end (by omega) l cy _ HD HCY.out (by have := HLE.out; omega) e3)
      go_wp2_with fail
      go_ret
      have hL : l.length = k := HL
      subst hL
      exact ⟨_, l, rfl, HO.out, HB.out, HD, HF.out, Nat.le_refl _⟩
end Go.Proofs.YtpilpceclmppgaaDoor
