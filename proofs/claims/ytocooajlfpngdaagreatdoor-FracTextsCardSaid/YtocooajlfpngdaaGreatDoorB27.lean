/- Contracts of the reference: Parse. · Contracts of the reference: Pick, Bound, Number, Near. · Contracts of the reference: Near. -/
import Derived.Test.YtocooajlfpngdaaGreatDoorB26
import Derived.Test.YtocooajlfpngdaaGreatDoorB04
namespace Go.Proofs.YtocooajlfpngdaaGreatDoor
open Go.RowKit
set_option linter.unusedVariables false

theorem byteArray_ext {a b : ByteArray} (h : a.data.toList = b.data.toList) : a = b := by
  cases a; cases b
  congr 1
  exact Array.toList_inj.1 h
theorem str_len (s : ByteArray) : s.data.toList.length = s.size := rfl
theorem str_get (s : ByteArray) (i : Nat) (h : i < s.size) : s.data.toList[i]'(by rw [str_len]; exact h) = s[i] := rfl
theorem extract_tail (s : ByteArray) : (s.extract 1 s.size).data.toList = s.data.toList.tail := by
  rw [ByteArray.data_extract, Array.toList_extract]
  show (s.data.toList.drop 1).take (s.size - 1) = _
  rw [List.take_of_length_le (by rw [List.length_drop, str_len]; exact Nat.le_refl _)]
  exact List.drop_one
theorem isD_get (b : UInt8) : isD b = decide (¬ (b.toNat : Int) < 48 ∧ ¬ 57 < (b.toNat : Int)) := by
  unfold isD
  rw [Bool.eq_iff_iff, decide_eq_true_iff, decide_eq_true_iff]
  omega
/-- digits gathered in groups of four, from the last one on -/
def GrpI (t : List UInt8) (k : Nat) (L : List Int) : Prop := L.length = k ∧ Dig 10000 L ∧ dv 10000 L = valT (t.drop (t.length - 4 * k)) ∧ (0 < k → 4 * (k - 1) < t.length)
theorem valT_take {t : List UInt8} (hd : ∀ b ∈ t, isD b = true) (n : Nat) : 0 ≤ valT (t.take n) ∧ valT (t.take n) < 10 ^ n := by
  obtain ⟨h0, h1⟩ := valT_bd (l := t.take n) (fun b hb => hd b (List.mem_of_mem_take hb))
  have h2 := pow_mono' (show (0 : Int) < 10 by omega) (show (t.take n).length ≤ n by rw [List.length_take]; omega)
  exact ⟨h0, by omega⟩
theorem GrpI.step {t : List UInt8} {k e' : Nat} {L : List Int} (h : GrpI t k L) (hd : ∀ b ∈ t, isD b = true) (hk : 4 * k < t.length) (he : e' = t.length - 4 * (k + 1)) :
    GrpI t (k + 1) (L ++ [valT ((t.drop e').take (t.length - 4 * k - e'))]) ∧ 0 ≤ valT ((t.drop e').take (t.length - 4 * k - e')) ∧ valT ((t.drop e').take (t.length - 4 * k - e')) < 10000 := by
  obtain ⟨h1, h2, h3, h4⟩ := h
  have hb := valT_take (t := t.drop e') (fun b hb => hd b (List.mem_of_mem_drop hb)) (t.length - 4 * k - e')
  have hp := pow_mono' (show (0 : Int) < 10 by omega) (show t.length - 4 * k - e' ≤ 4 by omega)
  have h10 : (10 : Int) ^ 4 = 10000 := by decide
  rw [h10] at hp
  refine ⟨⟨by simp [h1], h2.app (Dig.cons ⟨hb.1, by omega⟩ Dig.nil), ?_, fun _ => by omega⟩, hb.1, by omega⟩
  have e1 : t.drop e' = (t.drop e').take (t.length - 4 * k - e') ++ t.drop (t.length - 4 * k) := by
    conv => lhs; rw [← List.take_append_drop (t.length - 4 * k - e') (t.drop e')]
    rw [List.drop_drop, show e' + (t.length - 4 * k - e') = t.length - 4 * k by omega]
  rw [dv_snoc, h3, h1, ← he]
  conv => rhs; rw [e1]
  rw [valT_app, List.length_drop, show t.length - (t.length - 4 * k) = 4 * k by omega, Int.pow_mul]
  rfl

theorem valT_piece {t : List UInt8} {e' i : Nat} {b : UInt8} (h : t[i]? = some b) (hi : e' ≤ i) : valT ((t.drop e').take (i + 1 - e')) = 10 * valT ((t.drop e').take (i - e')) + dg b := by
  have e : (t.drop e').take (i + 1 - e') = (t.drop e').take (i - e') ++ [b] := by
    rw [show i + 1 - e' = (i - e') + 1 by omega, List.take_add_one, List.getElem?_drop, show e' + (i - e') = i by omega, h]
    rfl
  rw [e, valT_snoc]
def ParsePost (l : List UInt8) (w : World) (e : Ending) (w' : World) : Prop := ∃ v, e = .returned (.tuple #[v, .int .i64 ((parseT l).2 : Int)]) ∧ RepN w' w'.heap.size (parseT l).1 v ∧ Below w.heap.size w w'
theorem ParsePost.mk {l : List UInt8} {z : Int} {n : Nat} (hp : parseT l = (z, n)) {w w' : World} {v : Value} (hr : RepN w' w'.heap.size z v) (hb : Below w.heap.size w w') (k : Int) (hk : k = (n : Int)) : ParsePost l w (.returned (.tuple #[v, .int .i64 k])) w' :=
  ⟨v, by rw [hp, hk], by rw [hp]; exact hr, hb⟩
theorem RepN.nil (w : World) (B : Nat) : RepN w B 0 (.agg #[.bool false, .slice none 0 0]) := ⟨none, 0, 0, [], rfl, Sl.nil _ _ _ _, Nat.le_refl _, by unfold maxLen; omega, fun _ => rfl, Dig.nil, by simp [Top], rfl⟩
set_option maxRecDepth 100000 in
set_option maxHeartbeats 8000000 in
theorem parse_any (s : ByteArray) (w : World) (hs : s.size ≤ maxLen) :
    Calls Tryz.prog 87 #[.string s] w (ParsePost s.data.toList w) := by
  unfold maxLen at hs
  obtain ⟨i0, hi, hz0, hz1, hz2⟩ := info_parts int_info
  obtain ⟨l, hl⟩ : ∃ l, l = s.data.toList := ⟨_, rfl⟩
  rw [← hl]
  have HLL := Lib.hid hl
  have hsl : s.size = l.length := by rw [hl]; rfl
  obtain ⟨W, hW⟩ : ∃ W, W = w.alloc (.cells #[.bool false, .slice none 0 0] 24) := ⟨_, rfl⟩
  have hal : Below w.heap.size w W := by rw [hW]; exact (Below.refl _ _).alloc (Nat.le_refl _) _
  have hk : Blk2 W w.heap.size 24 (.bool false) (.slice none 0 0) := by rw [hW]; exact Blk2.new _ _ _ _
  have HAL := Lib.hid hal
  have HK := Lib.hid hk
  have HW := Lib.hid hW
  have f0 := hk.f0
  have f1 := hk.f1
  have c0 := hk.c0
  have c1 := hk.c1
  have hset : (W.setCell ⟨w.heap.size, 0, none⟩ (.bool false)).setCell ⟨w.heap.size, 1, none⟩ (.slice none 0 0) = (W.setCell ⟨w.heap.size, 0, none⟩ (.bool false)).setCell ⟨w.heap.size, 1, none⟩ (.slice none 0 0) := rfl
  have HBS := Lib.hid (below_set2 (u := .bool false) (v := .slice none 0 0) hal (Nat.le_refl _))
  clear hl hal hk hW hset
  by_cases hlong : 5000 < s.size
  · have hlong' : 5000 < (s.size : Int) := by omega
    have HF := Lib.hid (ParsePost.mk (parse_long (by rw [← hsl]; exact hlong)) (RepN.nil _ _) HBS.out 4 rfl)
    clear hsl
    go_enter Tryz.func87, Tryz.ntmps87
    go_upto_region 1 with (fail)
    rw [← HW.out]
    go_wp2_with fail
    exact bodyPost_ret (v := .tuple #[.agg #[.bool false, .slice none 0 0], .int .i64 4]) (by simp [results, Tryz.results87, go_sem, c0, c1]) rfl HF.out
  · have hlong' : ¬ 5000 < (s.size : Int) := by omega
    have hl5 : l.length ≤ 5000 := by omega
    have HF2 := Lib.hid (fun (hp : parseT l = (0, 2)) => ParsePost.mk hp (RepN.nil _ _) HBS.out 2 rfl)
    have HSL := Lib.hid hsl
    clear hsl hlong
    go_enter Tryz.func87, Tryz.ntmps87
    go_upto_region 1 with (fail)
    rw [← HW.out]
    go_upto_region 3 with (fail)
    go_cut [4] (fun v wx => v = .bool (negT l) ∧ wx = W)
    case first =>
      by_cases he : 0 < s.size
      · have HNT : Hid (negT l = decide ((s[0].toNat : Int) = 45)) := by
          show negT l = decide ((s[0].toNat : Int) = 45)
          unfold negT
          rw [HLL.out, List.head?_eq_getElem?, List.getElem?_eq_getElem (by rw [str_len]; exact he), str_get s 0 he]
          rw [Bool.eq_iff_iff, decide_eq_true_iff, beq_iff_eq, Option.some.injEq, ← UInt8.toNat_inj]
          show s[0].toNat = 45 ↔ _
          omega
        by_cases h45 : (s[0].toNat : Int) = 45
        · have h45b : ((s[0].toNat : Int) == 45) = true := by simpa using h45
          go_wp2_with fail
          go_meet
          case rel => exact ⟨by rw [HNT.out, decide_eq_true h45], rfl⟩
        · have h45b : ((s[0].toNat : Int) == 45) = false := by simpa using h45
          go_wp2_with fail
          go_meet
          case rel => exact ⟨by rw [HNT.out, decide_eq_false h45], rfl⟩
      · have he' : ¬ 0 < (s.size : Int) := by omega
        have HNT : Hid (negT l = false) := by
          show negT l = false
          have : l = [] := List.eq_nil_of_length_eq_zero (by have := HSL.out; omega)
          rw [this]; rfl
        go_wp2_with fail
        go_meet
        case rel => exact ⟨by rw [HNT.out], rfl⟩
    case rest =>
      obtain ⟨rfl, rfl⟩ := hcut
      obtain ⟨neg, hneg⟩ : ∃ neg, neg = negT l := ⟨_, rfl⟩
      rw [← hneg]
      have HNEG := Lib.hid hneg
      clear hneg
      go_upto_if 26 with (fail)
      go_cut [5] (fun v wx => ∃ t : ByteArray, v = .string t ∧ Hid (t.data.toList = dsT l) ∧ wx = wc)
      case first =>
        cases neg
        · have HT : Hid (s.data.toList = dsT l) := by show s.data.toList = dsT l; unfold dsT; rw [← HNEG.out, if_neg (by simp), HLL.out]
          go_wp2_with fail
          go_meet
          case rel => exact ⟨s, rfl, HT.out, rfl⟩
        · have HT : Hid ((s.extract 1 s.size).data.toList = dsT l) := by show (s.extract 1 s.size).data.toList = dsT l; unfold dsT; rw [← HNEG.out, if_pos rfl, extract_tail, HLL.out]
          have hp : 0 < s.size := by
            have h := HNEG.out
            rcases Nat.eq_zero_or_pos s.size with h0 | h0
            · have : l = [] := List.eq_nil_of_length_eq_zero (by have := HSL.out; omega)
              rw [this] at h
              cases h
            · exact h0
          have hp' : 1 ≤ (s.size : Int) := by omega
          go_wp2_with fail
          go_meet
          case rel => exact ⟨_, rfl, HT.out, rfl⟩
      case rest =>
        obtain ⟨t, rfl, HT, rfl⟩ := hcut
        have htl : t.size = (dsT l).length := by rw [← HT.out]; rfl
        have htl5 : t.size ≤ 5000 := by have := ds_len l; omega
        have HTL := Lib.hid htl
        clear htl
        go_upto_region 7 with (fail)
        go_cut [44] (fun v wx => v = .bool (badT neg (dsT l)) ∧ wx = wc)
        case first =>
          by_cases he : t.size = 0
          · have hb : Hid (badT neg (dsT l) = true) := by
              show badT neg (dsT l) = true
              have : dsT l = [] := List.eq_nil_of_length_eq_zero (by rw [← HTL.out]; exact he)
              rw [this]; rfl
            have he' : ((t.size : Int) == 0) = true := by simp [he]
            go_wp2_with fail
            go_meet
            case rel => exact ⟨by rw [hb.out], rfl⟩
          · have he' : ((t.size : Int) == 0) = false := beq_eq_false_iff_ne.2 (by omega)
            have hp : 0 < t.size := by omega
            have HH : Hid ((dsT l).head? = some t[0]) := by
              show (dsT l).head? = some t[0]
              rw [← HT.out, List.head?_eq_getElem?, List.getElem?_eq_getElem (by rw [str_len]; exact hp), str_get t 0 hp]
            have HE : Hid ((dsT l).isEmpty = false) := by
              show (dsT l).isEmpty = false
              rw [List.isEmpty_eq_false_iff]
              intro e
              have h2 : t.size = 0 := by rw [HTL.out, e]; rfl
              exact he h2
            by_cases h48 : (t[0].toNat : Int) = 48
            · have h48b : ((t[0].toNat : Int) == 48) = true := by simpa using h48
              have HQ : Hid (((dsT l).head? == some 48) = true) := by
                show ((dsT l).head? == some 48) = true
                rw [HH.out, beq_iff_eq, Option.some.injEq, ← UInt8.toNat_inj]
                show t[0].toNat = 48
                omega
              cases neg
              · by_cases h1 : 1 < t.size
                · have h1' : decide (1 < (t.size : Int)) = true := decide_eq_true (by omega)
                  have hb : Hid (badT false (dsT l) = true) := by show badT false (dsT l) = true; unfold badT; rw [HE.out, HQ.out, ← HTL.out, decide_eq_true h1]; rfl
                  go_wp2_with fail
                  go_meet
                  case rel => exact ⟨by rw [hb.out], rfl⟩
                · have h1' : decide (1 < (t.size : Int)) = false := decide_eq_false (by omega)
                  have hb : Hid (badT false (dsT l) = false) := by show badT false (dsT l) = false; unfold badT; rw [HE.out, HQ.out, ← HTL.out, decide_eq_false h1]; rfl
                  go_wp2_with fail
                  go_meet
                  case rel => exact ⟨by rw [hb.out], rfl⟩
              · have hb : Hid (badT true (dsT l) = true) := by show badT true (dsT l) = true; unfold badT; rw [HE.out, HQ.out]; rfl
                go_wp2_with fail
                go_meet
                case rel => exact ⟨by rw [hb.out], rfl⟩
            · have h48b : ((t[0].toNat : Int) == 48) = false := by simpa using h48
              have hb : Hid (badT neg (dsT l) = false) := by
                show badT neg (dsT l) = false
                have hq : ((dsT l).head? == some 48) = false := by
                  rw [HH.out, beq_eq_false_iff_ne]
                  intro e
                  rw [Option.some.injEq, ← UInt8.toNat_inj] at e
                  have e2 : t[0].toNat = 48 := e
                  omega
                unfold badT; rw [HE.out, hq]; rfl
              go_wp2_with fail
              go_meet
              case rel => exact ⟨by rw [hb.out], rfl⟩
        case rest =>
          obtain ⟨rfl, rfl⟩ := hcut
          cases hbad : badT neg (dsT l)
          rotate_left
          · have HB := Lib.hid (parse_bad hl5 (by rw [← HNEG.out]; exact hbad))
            clear hbad
            go_wp2_with fail
            exact bodyPost_ret (v := .tuple #[.agg #[.bool false, .slice none 0 0], .int .i64 2]) (by simp [results, Tryz.results87, go_sem, c0, c1]) rfl (HF2.out HB.out)
          · have HBAD := Lib.hid hbad
            clear hbad
            go_wp2_with fail
            go_loopw [6] (fun iv wr => ∃ i : Nat, i ≤ t.size ∧ iv = .int .i64 i ∧ Hid (∀ b ∈ (dsT l).take i, isD b = true) ∧ wr = wc) (fun iv _ => t.size - (intOf iv).toNat)
            case atStart => exact ⟨0, Nat.zero_le _, rfl, by intro b hb; simp at hb, rfl⟩
            case round =>
              obtain ⟨i, hit, rfl, HI, rfl⟩ := hrel
              by_cases hlt : i < t.size
              · have HG : Hid ((dsT l)[i]? = some t[i]) := by
                  show (dsT l)[i]? = some t[i]
                  rw [← HT.out, List.getElem?_eq_getElem (by rw [str_len]; exact hlt), str_get t i hlt]
                have HDD : Hid (isD t[i] = false → parseT l = (0, 2)) := fun h => parse_sign hl5 i (by rw [← HTL.out]; exact hlt) (by have h2 := HG.out; rw [List.getElem?_eq_getElem (by rw [← HTL.out]; exact hlt)] at h2; injection h2 with h2; rw [h2]; exact h)
                have HDG := Lib.hid (isD_get t[i])
                by_cases ha : (t[i].toNat : Int) < 48
                · have ha' : decide ((t[i].toNat : Int) < 48) = true := decide_eq_true ha
                  have HB : Hid (parseT l = (0, 2)) := HDD.out (by rw [HDG.out]; exact decide_eq_false (by omega))
                  go_wp2_with fail
                  exact bodyPost_ret (v := .tuple #[.agg #[.bool false, .slice none 0 0], .int .i64 2]) (by simp [results, Tryz.results87, go_sem, c0, c1]) rfl (HF2.out HB.out)
                · have ha' : decide ((t[i].toNat : Int) < 48) = false := decide_eq_false ha
                  by_cases hc : 57 < (t[i].toNat : Int)
                  · have hc' : decide (57 < (t[i].toNat : Int)) = true := decide_eq_true hc
                    have HB : Hid (parseT l = (0, 2)) := HDD.out (by rw [HDG.out]; exact decide_eq_false (by omega))
                    go_wp2_with fail
                    exact bodyPost_ret (v := .tuple #[.agg #[.bool false, .slice none 0 0], .int .i64 2]) (by simp [results, Tryz.results87, go_sem, c0, c1]) rfl (HF2.out HB.out)
                  · have hc' : decide (57 < (t[i].toNat : Int)) = false := decide_eq_false hc
                    have HI2 : Hid (∀ b ∈ (dsT l).take (i + 1), isD b = true) := by
                      intro b hb
                      rw [List.take_add_one, HG.out] at hb
                      rcases List.mem_append.1 hb with h | h
                      · exact HI.out b h
                      · simp at h
                        rw [h, HDG.out]; exact decide_eq_true ⟨ha, hc⟩
                    go_wp2_with fail
                    first
                      | exact ⟨⟨i + 1, by omega, by go_num, HI2.out, rfl⟩, by simp [intOf]; omega⟩
                      | (go_roundw
                         case rel => exact ⟨i + 1, by omega, by go_num, HI2.out, by first | rfl | trivial⟩
                         case measure => simp [intOf]; omega)
              · obtain rfl : i = t.size := by omega
                have HALL : Hid (∀ b ∈ dsT l, isD b = true) := by
                  intro b hb
                  exact HI.out b (by rw [HTL.out, List.take_of_length_le (Nat.le_refl _)]; exact hb)
                clear HI
                have HB0 := Lib.hid HAL.out
                go_wp2_with fail
                go_loopw [7, 8] (fun dd ev wx => ∃ (k : Nat) (L : List Int), k ≤ 2000 ∧ ev = .int .i64 ((t.size : Int) - 4 * (k : Int)) ∧ wx.ownsRow (w.heap.size + 1) 3 1 dd k (L.map (Value.int .i64)) ∧ Hid (GrpI (dsT l) k L) ∧ Hid (Blk2 wx w.heap.size 24 (.bool false) (.slice none 0 0)) ∧ Below w.heap.size w wx) (fun _ ev _ => (intOf ev).toNat)
                case atStart => exact ⟨0, [], by omega, by first | rfl | (congr 1; omega) | simp, World.ownsRow_nil _ _ _ _, ⟨rfl, Dig.nil, by rw [Nat.mul_zero, Nat.sub_zero, List.drop_of_length_le (Nat.le_refl _)]; rfl, fun h => by omega⟩, HK.out, HAL.out⟩
                case round =>
                  clear HBS HF2 HB0 c0 c1 f0 f1
                  rename World => wr
                  obtain ⟨k, L, hk2, rfl, hown, HI, HKB, hb⟩ := hrel
                  have HO := Lib.hid hown
                  have HB := Lib.hid hb
                  have hhs := HKB.out.lt
                  by_cases hpos : 4 * k < t.size
                  · obtain ⟨E, hE⟩ : ∃ E, E = t.size - 4 * k := ⟨_, rfl⟩
                    obtain ⟨e', he'⟩ : ∃ e', e' = t.size - 4 * (k + 1) := ⟨_, rfl⟩
                    rw [show ((t.size : Int) - 4 * (k : Int)) = (E : Int) by omega]
                    have hE0 : 0 < E := by omega
                    have hE5 : E ≤ 5000 := by omega
                    have heE : e' = E - 4 := by omega
                    obtain ⟨hst, hv0, hv1⟩ := HI.out.step (e' := e') HALL.out (by rw [← HTL.out]; exact hpos) (by rw [← HTL.out]; exact he')
                    rw [← HTL.out, ← hE] at hst hv0 hv1
                    have HST := Lib.hid hst
                    have HEE := Lib.hid (show (t.size : Int) - 4 * ((k + 1 : Nat) : Int) = (E : Int) - 4 by omega)
                    have HV0 := Lib.hid hv0
                    have HV1 := Lib.hid hv1
                    have hEs : E ≤ t.size := by omega
                    have hk3 : k + 1 ≤ 2000 := by omega
                    clear hown hb hst hv0 hv1 hE he' hpos
                    go_upto_region 19 with (fail)
                    go_cut [10] (fun v wx => v = .int .i64 (e' : Int) ∧ wx = wr)
                    case first =>
                      by_cases h4 : 4 < E
                      · have h4a : 0 < (E : Int) - 4 := by omega
                        go_wp2_with fail
                        go_meet
                        case rel => exact ⟨by congr 1; omega, rfl⟩
                      · have h4a : ¬ 0 < (E : Int) - 4 := by omega
                        go_wp2_with fail
                        go_meet
                        case rel => exact ⟨by congr 1; omega, rfl⟩
                    case rest =>
                      obtain ⟨rfl, rfl⟩ := hcut
                      go_wp2_with fail
                      go_loopw [9, 10] (fun vv iv wx => ∃ i : Nat, e' ≤ i ∧ i ≤ E ∧ iv = .int .i64 (i : Int) ∧ vv = .int .i64 (valT (((dsT l).drop e').take (i - e'))) ∧ wx = wc) (fun _ iv _ => E - (intOf iv).toNat)
                      case atStart => exact ⟨e', Nat.le_refl _, by omega, rfl, by rw [Nat.sub_self]; rfl, rfl⟩
                      case round =>
                        obtain ⟨i, hi1, hi2, rfl, rfl, rfl⟩ := hrel
                        by_cases hlt : i < E
                        · have hit : i < t.size := by omega
                          have HG : Hid ((dsT l)[i]? = some t[i]) := by
                            show (dsT l)[i]? = some t[i]
                            rw [← HT.out, List.getElem?_eq_getElem (by rw [str_len]; exact hit), str_get t i hit]
                          have hDi : isD t[i] = true := HALL.out _ (List.mem_of_getElem? HG.out)
                          rw [isD_iff] at hDi
                          have hp := valT_piece HG.out hi1
                          have hb4 := valT_take (t := (dsT l).drop e') (fun b hb => HALL.out b (List.mem_of_mem_drop hb)) (i - e')
                          have hp4 := pow_mono' (show (0 : Int) < 10 by omega) (show i - e' ≤ 4 by omega)
                          rw [show (10 : Int) ^ 4 = 10000 by decide] at hp4
                          obtain ⟨V, hV⟩ : ∃ V, V = valT (((dsT l).drop e').take (i - e')) := ⟨_, rfl⟩
                          rw [← hV] at hp hb4 ⊢
                          have hV0 : 0 ≤ V := hb4.1
                          have hV1 : V ≤ 10000 := by omega
                          have hd0 : 48 ≤ (t[i].toNat : Int) := by omega
                          have hd1 : (t[i].toNat : Int) ≤ 57 := by omega
                          have HP := Lib.hid hp
                          clear hp hb4 hp4 hV hDi
                          go_wp2_with fail
                          exact ⟨⟨i + 1, by omega, by omega, by go_num, by rw [HP.out]; rfl, trivial⟩, by simp [intOf]; omega⟩
                        · obtain rfl : i = E := by omega
                          obtain ⟨V, hV⟩ : ∃ V, V = valT (((dsT l).drop e').take (i - e')) := ⟨_, rfl⟩
                          rw [← hV] at HV0 HV1 HST ⊢
                          clear hV
                          have hv0 := HV0.out
                          have hv1 := HV1.out
                          have E1 := Lib.hid (show L.map (Value.int .i64) ++ [Value.int .i64 V] = (L ++ [V]).map (Value.int .i64) by simp)
                          have hr1 : k + 1 ≤ maxLen := by unfold maxLen; omega
                          have hr2 : (k + 1) * 8 ≤ 140737488355328 := by omega
                          have hown := HO.out
                          go_wp2_with (at_builtin; refine wpList_append_own _ rfl _ _ _ rfl (w.heap.size + 1) 3 i0 _ 1 8 Tryz.underlying22 hi hz0 hz1 hz2 rfl (by omega) _ k (L.map (Value.int .i64)) rfl (hown.alloc _) ⟨_, 0, none⟩ 1 1 [.int .i64 V] rfl rfl (cell_one_new _ _ _) (by simp [Value.oneCell']) hr1 hr2 (by simp; omega) ?_; intro v5 w5 hown5 hg5 hnil5; rw [E1.out] at hown5; have HB5 := Lib.hid ((HB.out.alloc HB.out.size _).trans (below_of_grown hg5 (by simp; omega) (fun g hg => by have := (hown.lt g hg).1; omega))); have HK5 := Lib.hid ((HKB.out.below ((Below.refl _ _).alloc (Nat.le_refl _) _)).grown hg5 (fun e => by have := (hown.lt w.heap.size e.symm).1; omega)); have O5 := Lib.hid hown5; clear hown5 hg5 hnil5)
                          go_wp2_with fail
                          exact ⟨⟨k + 1, L ++ [V], by omega, by rw [HEE.out], O5.out, HST.out, HK5.out, HB5.out⟩, by simp [intOf]; omega⟩
                  · have hneg : ¬ 0 < (t.size : Int) - 4 * (k : Int) := by omega
                    obtain ⟨A5, c5, rfl, s1, s2, s3, s4⟩ := own_parts HO.out
                    have hdv : dv 10000 L = valT (dsT l) := by rw [HI.out.2.2.1, ← HTL.out, show t.size - 4 * k = 0 by omega]; rfl
                    have HN := Lib.hid (normal_any neg A5 k c5 wr.heap.size L wr s3 (Nat.le_refl _) s1 s2 s4 HI.out.2.1)
                    rw [hdv] at HN
                    have hv0 := (valT_bd HALL.out).1
                    have HVB := Lib.hid (bits_valT HALL.out (by rw [← HTL.out]; exact htl5))
                    have HPG := Lib.hid (parse_good hl5 (by rw [← HNEG.out]; exact HBAD.out) HALL.out)
                    rw [← HNEG.out] at HPG
                    obtain ⟨Z, hZ⟩ : ∃ Z, Z = (if neg = true then -valT (dsT l) else valT (dsT l)) := ⟨_, rfl⟩
                    obtain ⟨KB, hKB, hZb⟩ : ∃ KB, KB ≤ 60000 ∧ Bits KB Z := ⟨20000, by omega, by rw [hZ]; exact bits_ite HVB.out⟩
                    have hZn : (Z.natAbs : Int) = valT (dsT l) := by rw [hZ]; split <;> omega
                    have HZ := Lib.hid hZ
                    have HZB := Lib.hid hZb
                    have HZN := Lib.hid hZn
                    rw [← hZ] at HN
                    clear hown hb s1 s2 s3 s4 hdv hv0 hZ hZb hZn HVB
                    go_wp2_with fail
                    refine HN.out.mono ?_
                    rintro e w6 h6
                    obtain ⟨v6, rfl, r6, b6⟩ := h6
                    obtain ⟨d6, A6, n6, c6, rfl⟩ := r6.shape
                    obtain ⟨W7, hW7⟩ : ∃ W7, W7 = w6.alloc (.cells #[.bool d6, .slice A6 n6 c6] 24) := ⟨_, rfl⟩
                    obtain ⟨gx, hgx⟩ : ∃ gx, gx = w6.heap.size := ⟨_, rfl⟩
                    have hal7 : Below w6.heap.size w6 W7 := by rw [hW7]; exact (Below.refl _ _).alloc (Nat.le_refl _) _
                    have HX7 : Hid (Blk2 W7 gx 24 (.bool d6) (.slice A6 n6 c6)) := by rw [hW7, hgx]; exact Blk2.new _ _ _ _
                    have HR7 := Lib.hid (((r6.more b6.size).below hal7).more hal7.size)
                    have HK7 := Lib.hid ((HKB.out.below b6).below hal7)
                    have HB7 := Lib.hid ((HB.out.trans (b6.mono HB.out.size)).trans (hal7.mono (Nat.le_trans HB.out.size b6.size)))
                    have HFT := Lib.hid (fits_any Z _ W7 HR7.out (HZB.out.mono (by omega)))
                    have hgl : w.heap.size < gx := by rw [hgx]; exact (HKB.out.below b6).lt
                    have HW7 := Lib.hid hW7
                    have HGX := Lib.hid hgx
                    have x0 := HX7.out.c0
                    have x1 := HX7.out.c1
                    obtain ⟨F, hF⟩ : ∃ F, F = decide ((Z.natAbs : Int) < lim) := ⟨_, rfl⟩
                    rw [← hF] at HFT
                    have HFF := Lib.hid hF
                    clear r6 b6 hal7 hW7 hgx HN HB HKB HO HI hF
                    go_upto_region 25 with (fail)
                    rw [← HW7.out, ← HGX.out]
                    go_wp2_with fail
                    refine HFT.out.mono ?_
                    rintro e w8 h8
                    obtain ⟨rfl, b8⟩ := h8
                    have hk8 := HK7.out.below b8
                    have hx8 := HX7.out.below b8
                    have hr8 := (HR7.out.below b8).more b8.size
                    have hb8 := HB7.out.trans (b8.mono HB7.out.size)
                    have c0 := hk8.c0
                    have c1 := hk8.c1
                    have f0 := hk8.f0
                    have f1 := hk8.f1
                    have y0 := hx8.c0
                    have y1 := hx8.c1
                    cases F
                    · have hlim : lim ≤ valT (dsT l) := by have h := of_decide_eq_false (p := (Z.natAbs : Int) < lim) HFF.out.symm; have := HZN.out; omega
                      have HF := Lib.hid (ParsePost.mk (by rw [HPG.out, if_pos hlim]) (RepN.nil _ _) (below_set2 (u := .bool false) (v := .slice none 0 0) hb8 (Nat.le_refl _)) 4 rfl)
                      clear hk8 hx8 hr8 hb8 hlim x0 x1
                      go_wp2_with fail
                      exact bodyPost_ret (v := .tuple #[.agg #[.bool false, .slice none 0 0], .int .i64 4]) (by simp [results, Tryz.results87, go_sem, c0, c1]) rfl HF.out
                    · have hlim : ¬ lim ≤ valT (dsT l) := by have h := of_decide_eq_true (p := (Z.natAbs : Int) < lim) HFF.out.symm; have := HZN.out; omega
                      have HF := Lib.hid (ParsePost.mk (l := l) (z := Z) (n := 0) (by rw [HPG.out, if_neg hlim]; rw [HZ.out]; rfl) (by rw [size_set2]; exact hr8.stored (u := .bool d6) (u' := .slice A6 n6 c6) hk8) (below_set2 (u := .bool d6) (v := .slice A6 n6 c6) hb8 (Nat.le_refl _)) 0 rfl)
                      clear hk8 hx8 hr8 hb8 hlim x0 x1
                      go_wp2_with fail
                      exact bodyPost_ret (v := .tuple #[.agg #[.bool d6, .slice A6 n6 c6], .int .i64 0]) (by simp [results, Tryz.results87, go_sem, c0, c1]) rfl HF.out
end Go.Proofs.YtocooajlfpngdaaGreatDoor
namespace Go.Proofs.YtocooajlfpngdaaGreatDoor
open Go.RowKit
set_option linter.unusedVariables false

/-- a slice of ints as it came in -/
def InI (w : World) (A : Option Addr) (n : Nat) (zs : List Int) : Prop := Sl .i64 w w.heap.size A n zs ∧ ∀ z ∈ zs, -9223372036854775808 ≤ z ∧ z ≤ 9223372036854775807
theorem InI.below {w w' : World} {A : Option Addr} {n : Nat} {zs : List Int} (h : InI w A n zs) (hb : Below w.heap.size w w') : InI w' A n zs := ⟨(h.1.below hb).more hb.size, h.2⟩
/-! ### Number -/
def NumS (w : World) (A : Option Addr) (n : Nat) (zs : List Int) (gO : Nat) (z : Int) (wr : World) : Prop := BoxN wr gO z ∧ Blk2 wr w.heap.size 24 (.bool false) (.slice none 0 0) ∧ Sl .i64 wr w.heap.size A n zs ∧ Below w.heap.size w wr
theorem NumS.below {w wr w' : World} {A : Option Addr} {n gO : Nat} {zs : List Int} {z : Int} (h : NumS w A n zs gO z wr) (hb : Below wr.heap.size wr w') : NumS w A n zs gO z w' :=
  ⟨h.1.below hb, h.2.1.below hb, h.2.2.1.below (hb.mono h.2.2.2.size), h.2.2.2.trans (hb.mono h.2.2.2.size)⟩
end Go.Proofs.YtocooajlfpngdaaGreatDoor
namespace Go.Proofs.YtocooajlfpngdaaGreatDoor
open Go.RowKit
set_option linter.unusedVariables false

/-! ### Near -/
end Go.Proofs.YtocooajlfpngdaaGreatDoor
