/- Contract of the reference of frac: Parse. -/
import Derived.Deep.LoopGhost
import Derived.Test.YtocooajlfpngdaaGreatDoorB48
namespace Go.Proofs.YtocooajlfpngdaaGreatDoor
open Go.RowKit
set_option linter.unusedVariables false

theorem slash_at {s : ByteArray} {i : Nat} (hi : i < s.size) (h : ∀ b ∈ s.data.toList.take i, slash b = false) (hb : (s[i].toNat : Int) = 47) : (s.extract 0 i).data.toList = aboveT s.data.toList ∧ (s.extract (i + 1) s.size).data.toList = belowT s.data.toList := by
  have hi' : i < s.data.toList.length := hi
  have e47 : s[i] = 47 := UInt8.toNat_inj.1 (by show s[i].toNat = 47; omega)
  have e1 : s.data.toList = s.data.toList.take i ++ 47 :: s.data.toList.drop (i + 1) := by
    conv => lhs; rw [← List.take_append_drop i s.data.toList]
    rw [List.drop_eq_getElem_cons hi', str_get s i hi, e47]
  have e2 := cut_some (t := s.data.toList.drop (i + 1)) h
  rw [← e1] at e2
  rw [e2.1, e2.2, ext_list, ext_list]
  refine ⟨by simp, ?_⟩
  rw [List.take_of_length_le (by rw [List.length_drop, str_len]; omega)]
theorem slash_no {s : ByteArray} {i : Nat} (hi : i < s.size) (h : ∀ b ∈ s.data.toList.take i, slash b = false) (hb : ¬ (s[i].toNat : Int) = 47) : ∀ b ∈ s.data.toList.take (i + 1), slash b = false := by
  intro b hb'
  rw [List.take_add_one, List.getElem?_eq_getElem (show i < s.data.toList.length from hi), str_get s i hi] at hb'
  rcases List.mem_append.1 hb' with h1 | h1
  · exact h b h1
  · have e : b = s[i] := by simpa using h1
    rw [e]
    unfold slash
    cases hs : s[i] == 47 with
    | false => rfl
    | true => exact absurd (by rw [eq_of_beq hs]; rfl) hb
theorem slash_end {s : ByteArray} (h : ∀ b ∈ s.data.toList.take s.size, slash b = false) : s.data.toList = aboveT s.data.toList ∧ (⟨#[49]⟩ : ByteArray).data.toList = belowT s.data.toList := by
  rw [List.take_of_length_le (by rw [str_len]; exact Nat.le_refl _)] at h
  have := cut_none h
  exact ⟨this.1.symm, this.2.symm⟩
theorem gtext_x (x : Rat) (u : Value) (w : World) (ha : RepG w w.heap.size x u) (ia : InF x) (T : ByteArray) (hT : strB (textQ x) = T) : Calls Tryz.prog 49 #[u] w (StrU T w) := hT ▸ gtext_any x u w ha ia
theorem ext_le {s : ByteArray} (hs : s.size ≤ maxLen) (i j : Nat) : (s.extract i j).size ≤ maxLen := by
  have h1 : (s.extract i j).size = ((s.data.toList.drop i).take (j - i)).length := by rw [← ext_list, str_len]
  rw [h1, List.length_take, List.length_drop, str_len]
  omega
set_option maxRecDepth 100000 in
set_option maxHeartbeats 8000000 in
theorem gparse_b1 (s : ByteArray) (w : World) (hs : s.size ≤ maxLen) (p q : Int) (e1 e2 : Nat) (x : Rat) (hp : parseT (aboveT s.data.toList) = (p, e1)) (hq : parseT (belowT s.data.toList) = (q, e2)) (hx : Rat.divInt p q = x) (E1 E2 : Int) (hE1 : (e1 : Int) = E1) (hE2 : (e2 : Int) = E2) (hz : E1 ≠ 0) :
    Calls Tryz.prog 52 #[.string s] w (NewGE 0 2 w) := by
  have HP := Lib.hid hp
  have HQ := Lib.hid hq
  have HX := Lib.hid hx
  have HE1 := Lib.hid hE1
  have HE2 := Lib.hid hE2
  have LP := Lib.hid (parse_lt hp)
  have LQ := Lib.hid (parse_lt hq)
  have HS := Lib.hid hs
  have hsz : s.size ≤ 9223372036854775807 := by unfold maxLen at hs; omega
  clear hp hq hx hE1 hE2 hs
  have hz1 : (E1 == 0) = false := by simp [hz]
  have hz2 : (E1 != 0) = true := by simp [hz]
  have HB := Lib.hid (Below.refl w.heap.size w)
  go_enter Tryz.func52, Tryz.ntmps52
  have h := Blk4.new w 42 (.bool false) (.slice none 0 0) (.bool false) (.slice none 0 0)
  have b := al_below w (.cells #[.bool false, .slice none 0 0, .bool false, .slice none 0 0] 42)
  replace HB := Lib.hid (bstep HB.out b)
  clear b
  have R0 := Lib.hid (show Blk4 _ (w.heap.size) 42 (.bool false) (.slice none 0 0) (.bool false) (.slice none 0 0) from h)
  clear h
  go_wp2_with fail
  go_loopg [4, 5, 6] s.size (fun gk tv bv iv wr => ∃ i : Nat, gk + i = s.size ∧ tv = .string s ∧ bv = .string ⟨#[49]⟩ ∧ iv = .int .i64 i ∧ Hid (∀ b ∈ s.data.toList.take i, slash b = false) ∧ Hid (Blk4 wr (w.heap.size) 42 (.bool false) (.slice none 0 0) (.bool false) (.slice none 0 0)) ∧ Hid (Below w.heap.size w wr))
  case atStart => exact ⟨0, by omega, rfl, rfl, rfl, Lib.hid (by intro b hb; simp at hb), R0, HB⟩
  case round =>
    clear R0 HB
    obtain ⟨i, hgi, rfl, rfl, rfl, HN, R0, HB⟩ := hrel
    by_cases hlt : i < s.size
    · have ei : IntKind.i64.wrap ((i : Int) + 1) = (i : Int) + 1 := IntWalk.i64_in _ (by omega)
      have hlti : (i : Int) < (s.size : Int) := by omega
      have hip : (0 : Int) ≤ (i : Int) := Int.natCast_nonneg _
      by_cases hb : (s[i].toNat : Int) = 47
      · have hb1 : ((s[i].toNat : Int) == 47) = true := by simpa using hb
        have SL := Lib.hid (slash_at hlt HN.out hb)
        have HUL := Lib.hid (SL.out.1)
        have HDL := Lib.hid (SL.out.2)
        clear HN
        go_wp2_with fail
        have HMP := rparse_as (s.extract 0 i) wr (ext_le HS.out _ _) p e1 (by rw [HUL.out]; exact HP.out)
        rw [HE1.out] at HMP
        refine (HMP).mono ?_
        rintro e w51 ⟨v, rfl, h, b⟩
        obtain ⟨d51, A51, n51, c51, rfl⟩ := h.shape'
        have z51 := b.size
        replace z51 := Lib.hid z51
        replace R0 := Lib.hid (R0.out.below b)
        replace HB := Lib.hid (bstep HB.out b)
        have V51 := Lib.hid h
        clear h b
        clear HMP
        have h := HoldN.new V51.out
        have b := al_below w51 (.cells #[.bool d51, .slice A51 n51 c51] 24)
        replace R0 := Lib.hid (R0.out.below b)
        replace HB := Lib.hid (bstep HB.out b)
        clear b
        have H51 := Lib.hid h
        clear h V51
        go_wp2_with fail
        have HMP := rparse_as (s.extract (i + 1) s.size) (w51.alloc (.cells #[.bool d51, .slice A51 n51 c51] 24)) (ext_le HS.out _ _) q e2 (by rw [HDL.out]; exact HQ.out)
        rw [HE2.out] at HMP
        refine (HMP).mono ?_
        rintro e w52 ⟨v, rfl, h, b⟩
        obtain ⟨d52, A52, n52, c52, rfl⟩ := h.shape'
        have z52 := b.size
        simp only [World.size_alloc] at z52
        replace z52 := Lib.hid z52
        replace R0 := Lib.hid (R0.out.below b)
        replace HB := Lib.hid (bstep HB.out b)
        replace H51 := Lib.hid (H51.out.below b)
        have V52 := Lib.hid h
        clear h b
        clear HMP
        have h := HoldN.new V52.out
        have b := al_below w52 (.cells #[.bool d52, .slice A52 n52 c52] 24)
        replace R0 := Lib.hid (R0.out.below b)
        replace HB := Lib.hid (bstep HB.out b)
        replace H51 := Lib.hid (H51.out.below b)
        clear b
        have H52 := Lib.hid h
        clear h V52
        go_wp2_with fail
        refine (gof_zero _).mono ?_
        rintro e w53 ⟨v, rfl, h, b⟩
        obtain ⟨d53, A53, n53, c53, e53, E53, m53, f53, rfl⟩ := h.shape
        have z53 := b.size
        simp only [World.size_alloc] at z53
        replace z53 := Lib.hid z53
        replace R0 := Lib.hid (R0.out.below b)
        replace HB := Lib.hid (bstep HB.out b)
        replace H51 := Lib.hid (H51.out.below b)
        replace H52 := Lib.hid (H52.out.below b)
        have V53 := Lib.hid h
        clear h b
        have gR00 := R0.out.c0
        have yR00 := R0.out.f0
        have gR01 := R0.out.c1
        have yR01 := R0.out.f1
        have gR02 := R0.out.c2
        have yR02 := R0.out.f2
        have gR03 := R0.out.c3
        have yR03 := R0.out.f3
        have HF := Lib.hid (retG (V53.out) R0.out HB.out (by omega))
        clear R0 HB H51 H52 V53
        clear HP HQ HX HE1 HE2 LP LQ HS HUL HDL
        go_wp2_with fail
        exact bodyPost_ret (v := .tuple #[.agg #[.bool d53, .slice A53 n53 c53, .bool e53, .slice E53 m53 f53], .int .i64 2]) (by simp [results, Tryz.results52, go_sem, gR00, gR01, gR02, gR03]) rfl ⟨_, rfl, HF.out.1, HF.out.2.1⟩
      · have hb1 : ((s[i].toNat : Int) == 47) = false := by simpa using hb
        have SN := Lib.hid (slash_no hlt HN.out hb)
        clear HN
        go_wp2_with fail
        go_roundg (gk - 1)
        case measure => omega
        case rel => exact ⟨i + 1, by omega, rfl, rfl, by go_num, SN, R0, HB⟩
    · obtain rfl : i = s.size := by omega
      have SL := Lib.hid (slash_end HN.out)
      have HUL := Lib.hid (SL.out.1)
      have HDL := Lib.hid (SL.out.2)
      clear HN
      go_wp2_with fail
      have HMP := rparse_as s wr HS.out p e1 (by rw [HUL.out]; exact HP.out)
      rw [HE1.out] at HMP
      refine (HMP).mono ?_
      rintro e w54 ⟨v, rfl, h, b⟩
      obtain ⟨d54, A54, n54, c54, rfl⟩ := h.shape'
      have z54 := b.size
      replace z54 := Lib.hid z54
      replace R0 := Lib.hid (R0.out.below b)
      replace HB := Lib.hid (bstep HB.out b)
      have V54 := Lib.hid h
      clear h b
      clear HMP
      have h := HoldN.new V54.out
      have b := al_below w54 (.cells #[.bool d54, .slice A54 n54 c54] 24)
      replace R0 := Lib.hid (R0.out.below b)
      replace HB := Lib.hid (bstep HB.out b)
      clear b
      have H54 := Lib.hid h
      clear h V54
      go_wp2_with fail
      have HMP := rparse_as ⟨#[49]⟩ (w54.alloc (.cells #[.bool d54, .slice A54 n54 c54] 24)) (by decide) q e2 (by rw [HDL.out]; exact HQ.out)
      rw [HE2.out] at HMP
      refine (HMP).mono ?_
      rintro e w55 ⟨v, rfl, h, b⟩
      obtain ⟨d55, A55, n55, c55, rfl⟩ := h.shape'
      have z55 := b.size
      simp only [World.size_alloc] at z55
      replace z55 := Lib.hid z55
      replace R0 := Lib.hid (R0.out.below b)
      replace HB := Lib.hid (bstep HB.out b)
      replace H54 := Lib.hid (H54.out.below b)
      have V55 := Lib.hid h
      clear h b
      clear HMP
      have h := HoldN.new V55.out
      have b := al_below w55 (.cells #[.bool d55, .slice A55 n55 c55] 24)
      replace R0 := Lib.hid (R0.out.below b)
      replace HB := Lib.hid (bstep HB.out b)
      replace H54 := Lib.hid (H54.out.below b)
      clear b
      have H55 := Lib.hid h
      clear h V55
      go_wp2_with fail
      refine (gof_zero _).mono ?_
      rintro e w56 ⟨v, rfl, h, b⟩
      obtain ⟨d56, A56, n56, c56, e56, E56, m56, f56, rfl⟩ := h.shape
      have z56 := b.size
      simp only [World.size_alloc] at z56
      replace z56 := Lib.hid z56
      replace R0 := Lib.hid (R0.out.below b)
      replace HB := Lib.hid (bstep HB.out b)
      replace H54 := Lib.hid (H54.out.below b)
      replace H55 := Lib.hid (H55.out.below b)
      have V56 := Lib.hid h
      clear h b
      have gR00 := R0.out.c0
      have yR00 := R0.out.f0
      have gR01 := R0.out.c1
      have yR01 := R0.out.f1
      have gR02 := R0.out.c2
      have yR02 := R0.out.f2
      have gR03 := R0.out.c3
      have yR03 := R0.out.f3
      have HF := Lib.hid (retG (V56.out) R0.out HB.out (by omega))
      clear R0 HB H54 H55 V56
      clear HP HQ HX HE1 HE2 LP LQ HS HUL HDL
      go_wp2_with fail
      exact bodyPost_ret (v := .tuple #[.agg #[.bool d56, .slice A56 n56 c56, .bool e56, .slice E56 m56 f56], .int .i64 2]) (by simp [results, Tryz.results52, go_sem, gR00, gR01, gR02, gR03]) rfl ⟨_, rfl, HF.out.1, HF.out.2.1⟩
set_option maxRecDepth 100000 in
set_option maxHeartbeats 8000000 in
theorem gparse_b2 (s : ByteArray) (w : World) (hs : s.size ≤ maxLen) (p q : Int) (e1 e2 : Nat) (x : Rat) (hp : parseT (aboveT s.data.toList) = (p, e1)) (hq : parseT (belowT s.data.toList) = (q, e2)) (hx : Rat.divInt p q = x) (E2 : Int) (hE1 : (e1 : Int) = 0) (hE2 : (e2 : Int) = E2) (hz : E2 ≠ 0) :
    Calls Tryz.prog 52 #[.string s] w (NewGE 0 2 w) := by
  have HP := Lib.hid hp
  have HQ := Lib.hid hq
  have HX := Lib.hid hx
  have HE1 := Lib.hid hE1
  have HE2 := Lib.hid hE2
  have LP := Lib.hid (parse_lt hp)
  have LQ := Lib.hid (parse_lt hq)
  have HS := Lib.hid hs
  have hsz : s.size ≤ 9223372036854775807 := by unfold maxLen at hs; omega
  clear hp hq hx hE1 hE2 hs
  have hz1 : (E2 == 0) = false := by simp [hz]
  have hz2 : (E2 != 0) = true := by simp [hz]
  have HB := Lib.hid (Below.refl w.heap.size w)
  go_enter Tryz.func52, Tryz.ntmps52
  have h := Blk4.new w 42 (.bool false) (.slice none 0 0) (.bool false) (.slice none 0 0)
  have b := al_below w (.cells #[.bool false, .slice none 0 0, .bool false, .slice none 0 0] 42)
  replace HB := Lib.hid (bstep HB.out b)
  clear b
  have R0 := Lib.hid (show Blk4 _ (w.heap.size) 42 (.bool false) (.slice none 0 0) (.bool false) (.slice none 0 0) from h)
  clear h
  go_wp2_with fail
  go_loopg [4, 5, 6] s.size (fun gk tv bv iv wr => ∃ i : Nat, gk + i = s.size ∧ tv = .string s ∧ bv = .string ⟨#[49]⟩ ∧ iv = .int .i64 i ∧ Hid (∀ b ∈ s.data.toList.take i, slash b = false) ∧ Hid (Blk4 wr (w.heap.size) 42 (.bool false) (.slice none 0 0) (.bool false) (.slice none 0 0)) ∧ Hid (Below w.heap.size w wr))
  case atStart => exact ⟨0, by omega, rfl, rfl, rfl, Lib.hid (by intro b hb; simp at hb), R0, HB⟩
  case round =>
    clear R0 HB
    obtain ⟨i, hgi, rfl, rfl, rfl, HN, R0, HB⟩ := hrel
    by_cases hlt : i < s.size
    · have ei : IntKind.i64.wrap ((i : Int) + 1) = (i : Int) + 1 := IntWalk.i64_in _ (by omega)
      have hlti : (i : Int) < (s.size : Int) := by omega
      have hip : (0 : Int) ≤ (i : Int) := Int.natCast_nonneg _
      by_cases hb : (s[i].toNat : Int) = 47
      · have hb1 : ((s[i].toNat : Int) == 47) = true := by simpa using hb
        have SL := Lib.hid (slash_at hlt HN.out hb)
        have HUL := Lib.hid (SL.out.1)
        have HDL := Lib.hid (SL.out.2)
        clear HN
        go_wp2_with fail
        have HMP := rparse_as (s.extract 0 i) wr (ext_le HS.out _ _) p e1 (by rw [HUL.out]; exact HP.out)
        rw [HE1.out] at HMP
        refine (HMP).mono ?_
        rintro e w51 ⟨v, rfl, h, b⟩
        obtain ⟨d51, A51, n51, c51, rfl⟩ := h.shape'
        have z51 := b.size
        replace z51 := Lib.hid z51
        replace R0 := Lib.hid (R0.out.below b)
        replace HB := Lib.hid (bstep HB.out b)
        have V51 := Lib.hid h
        clear h b
        clear HMP
        have h := HoldN.new V51.out
        have b := al_below w51 (.cells #[.bool d51, .slice A51 n51 c51] 24)
        replace R0 := Lib.hid (R0.out.below b)
        replace HB := Lib.hid (bstep HB.out b)
        clear b
        have H51 := Lib.hid h
        clear h V51
        go_wp2_with fail
        have HMP := rparse_as (s.extract (i + 1) s.size) (w51.alloc (.cells #[.bool d51, .slice A51 n51 c51] 24)) (ext_le HS.out _ _) q e2 (by rw [HDL.out]; exact HQ.out)
        rw [HE2.out] at HMP
        refine (HMP).mono ?_
        rintro e w52 ⟨v, rfl, h, b⟩
        obtain ⟨d52, A52, n52, c52, rfl⟩ := h.shape'
        have z52 := b.size
        simp only [World.size_alloc] at z52
        replace z52 := Lib.hid z52
        replace R0 := Lib.hid (R0.out.below b)
        replace HB := Lib.hid (bstep HB.out b)
        replace H51 := Lib.hid (H51.out.below b)
        have V52 := Lib.hid h
        clear h b
        clear HMP
        have h := HoldN.new V52.out
        have b := al_below w52 (.cells #[.bool d52, .slice A52 n52 c52] 24)
        replace R0 := Lib.hid (R0.out.below b)
        replace HB := Lib.hid (bstep HB.out b)
        replace H51 := Lib.hid (H51.out.below b)
        clear b
        have H52 := Lib.hid h
        clear h V52
        go_wp2_with fail
        refine (gof_zero _).mono ?_
        rintro e w53 ⟨v, rfl, h, b⟩
        obtain ⟨d53, A53, n53, c53, e53, E53, m53, f53, rfl⟩ := h.shape
        have z53 := b.size
        simp only [World.size_alloc] at z53
        replace z53 := Lib.hid z53
        replace R0 := Lib.hid (R0.out.below b)
        replace HB := Lib.hid (bstep HB.out b)
        replace H51 := Lib.hid (H51.out.below b)
        replace H52 := Lib.hid (H52.out.below b)
        have V53 := Lib.hid h
        clear h b
        have gR00 := R0.out.c0
        have yR00 := R0.out.f0
        have gR01 := R0.out.c1
        have yR01 := R0.out.f1
        have gR02 := R0.out.c2
        have yR02 := R0.out.f2
        have gR03 := R0.out.c3
        have yR03 := R0.out.f3
        have HF := Lib.hid (retG (V53.out) R0.out HB.out (by omega))
        clear R0 HB H51 H52 V53
        clear HP HQ HX HE1 HE2 LP LQ HS HUL HDL
        go_wp2_with fail
        exact bodyPost_ret (v := .tuple #[.agg #[.bool d53, .slice A53 n53 c53, .bool e53, .slice E53 m53 f53], .int .i64 2]) (by simp [results, Tryz.results52, go_sem, gR00, gR01, gR02, gR03]) rfl ⟨_, rfl, HF.out.1, HF.out.2.1⟩
      · have hb1 : ((s[i].toNat : Int) == 47) = false := by simpa using hb
        have SN := Lib.hid (slash_no hlt HN.out hb)
        clear HN
        go_wp2_with fail
        go_roundg (gk - 1)
        case measure => omega
        case rel => exact ⟨i + 1, by omega, rfl, rfl, by go_num, SN, R0, HB⟩
    · obtain rfl : i = s.size := by omega
      have SL := Lib.hid (slash_end HN.out)
      have HUL := Lib.hid (SL.out.1)
      have HDL := Lib.hid (SL.out.2)
      clear HN
      go_wp2_with fail
      have HMP := rparse_as s wr HS.out p e1 (by rw [HUL.out]; exact HP.out)
      rw [HE1.out] at HMP
      refine (HMP).mono ?_
      rintro e w54 ⟨v, rfl, h, b⟩
      obtain ⟨d54, A54, n54, c54, rfl⟩ := h.shape'
      have z54 := b.size
      replace z54 := Lib.hid z54
      replace R0 := Lib.hid (R0.out.below b)
      replace HB := Lib.hid (bstep HB.out b)
      have V54 := Lib.hid h
      clear h b
      clear HMP
      have h := HoldN.new V54.out
      have b := al_below w54 (.cells #[.bool d54, .slice A54 n54 c54] 24)
      replace R0 := Lib.hid (R0.out.below b)
      replace HB := Lib.hid (bstep HB.out b)
      clear b
      have H54 := Lib.hid h
      clear h V54
      go_wp2_with fail
      have HMP := rparse_as ⟨#[49]⟩ (w54.alloc (.cells #[.bool d54, .slice A54 n54 c54] 24)) (by decide) q e2 (by rw [HDL.out]; exact HQ.out)
      rw [HE2.out] at HMP
      refine (HMP).mono ?_
      rintro e w55 ⟨v, rfl, h, b⟩
      obtain ⟨d55, A55, n55, c55, rfl⟩ := h.shape'
      have z55 := b.size
      simp only [World.size_alloc] at z55
      replace z55 := Lib.hid z55
      replace R0 := Lib.hid (R0.out.below b)
      replace HB := Lib.hid (bstep HB.out b)
      replace H54 := Lib.hid (H54.out.below b)
      have V55 := Lib.hid h
      clear h b
      clear HMP
      have h := HoldN.new V55.out
      have b := al_below w55 (.cells #[.bool d55, .slice A55 n55 c55] 24)
      replace R0 := Lib.hid (R0.out.below b)
      replace HB := Lib.hid (bstep HB.out b)
      replace H54 := Lib.hid (H54.out.below b)
      clear b
      have H55 := Lib.hid h
      clear h V55
      go_wp2_with fail
      refine (gof_zero _).mono ?_
      rintro e w56 ⟨v, rfl, h, b⟩
      obtain ⟨d56, A56, n56, c56, e56, E56, m56, f56, rfl⟩ := h.shape
      have z56 := b.size
      simp only [World.size_alloc] at z56
      replace z56 := Lib.hid z56
      replace R0 := Lib.hid (R0.out.below b)
      replace HB := Lib.hid (bstep HB.out b)
      replace H54 := Lib.hid (H54.out.below b)
      replace H55 := Lib.hid (H55.out.below b)
      have V56 := Lib.hid h
      clear h b
      have gR00 := R0.out.c0
      have yR00 := R0.out.f0
      have gR01 := R0.out.c1
      have yR01 := R0.out.f1
      have gR02 := R0.out.c2
      have yR02 := R0.out.f2
      have gR03 := R0.out.c3
      have yR03 := R0.out.f3
      have HF := Lib.hid (retG (V56.out) R0.out HB.out (by omega))
      clear R0 HB H54 H55 V56
      clear HP HQ HX HE1 HE2 LP LQ HS HUL HDL
      go_wp2_with fail
      exact bodyPost_ret (v := .tuple #[.agg #[.bool d56, .slice A56 n56 c56, .bool e56, .slice E56 m56 f56], .int .i64 2]) (by simp [results, Tryz.results52, go_sem, gR00, gR01, gR02, gR03]) rfl ⟨_, rfl, HF.out.1, HF.out.2.1⟩
set_option maxRecDepth 100000 in
set_option maxHeartbeats 8000000 in
theorem gparse_b3 (s : ByteArray) (w : World) (hs : s.size ≤ maxLen) (p q : Int) (e1 e2 : Nat) (x : Rat) (hp : parseT (aboveT s.data.toList) = (p, e1)) (hq : parseT (belowT s.data.toList) = (q, e2)) (hx : Rat.divInt p q = x) (hE1 : (e1 : Int) = 0) (hE2 : (e2 : Int) = 0) (hE3 : makeE q = 1) :
    Calls Tryz.prog 52 #[.string s] w (NewGE 0 2 w) := by
  have HP := Lib.hid hp
  have HQ := Lib.hid hq
  have HX := Lib.hid hx
  have HE1 := Lib.hid hE1
  have HE2 := Lib.hid hE2
  have LP := Lib.hid (parse_lt hp)
  have LQ := Lib.hid (parse_lt hq)
  have HS := Lib.hid hs
  have hsz : s.size ≤ 9223372036854775807 := by unfold maxLen at hs; omega
  clear hp hq hx hE1 hE2 hs
  have HE3 := Lib.hid hE3
  clear hE3
  have HB := Lib.hid (Below.refl w.heap.size w)
  go_enter Tryz.func52, Tryz.ntmps52
  have h := Blk4.new w 42 (.bool false) (.slice none 0 0) (.bool false) (.slice none 0 0)
  have b := al_below w (.cells #[.bool false, .slice none 0 0, .bool false, .slice none 0 0] 42)
  replace HB := Lib.hid (bstep HB.out b)
  clear b
  have R0 := Lib.hid (show Blk4 _ (w.heap.size) 42 (.bool false) (.slice none 0 0) (.bool false) (.slice none 0 0) from h)
  clear h
  go_wp2_with fail
  go_loopg [4, 5, 6] s.size (fun gk tv bv iv wr => ∃ i : Nat, gk + i = s.size ∧ tv = .string s ∧ bv = .string ⟨#[49]⟩ ∧ iv = .int .i64 i ∧ Hid (∀ b ∈ s.data.toList.take i, slash b = false) ∧ Hid (Blk4 wr (w.heap.size) 42 (.bool false) (.slice none 0 0) (.bool false) (.slice none 0 0)) ∧ Hid (Below w.heap.size w wr))
  case atStart => exact ⟨0, by omega, rfl, rfl, rfl, Lib.hid (by intro b hb; simp at hb), R0, HB⟩
  case round =>
    clear R0 HB
    obtain ⟨i, hgi, rfl, rfl, rfl, HN, R0, HB⟩ := hrel
    by_cases hlt : i < s.size
    · have ei : IntKind.i64.wrap ((i : Int) + 1) = (i : Int) + 1 := IntWalk.i64_in _ (by omega)
      have hlti : (i : Int) < (s.size : Int) := by omega
      have hip : (0 : Int) ≤ (i : Int) := Int.natCast_nonneg _
      by_cases hb : (s[i].toNat : Int) = 47
      · have hb1 : ((s[i].toNat : Int) == 47) = true := by simpa using hb
        have SL := Lib.hid (slash_at hlt HN.out hb)
        have HUL := Lib.hid (SL.out.1)
        have HDL := Lib.hid (SL.out.2)
        clear HN
        go_wp2_with fail
        have HMP := rparse_as (s.extract 0 i) wr (ext_le HS.out _ _) p e1 (by rw [HUL.out]; exact HP.out)
        rw [HE1.out] at HMP
        refine (HMP).mono ?_
        rintro e w51 ⟨v, rfl, h, b⟩
        obtain ⟨d51, A51, n51, c51, rfl⟩ := h.shape'
        have z51 := b.size
        replace z51 := Lib.hid z51
        replace R0 := Lib.hid (R0.out.below b)
        replace HB := Lib.hid (bstep HB.out b)
        have V51 := Lib.hid h
        clear h b
        clear HMP
        have h := HoldN.new V51.out
        have b := al_below w51 (.cells #[.bool d51, .slice A51 n51 c51] 24)
        replace R0 := Lib.hid (R0.out.below b)
        replace HB := Lib.hid (bstep HB.out b)
        clear b
        have H51 := Lib.hid h
        clear h V51
        go_wp2_with fail
        have HMP := rparse_as (s.extract (i + 1) s.size) (w51.alloc (.cells #[.bool d51, .slice A51 n51 c51] 24)) (ext_le HS.out _ _) q e2 (by rw [HDL.out]; exact HQ.out)
        rw [HE2.out] at HMP
        refine (HMP).mono ?_
        rintro e w52 ⟨v, rfl, h, b⟩
        obtain ⟨d52, A52, n52, c52, rfl⟩ := h.shape'
        have z52 := b.size
        simp only [World.size_alloc] at z52
        replace z52 := Lib.hid z52
        replace R0 := Lib.hid (R0.out.below b)
        replace HB := Lib.hid (bstep HB.out b)
        replace H51 := Lib.hid (H51.out.below b)
        have V52 := Lib.hid h
        clear h b
        clear HMP
        have h := HoldN.new V52.out
        have b := al_below w52 (.cells #[.bool d52, .slice A52 n52 c52] 24)
        replace R0 := Lib.hid (R0.out.below b)
        replace HB := Lib.hid (bstep HB.out b)
        replace H51 := Lib.hid (H51.out.below b)
        clear b
        have H52 := Lib.hid h
        clear h V52
        have gH510 := H51.out.c0
        have gH511 := H51.out.c1
        have gH520 := H52.out.c0
        have gH521 := H52.out.c1
        go_wp2_with fail
        have HMP := gmake_any p q _ _ _ H51.out.2 H52.out.2 (fit_bits LP.out) (fit_bits LQ.out)
        rw [HX.out, HE3.out] at HMP
        refine (HMP).mono ?_
        rintro e w53 ⟨v, rfl, h, b⟩
        obtain ⟨d53, A53, n53, c53, e53, E53, m53, f53, rfl⟩ := h.shape
        clear gH510 gH511 gH520 gH521
        have z53 := b.size
        simp only [World.size_alloc] at z53
        replace z53 := Lib.hid z53
        replace R0 := Lib.hid (R0.out.below b)
        replace HB := Lib.hid (bstep HB.out b)
        replace H51 := Lib.hid (H51.out.below b)
        replace H52 := Lib.hid (H52.out.below b)
        have V53 := Lib.hid h
        clear h b
        clear HMP
        have h := HoldG.new V53.out
        have b := al_below w53 (.cells #[.bool d53, .slice A53 n53 c53, .bool e53, .slice E53 m53 f53] 42)
        replace R0 := Lib.hid (R0.out.below b)
        replace HB := Lib.hid (bstep HB.out b)
        replace H51 := Lib.hid (H51.out.below b)
        replace H52 := Lib.hid (H52.out.below b)
        clear b
        have H53 := Lib.hid h
        clear h V53
        go_wp2_with fail
        refine (gof_zero _).mono ?_
        rintro e w54 ⟨v, rfl, h, b⟩
        obtain ⟨d54, A54, n54, c54, e54, E54, m54, f54, rfl⟩ := h.shape
        have z54 := b.size
        simp only [World.size_alloc] at z54
        replace z54 := Lib.hid z54
        replace R0 := Lib.hid (R0.out.below b)
        replace HB := Lib.hid (bstep HB.out b)
        replace H51 := Lib.hid (H51.out.below b)
        replace H52 := Lib.hid (H52.out.below b)
        replace H53 := Lib.hid (H53.out.below b)
        have V54 := Lib.hid h
        clear h b
        have gR00 := R0.out.c0
        have yR00 := R0.out.f0
        have gR01 := R0.out.c1
        have yR01 := R0.out.f1
        have gR02 := R0.out.c2
        have yR02 := R0.out.f2
        have gR03 := R0.out.c3
        have yR03 := R0.out.f3
        have HF := Lib.hid (retG (V54.out) R0.out HB.out (by omega))
        clear R0 HB H51 H52 H53 V54
        clear HP HQ HX HE1 HE2 LP LQ HS HE3 HUL HDL
        go_wp2_with fail
        exact bodyPost_ret (v := .tuple #[.agg #[.bool d54, .slice A54 n54 c54, .bool e54, .slice E54 m54 f54], .int .i64 2]) (by simp [results, Tryz.results52, go_sem, gR00, gR01, gR02, gR03]) rfl ⟨_, rfl, HF.out.1, HF.out.2.1⟩
      · have hb1 : ((s[i].toNat : Int) == 47) = false := by simpa using hb
        have SN := Lib.hid (slash_no hlt HN.out hb)
        clear HN
        go_wp2_with fail
        go_roundg (gk - 1)
        case measure => omega
        case rel => exact ⟨i + 1, by omega, rfl, rfl, by go_num, SN, R0, HB⟩
    · obtain rfl : i = s.size := by omega
      have SL := Lib.hid (slash_end HN.out)
      have HUL := Lib.hid (SL.out.1)
      have HDL := Lib.hid (SL.out.2)
      clear HN
      go_wp2_with fail
      have HMP := rparse_as s wr HS.out p e1 (by rw [HUL.out]; exact HP.out)
      rw [HE1.out] at HMP
      refine (HMP).mono ?_
      rintro e w55 ⟨v, rfl, h, b⟩
      obtain ⟨d55, A55, n55, c55, rfl⟩ := h.shape'
      have z55 := b.size
      replace z55 := Lib.hid z55
      replace R0 := Lib.hid (R0.out.below b)
      replace HB := Lib.hid (bstep HB.out b)
      have V55 := Lib.hid h
      clear h b
      clear HMP
      have h := HoldN.new V55.out
      have b := al_below w55 (.cells #[.bool d55, .slice A55 n55 c55] 24)
      replace R0 := Lib.hid (R0.out.below b)
      replace HB := Lib.hid (bstep HB.out b)
      clear b
      have H55 := Lib.hid h
      clear h V55
      go_wp2_with fail
      have HMP := rparse_as ⟨#[49]⟩ (w55.alloc (.cells #[.bool d55, .slice A55 n55 c55] 24)) (by decide) q e2 (by rw [HDL.out]; exact HQ.out)
      rw [HE2.out] at HMP
      refine (HMP).mono ?_
      rintro e w56 ⟨v, rfl, h, b⟩
      obtain ⟨d56, A56, n56, c56, rfl⟩ := h.shape'
      have z56 := b.size
      simp only [World.size_alloc] at z56
      replace z56 := Lib.hid z56
      replace R0 := Lib.hid (R0.out.below b)
      replace HB := Lib.hid (bstep HB.out b)
      replace H55 := Lib.hid (H55.out.below b)
      have V56 := Lib.hid h
      clear h b
      clear HMP
      have h := HoldN.new V56.out
      have b := al_below w56 (.cells #[.bool d56, .slice A56 n56 c56] 24)
      replace R0 := Lib.hid (R0.out.below b)
      replace HB := Lib.hid (bstep HB.out b)
      replace H55 := Lib.hid (H55.out.below b)
      clear b
      have H56 := Lib.hid h
      clear h V56
      have gH550 := H55.out.c0
      have gH551 := H55.out.c1
      have gH560 := H56.out.c0
      have gH561 := H56.out.c1
      go_wp2_with fail
      have HMP := gmake_any p q _ _ _ H55.out.2 H56.out.2 (fit_bits LP.out) (fit_bits LQ.out)
      rw [HX.out, HE3.out] at HMP
      refine (HMP).mono ?_
      rintro e w57 ⟨v, rfl, h, b⟩
      obtain ⟨d57, A57, n57, c57, e57, E57, m57, f57, rfl⟩ := h.shape
      clear gH550 gH551 gH560 gH561
      have z57 := b.size
      simp only [World.size_alloc] at z57
      replace z57 := Lib.hid z57
      replace R0 := Lib.hid (R0.out.below b)
      replace HB := Lib.hid (bstep HB.out b)
      replace H55 := Lib.hid (H55.out.below b)
      replace H56 := Lib.hid (H56.out.below b)
      have V57 := Lib.hid h
      clear h b
      clear HMP
      have h := HoldG.new V57.out
      have b := al_below w57 (.cells #[.bool d57, .slice A57 n57 c57, .bool e57, .slice E57 m57 f57] 42)
      replace R0 := Lib.hid (R0.out.below b)
      replace HB := Lib.hid (bstep HB.out b)
      replace H55 := Lib.hid (H55.out.below b)
      replace H56 := Lib.hid (H56.out.below b)
      clear b
      have H57 := Lib.hid h
      clear h V57
      go_wp2_with fail
      refine (gof_zero _).mono ?_
      rintro e w58 ⟨v, rfl, h, b⟩
      obtain ⟨d58, A58, n58, c58, e58, E58, m58, f58, rfl⟩ := h.shape
      have z58 := b.size
      simp only [World.size_alloc] at z58
      replace z58 := Lib.hid z58
      replace R0 := Lib.hid (R0.out.below b)
      replace HB := Lib.hid (bstep HB.out b)
      replace H55 := Lib.hid (H55.out.below b)
      replace H56 := Lib.hid (H56.out.below b)
      replace H57 := Lib.hid (H57.out.below b)
      have V58 := Lib.hid h
      clear h b
      have gR00 := R0.out.c0
      have yR00 := R0.out.f0
      have gR01 := R0.out.c1
      have yR01 := R0.out.f1
      have gR02 := R0.out.c2
      have yR02 := R0.out.f2
      have gR03 := R0.out.c3
      have yR03 := R0.out.f3
      have HF := Lib.hid (retG (V58.out) R0.out HB.out (by omega))
      clear R0 HB H55 H56 H57 V58
      clear HP HQ HX HE1 HE2 LP LQ HS HE3 HUL HDL
      go_wp2_with fail
      exact bodyPost_ret (v := .tuple #[.agg #[.bool d58, .slice A58 n58 c58, .bool e58, .slice E58 m58 f58], .int .i64 2]) (by simp [results, Tryz.results52, go_sem, gR00, gR01, gR02, gR03]) rfl ⟨_, rfl, HF.out.1, HF.out.2.1⟩
set_option maxRecDepth 100000 in
set_option maxHeartbeats 8000000 in
theorem gparse_odd (s : ByteArray) (w : World) (hs : s.size ≤ maxLen) (p q : Int) (e1 e2 : Nat) (x : Rat) (hp : parseT (aboveT s.data.toList) = (p, e1)) (hq : parseT (belowT s.data.toList) = (q, e2)) (hx : Rat.divInt p q = x) (hE1 : (e1 : Int) = 0) (hE2 : (e2 : Int) = 0) (hE3 : makeE q = 0) (ix : InF x) (T : ByteArray) (hT : strB (textQ x) = T) (hne : (T.toList == s.toList) = false) :
    Calls Tryz.prog 52 #[.string s] w (NewGE 0 2 w) := by
  have HP := Lib.hid hp
  have HQ := Lib.hid hq
  have HX := Lib.hid hx
  have HE1 := Lib.hid hE1
  have HE2 := Lib.hid hE2
  have LP := Lib.hid (parse_lt hp)
  have LQ := Lib.hid (parse_lt hq)
  have HS := Lib.hid hs
  have hsz : s.size ≤ 9223372036854775807 := by unfold maxLen at hs; omega
  clear hp hq hx hE1 hE2 hs
  have HE3 := Lib.hid hE3
  clear hE3
  have IX := Lib.hid ix
  have HT := Lib.hid hT
  clear ix hT
  have HB := Lib.hid (Below.refl w.heap.size w)
  go_enter Tryz.func52, Tryz.ntmps52
  have h := Blk4.new w 42 (.bool false) (.slice none 0 0) (.bool false) (.slice none 0 0)
  have b := al_below w (.cells #[.bool false, .slice none 0 0, .bool false, .slice none 0 0] 42)
  replace HB := Lib.hid (bstep HB.out b)
  clear b
  have R0 := Lib.hid (show Blk4 _ (w.heap.size) 42 (.bool false) (.slice none 0 0) (.bool false) (.slice none 0 0) from h)
  clear h
  go_wp2_with fail
  go_loopg [4, 5, 6] s.size (fun gk tv bv iv wr => ∃ i : Nat, gk + i = s.size ∧ tv = .string s ∧ bv = .string ⟨#[49]⟩ ∧ iv = .int .i64 i ∧ Hid (∀ b ∈ s.data.toList.take i, slash b = false) ∧ Hid (Blk4 wr (w.heap.size) 42 (.bool false) (.slice none 0 0) (.bool false) (.slice none 0 0)) ∧ Hid (Below w.heap.size w wr))
  case atStart => exact ⟨0, by omega, rfl, rfl, rfl, Lib.hid (by intro b hb; simp at hb), R0, HB⟩
  case round =>
    clear R0 HB
    obtain ⟨i, hgi, rfl, rfl, rfl, HN, R0, HB⟩ := hrel
    by_cases hlt : i < s.size
    · have ei : IntKind.i64.wrap ((i : Int) + 1) = (i : Int) + 1 := IntWalk.i64_in _ (by omega)
      have hlti : (i : Int) < (s.size : Int) := by omega
      have hip : (0 : Int) ≤ (i : Int) := Int.natCast_nonneg _
      by_cases hb : (s[i].toNat : Int) = 47
      · have hb1 : ((s[i].toNat : Int) == 47) = true := by simpa using hb
        have SL := Lib.hid (slash_at hlt HN.out hb)
        have HUL := Lib.hid (SL.out.1)
        have HDL := Lib.hid (SL.out.2)
        clear HN
        go_wp2_with fail
        have HMP := rparse_as (s.extract 0 i) wr (ext_le HS.out _ _) p e1 (by rw [HUL.out]; exact HP.out)
        rw [HE1.out] at HMP
        refine (HMP).mono ?_
        rintro e w51 ⟨v, rfl, h, b⟩
        obtain ⟨d51, A51, n51, c51, rfl⟩ := h.shape'
        have z51 := b.size
        replace z51 := Lib.hid z51
        replace R0 := Lib.hid (R0.out.below b)
        replace HB := Lib.hid (bstep HB.out b)
        have V51 := Lib.hid h
        clear h b
        clear HMP
        have h := HoldN.new V51.out
        have b := al_below w51 (.cells #[.bool d51, .slice A51 n51 c51] 24)
        replace R0 := Lib.hid (R0.out.below b)
        replace HB := Lib.hid (bstep HB.out b)
        clear b
        have H51 := Lib.hid h
        clear h V51
        go_wp2_with fail
        have HMP := rparse_as (s.extract (i + 1) s.size) (w51.alloc (.cells #[.bool d51, .slice A51 n51 c51] 24)) (ext_le HS.out _ _) q e2 (by rw [HDL.out]; exact HQ.out)
        rw [HE2.out] at HMP
        refine (HMP).mono ?_
        rintro e w52 ⟨v, rfl, h, b⟩
        obtain ⟨d52, A52, n52, c52, rfl⟩ := h.shape'
        have z52 := b.size
        simp only [World.size_alloc] at z52
        replace z52 := Lib.hid z52
        replace R0 := Lib.hid (R0.out.below b)
        replace HB := Lib.hid (bstep HB.out b)
        replace H51 := Lib.hid (H51.out.below b)
        have V52 := Lib.hid h
        clear h b
        clear HMP
        have h := HoldN.new V52.out
        have b := al_below w52 (.cells #[.bool d52, .slice A52 n52 c52] 24)
        replace R0 := Lib.hid (R0.out.below b)
        replace HB := Lib.hid (bstep HB.out b)
        replace H51 := Lib.hid (H51.out.below b)
        clear b
        have H52 := Lib.hid h
        clear h V52
        have gH510 := H51.out.c0
        have gH511 := H51.out.c1
        have gH520 := H52.out.c0
        have gH521 := H52.out.c1
        go_wp2_with fail
        have HMP := gmake_any p q _ _ _ H51.out.2 H52.out.2 (fit_bits LP.out) (fit_bits LQ.out)
        rw [HX.out, HE3.out] at HMP
        refine (HMP).mono ?_
        rintro e w53 ⟨v, rfl, h, b⟩
        obtain ⟨d53, A53, n53, c53, e53, E53, m53, f53, rfl⟩ := h.shape
        clear gH510 gH511 gH520 gH521
        have z53 := b.size
        simp only [World.size_alloc] at z53
        replace z53 := Lib.hid z53
        replace R0 := Lib.hid (R0.out.below b)
        replace HB := Lib.hid (bstep HB.out b)
        replace H51 := Lib.hid (H51.out.below b)
        replace H52 := Lib.hid (H52.out.below b)
        have V53 := Lib.hid h
        clear h b
        clear HMP
        have h := HoldG.new V53.out
        have b := al_below w53 (.cells #[.bool d53, .slice A53 n53 c53, .bool e53, .slice E53 m53 f53] 42)
        replace R0 := Lib.hid (R0.out.below b)
        replace HB := Lib.hid (bstep HB.out b)
        replace H51 := Lib.hid (H51.out.below b)
        replace H52 := Lib.hid (H52.out.below b)
        clear b
        have H53 := Lib.hid h
        clear h V53
        have gH530 := H53.out.c0
        have gH531 := H53.out.c1
        have gH532 := H53.out.c2
        have gH533 := H53.out.c3
        go_wp2_with fail
        refine (gtext_x x _ _ H53.out.2 IX.out T HT.out).mono ?_
        rintro e w54 ⟨rfl, b⟩
        clear gH530 gH531 gH532 gH533
        have z54 := b.size
        simp only [World.size_alloc] at z54
        replace z54 := Lib.hid z54
        replace R0 := Lib.hid (R0.out.below b)
        replace HB := Lib.hid (bstep HB.out b)
        replace H51 := Lib.hid (H51.out.below b)
        replace H52 := Lib.hid (H52.out.below b)
        replace H53 := Lib.hid (H53.out.below b)
        clear b
        go_wp2_with fail
        refine (gof_zero _).mono ?_
        rintro e w55 ⟨v, rfl, h, b⟩
        obtain ⟨d55, A55, n55, c55, e55, E55, m55, f55, rfl⟩ := h.shape
        have z55 := b.size
        replace z55 := Lib.hid z55
        replace R0 := Lib.hid (R0.out.below b)
        replace HB := Lib.hid (bstep HB.out b)
        replace H51 := Lib.hid (H51.out.below b)
        replace H52 := Lib.hid (H52.out.below b)
        replace H53 := Lib.hid (H53.out.below b)
        have V55 := Lib.hid h
        clear h b
        have gR00 := R0.out.c0
        have yR00 := R0.out.f0
        have gR01 := R0.out.c1
        have yR01 := R0.out.f1
        have gR02 := R0.out.c2
        have yR02 := R0.out.f2
        have gR03 := R0.out.c3
        have yR03 := R0.out.f3
        have HF := Lib.hid (retG (V55.out) R0.out HB.out (by omega))
        clear R0 HB H51 H52 H53 V55
        clear HP HQ HX HE1 HE2 LP LQ HS HE3 IX HT HUL HDL
        go_wp2_with fail
        exact bodyPost_ret (v := .tuple #[.agg #[.bool d55, .slice A55 n55 c55, .bool e55, .slice E55 m55 f55], .int .i64 2]) (by simp [results, Tryz.results52, go_sem, gR00, gR01, gR02, gR03]) rfl ⟨_, rfl, HF.out.1, HF.out.2.1⟩
      · have hb1 : ((s[i].toNat : Int) == 47) = false := by simpa using hb
        have SN := Lib.hid (slash_no hlt HN.out hb)
        clear HN
        go_wp2_with fail
        go_roundg (gk - 1)
        case measure => omega
        case rel => exact ⟨i + 1, by omega, rfl, rfl, by go_num, SN, R0, HB⟩
    · obtain rfl : i = s.size := by omega
      have SL := Lib.hid (slash_end HN.out)
      have HUL := Lib.hid (SL.out.1)
      have HDL := Lib.hid (SL.out.2)
      clear HN
      go_wp2_with fail
      have HMP := rparse_as s wr HS.out p e1 (by rw [HUL.out]; exact HP.out)
      rw [HE1.out] at HMP
      refine (HMP).mono ?_
      rintro e w56 ⟨v, rfl, h, b⟩
      obtain ⟨d56, A56, n56, c56, rfl⟩ := h.shape'
      have z56 := b.size
      replace z56 := Lib.hid z56
      replace R0 := Lib.hid (R0.out.below b)
      replace HB := Lib.hid (bstep HB.out b)
      have V56 := Lib.hid h
      clear h b
      clear HMP
      have h := HoldN.new V56.out
      have b := al_below w56 (.cells #[.bool d56, .slice A56 n56 c56] 24)
      replace R0 := Lib.hid (R0.out.below b)
      replace HB := Lib.hid (bstep HB.out b)
      clear b
      have H56 := Lib.hid h
      clear h V56
      go_wp2_with fail
      have HMP := rparse_as ⟨#[49]⟩ (w56.alloc (.cells #[.bool d56, .slice A56 n56 c56] 24)) (by decide) q e2 (by rw [HDL.out]; exact HQ.out)
      rw [HE2.out] at HMP
      refine (HMP).mono ?_
      rintro e w57 ⟨v, rfl, h, b⟩
      obtain ⟨d57, A57, n57, c57, rfl⟩ := h.shape'
      have z57 := b.size
      simp only [World.size_alloc] at z57
      replace z57 := Lib.hid z57
      replace R0 := Lib.hid (R0.out.below b)
      replace HB := Lib.hid (bstep HB.out b)
      replace H56 := Lib.hid (H56.out.below b)
      have V57 := Lib.hid h
      clear h b
      clear HMP
      have h := HoldN.new V57.out
      have b := al_below w57 (.cells #[.bool d57, .slice A57 n57 c57] 24)
      replace R0 := Lib.hid (R0.out.below b)
      replace HB := Lib.hid (bstep HB.out b)
      replace H56 := Lib.hid (H56.out.below b)
      clear b
      have H57 := Lib.hid h
      clear h V57
      have gH560 := H56.out.c0
      have gH561 := H56.out.c1
      have gH570 := H57.out.c0
      have gH571 := H57.out.c1
      go_wp2_with fail
      have HMP := gmake_any p q _ _ _ H56.out.2 H57.out.2 (fit_bits LP.out) (fit_bits LQ.out)
      rw [HX.out, HE3.out] at HMP
      refine (HMP).mono ?_
      rintro e w58 ⟨v, rfl, h, b⟩
      obtain ⟨d58, A58, n58, c58, e58, E58, m58, f58, rfl⟩ := h.shape
      clear gH560 gH561 gH570 gH571
      have z58 := b.size
      simp only [World.size_alloc] at z58
      replace z58 := Lib.hid z58
      replace R0 := Lib.hid (R0.out.below b)
      replace HB := Lib.hid (bstep HB.out b)
      replace H56 := Lib.hid (H56.out.below b)
      replace H57 := Lib.hid (H57.out.below b)
      have V58 := Lib.hid h
      clear h b
      clear HMP
      have h := HoldG.new V58.out
      have b := al_below w58 (.cells #[.bool d58, .slice A58 n58 c58, .bool e58, .slice E58 m58 f58] 42)
      replace R0 := Lib.hid (R0.out.below b)
      replace HB := Lib.hid (bstep HB.out b)
      replace H56 := Lib.hid (H56.out.below b)
      replace H57 := Lib.hid (H57.out.below b)
      clear b
      have H58 := Lib.hid h
      clear h V58
      have gH580 := H58.out.c0
      have gH581 := H58.out.c1
      have gH582 := H58.out.c2
      have gH583 := H58.out.c3
      go_wp2_with fail
      refine (gtext_x x _ _ H58.out.2 IX.out T HT.out).mono ?_
      rintro e w59 ⟨rfl, b⟩
      clear gH580 gH581 gH582 gH583
      have z59 := b.size
      simp only [World.size_alloc] at z59
      replace z59 := Lib.hid z59
      replace R0 := Lib.hid (R0.out.below b)
      replace HB := Lib.hid (bstep HB.out b)
      replace H56 := Lib.hid (H56.out.below b)
      replace H57 := Lib.hid (H57.out.below b)
      replace H58 := Lib.hid (H58.out.below b)
      clear b
      go_wp2_with fail
      refine (gof_zero _).mono ?_
      rintro e w60 ⟨v, rfl, h, b⟩
      obtain ⟨d60, A60, n60, c60, e60, E60, m60, f60, rfl⟩ := h.shape
      have z60 := b.size
      replace z60 := Lib.hid z60
      replace R0 := Lib.hid (R0.out.below b)
      replace HB := Lib.hid (bstep HB.out b)
      replace H56 := Lib.hid (H56.out.below b)
      replace H57 := Lib.hid (H57.out.below b)
      replace H58 := Lib.hid (H58.out.below b)
      have V60 := Lib.hid h
      clear h b
      have gR00 := R0.out.c0
      have yR00 := R0.out.f0
      have gR01 := R0.out.c1
      have yR01 := R0.out.f1
      have gR02 := R0.out.c2
      have yR02 := R0.out.f2
      have gR03 := R0.out.c3
      have yR03 := R0.out.f3
      have HF := Lib.hid (retG (V60.out) R0.out HB.out (by omega))
      clear R0 HB H56 H57 H58 V60
      clear HP HQ HX HE1 HE2 LP LQ HS HE3 IX HT HUL HDL
      go_wp2_with fail
      exact bodyPost_ret (v := .tuple #[.agg #[.bool d60, .slice A60 n60 c60, .bool e60, .slice E60 m60 f60], .int .i64 2]) (by simp [results, Tryz.results52, go_sem, gR00, gR01, gR02, gR03]) rfl ⟨_, rfl, HF.out.1, HF.out.2.1⟩
set_option maxRecDepth 100000 in
set_option maxHeartbeats 8000000 in
theorem gparse_good (s : ByteArray) (w : World) (hs : s.size ≤ maxLen) (p q : Int) (e1 e2 : Nat) (x : Rat) (hp : parseT (aboveT s.data.toList) = (p, e1)) (hq : parseT (belowT s.data.toList) = (q, e2)) (hx : Rat.divInt p q = x) (hE1 : (e1 : Int) = 0) (hE2 : (e2 : Int) = 0) (hE3 : makeE q = 0) (ix : InF x) (T : ByteArray) (hT : strB (textQ x) = T) (hne : (T.toList == s.toList) = true) :
    Calls Tryz.prog 52 #[.string s] w (NewGE x 0 w) := by
  have HP := Lib.hid hp
  have HQ := Lib.hid hq
  have HX := Lib.hid hx
  have HE1 := Lib.hid hE1
  have HE2 := Lib.hid hE2
  have LP := Lib.hid (parse_lt hp)
  have LQ := Lib.hid (parse_lt hq)
  have HS := Lib.hid hs
  have hsz : s.size ≤ 9223372036854775807 := by unfold maxLen at hs; omega
  clear hp hq hx hE1 hE2 hs
  have HE3 := Lib.hid hE3
  clear hE3
  have IX := Lib.hid ix
  have HT := Lib.hid hT
  clear ix hT
  have HB := Lib.hid (Below.refl w.heap.size w)
  go_enter Tryz.func52, Tryz.ntmps52
  have h := Blk4.new w 42 (.bool false) (.slice none 0 0) (.bool false) (.slice none 0 0)
  have b := al_below w (.cells #[.bool false, .slice none 0 0, .bool false, .slice none 0 0] 42)
  replace HB := Lib.hid (bstep HB.out b)
  clear b
  have R0 := Lib.hid (show Blk4 _ (w.heap.size) 42 (.bool false) (.slice none 0 0) (.bool false) (.slice none 0 0) from h)
  clear h
  go_wp2_with fail
  go_loopg [4, 5, 6] s.size (fun gk tv bv iv wr => ∃ i : Nat, gk + i = s.size ∧ tv = .string s ∧ bv = .string ⟨#[49]⟩ ∧ iv = .int .i64 i ∧ Hid (∀ b ∈ s.data.toList.take i, slash b = false) ∧ Hid (Blk4 wr (w.heap.size) 42 (.bool false) (.slice none 0 0) (.bool false) (.slice none 0 0)) ∧ Hid (Below w.heap.size w wr))
  case atStart => exact ⟨0, by omega, rfl, rfl, rfl, Lib.hid (by intro b hb; simp at hb), R0, HB⟩
  case round =>
    clear R0 HB
    obtain ⟨i, hgi, rfl, rfl, rfl, HN, R0, HB⟩ := hrel
    by_cases hlt : i < s.size
    · have ei : IntKind.i64.wrap ((i : Int) + 1) = (i : Int) + 1 := IntWalk.i64_in _ (by omega)
      have hlti : (i : Int) < (s.size : Int) := by omega
      have hip : (0 : Int) ≤ (i : Int) := Int.natCast_nonneg _
      by_cases hb : (s[i].toNat : Int) = 47
      · have hb1 : ((s[i].toNat : Int) == 47) = true := by simpa using hb
        have SL := Lib.hid (slash_at hlt HN.out hb)
        have HUL := Lib.hid (SL.out.1)
        have HDL := Lib.hid (SL.out.2)
        clear HN
        go_wp2_with fail
        have HMP := rparse_as (s.extract 0 i) wr (ext_le HS.out _ _) p e1 (by rw [HUL.out]; exact HP.out)
        rw [HE1.out] at HMP
        refine (HMP).mono ?_
        rintro e w51 ⟨v, rfl, h, b⟩
        obtain ⟨d51, A51, n51, c51, rfl⟩ := h.shape'
        have z51 := b.size
        replace z51 := Lib.hid z51
        replace R0 := Lib.hid (R0.out.below b)
        replace HB := Lib.hid (bstep HB.out b)
        have V51 := Lib.hid h
        clear h b
        clear HMP
        have h := HoldN.new V51.out
        have b := al_below w51 (.cells #[.bool d51, .slice A51 n51 c51] 24)
        replace R0 := Lib.hid (R0.out.below b)
        replace HB := Lib.hid (bstep HB.out b)
        clear b
        have H51 := Lib.hid h
        clear h V51
        go_wp2_with fail
        have HMP := rparse_as (s.extract (i + 1) s.size) (w51.alloc (.cells #[.bool d51, .slice A51 n51 c51] 24)) (ext_le HS.out _ _) q e2 (by rw [HDL.out]; exact HQ.out)
        rw [HE2.out] at HMP
        refine (HMP).mono ?_
        rintro e w52 ⟨v, rfl, h, b⟩
        obtain ⟨d52, A52, n52, c52, rfl⟩ := h.shape'
        have z52 := b.size
        simp only [World.size_alloc] at z52
        replace z52 := Lib.hid z52
        replace R0 := Lib.hid (R0.out.below b)
        replace HB := Lib.hid (bstep HB.out b)
        replace H51 := Lib.hid (H51.out.below b)
        have V52 := Lib.hid h
        clear h b
        clear HMP
        have h := HoldN.new V52.out
        have b := al_below w52 (.cells #[.bool d52, .slice A52 n52 c52] 24)
        replace R0 := Lib.hid (R0.out.below b)
        replace HB := Lib.hid (bstep HB.out b)
        replace H51 := Lib.hid (H51.out.below b)
        clear b
        have H52 := Lib.hid h
        clear h V52
        have gH510 := H51.out.c0
        have gH511 := H51.out.c1
        have gH520 := H52.out.c0
        have gH521 := H52.out.c1
        go_wp2_with fail
        have HMP := gmake_any p q _ _ _ H51.out.2 H52.out.2 (fit_bits LP.out) (fit_bits LQ.out)
        rw [HX.out, HE3.out] at HMP
        refine (HMP).mono ?_
        rintro e w53 ⟨v, rfl, h, b⟩
        obtain ⟨d53, A53, n53, c53, e53, E53, m53, f53, rfl⟩ := h.shape
        clear gH510 gH511 gH520 gH521
        have z53 := b.size
        simp only [World.size_alloc] at z53
        replace z53 := Lib.hid z53
        replace R0 := Lib.hid (R0.out.below b)
        replace HB := Lib.hid (bstep HB.out b)
        replace H51 := Lib.hid (H51.out.below b)
        replace H52 := Lib.hid (H52.out.below b)
        have V53 := Lib.hid h
        clear h b
        clear HMP
        have h := HoldG.new V53.out
        have b := al_below w53 (.cells #[.bool d53, .slice A53 n53 c53, .bool e53, .slice E53 m53 f53] 42)
        replace R0 := Lib.hid (R0.out.below b)
        replace HB := Lib.hid (bstep HB.out b)
        replace H51 := Lib.hid (H51.out.below b)
        replace H52 := Lib.hid (H52.out.below b)
        clear b
        have H53 := Lib.hid h
        clear h V53
        have gH530 := H53.out.c0
        have gH531 := H53.out.c1
        have gH532 := H53.out.c2
        have gH533 := H53.out.c3
        go_wp2_with fail
        refine (gtext_x x _ _ H53.out.2 IX.out T HT.out).mono ?_
        rintro e w54 ⟨rfl, b⟩
        clear gH530 gH531 gH532 gH533
        have z54 := b.size
        simp only [World.size_alloc] at z54
        replace z54 := Lib.hid z54
        replace R0 := Lib.hid (R0.out.below b)
        replace HB := Lib.hid (bstep HB.out b)
        replace H51 := Lib.hid (H51.out.below b)
        replace H52 := Lib.hid (H52.out.below b)
        replace H53 := Lib.hid (H53.out.below b)
        clear b
        have gR00 := R0.out.c0
        have yR00 := R0.out.f0
        have gR01 := R0.out.c1
        have yR01 := R0.out.f1
        have gR02 := R0.out.c2
        have yR02 := R0.out.f2
        have gR03 := R0.out.c3
        have yR03 := R0.out.f3
        have gH530 := H53.out.c0
        have gH531 := H53.out.c1
        have gH532 := H53.out.c2
        have gH533 := H53.out.c3
        have HF := Lib.hid (retG (H53.out.2) R0.out HB.out (by omega))
        clear R0 HB H51 H52 H53
        clear HP HQ HX HE1 HE2 LP LQ HS HE3 IX HT HUL HDL
        go_wp2_with fail
        exact bodyPost_ret (v := .tuple #[.agg #[.bool d53, .slice A53 n53 c53, .bool e53, .slice E53 m53 f53], .int .i64 0]) (by simp [results, Tryz.results52, go_sem, gR00, gR01, gR02, gR03]) rfl ⟨_, rfl, HF.out.1, HF.out.2.1⟩
      · have hb1 : ((s[i].toNat : Int) == 47) = false := by simpa using hb
        have SN := Lib.hid (slash_no hlt HN.out hb)
        clear HN
        go_wp2_with fail
        go_roundg (gk - 1)
        case measure => omega
        case rel => exact ⟨i + 1, by omega, rfl, rfl, by go_num, SN, R0, HB⟩
    · obtain rfl : i = s.size := by omega
      have SL := Lib.hid (slash_end HN.out)
      have HUL := Lib.hid (SL.out.1)
      have HDL := Lib.hid (SL.out.2)
      clear HN
      go_wp2_with fail
      have HMP := rparse_as s wr HS.out p e1 (by rw [HUL.out]; exact HP.out)
      rw [HE1.out] at HMP
      refine (HMP).mono ?_
      rintro e w55 ⟨v, rfl, h, b⟩
      obtain ⟨d55, A55, n55, c55, rfl⟩ := h.shape'
      have z55 := b.size
      replace z55 := Lib.hid z55
      replace R0 := Lib.hid (R0.out.below b)
      replace HB := Lib.hid (bstep HB.out b)
      have V55 := Lib.hid h
      clear h b
      clear HMP
      have h := HoldN.new V55.out
      have b := al_below w55 (.cells #[.bool d55, .slice A55 n55 c55] 24)
      replace R0 := Lib.hid (R0.out.below b)
      replace HB := Lib.hid (bstep HB.out b)
      clear b
      have H55 := Lib.hid h
      clear h V55
      go_wp2_with fail
      have HMP := rparse_as ⟨#[49]⟩ (w55.alloc (.cells #[.bool d55, .slice A55 n55 c55] 24)) (by decide) q e2 (by rw [HDL.out]; exact HQ.out)
      rw [HE2.out] at HMP
      refine (HMP).mono ?_
      rintro e w56 ⟨v, rfl, h, b⟩
      obtain ⟨d56, A56, n56, c56, rfl⟩ := h.shape'
      have z56 := b.size
      simp only [World.size_alloc] at z56
      replace z56 := Lib.hid z56
      replace R0 := Lib.hid (R0.out.below b)
      replace HB := Lib.hid (bstep HB.out b)
      replace H55 := Lib.hid (H55.out.below b)
      have V56 := Lib.hid h
      clear h b
      clear HMP
      have h := HoldN.new V56.out
      have b := al_below w56 (.cells #[.bool d56, .slice A56 n56 c56] 24)
      replace R0 := Lib.hid (R0.out.below b)
      replace HB := Lib.hid (bstep HB.out b)
      replace H55 := Lib.hid (H55.out.below b)
      clear b
      have H56 := Lib.hid h
      clear h V56
      have gH550 := H55.out.c0
      have gH551 := H55.out.c1
      have gH560 := H56.out.c0
      have gH561 := H56.out.c1
      go_wp2_with fail
      have HMP := gmake_any p q _ _ _ H55.out.2 H56.out.2 (fit_bits LP.out) (fit_bits LQ.out)
      rw [HX.out, HE3.out] at HMP
      refine (HMP).mono ?_
      rintro e w57 ⟨v, rfl, h, b⟩
      obtain ⟨d57, A57, n57, c57, e57, E57, m57, f57, rfl⟩ := h.shape
      clear gH550 gH551 gH560 gH561
      have z57 := b.size
      simp only [World.size_alloc] at z57
      replace z57 := Lib.hid z57
      replace R0 := Lib.hid (R0.out.below b)
      replace HB := Lib.hid (bstep HB.out b)
      replace H55 := Lib.hid (H55.out.below b)
      replace H56 := Lib.hid (H56.out.below b)
      have V57 := Lib.hid h
      clear h b
      clear HMP
      have h := HoldG.new V57.out
      have b := al_below w57 (.cells #[.bool d57, .slice A57 n57 c57, .bool e57, .slice E57 m57 f57] 42)
      replace R0 := Lib.hid (R0.out.below b)
      replace HB := Lib.hid (bstep HB.out b)
      replace H55 := Lib.hid (H55.out.below b)
      replace H56 := Lib.hid (H56.out.below b)
      clear b
      have H57 := Lib.hid h
      clear h V57
      have gH570 := H57.out.c0
      have gH571 := H57.out.c1
      have gH572 := H57.out.c2
      have gH573 := H57.out.c3
      go_wp2_with fail
      refine (gtext_x x _ _ H57.out.2 IX.out T HT.out).mono ?_
      rintro e w58 ⟨rfl, b⟩
      clear gH570 gH571 gH572 gH573
      have z58 := b.size
      simp only [World.size_alloc] at z58
      replace z58 := Lib.hid z58
      replace R0 := Lib.hid (R0.out.below b)
      replace HB := Lib.hid (bstep HB.out b)
      replace H55 := Lib.hid (H55.out.below b)
      replace H56 := Lib.hid (H56.out.below b)
      replace H57 := Lib.hid (H57.out.below b)
      clear b
      have gR00 := R0.out.c0
      have yR00 := R0.out.f0
      have gR01 := R0.out.c1
      have yR01 := R0.out.f1
      have gR02 := R0.out.c2
      have yR02 := R0.out.f2
      have gR03 := R0.out.c3
      have yR03 := R0.out.f3
      have gH570 := H57.out.c0
      have gH571 := H57.out.c1
      have gH572 := H57.out.c2
      have gH573 := H57.out.c3
      have HF := Lib.hid (retG (H57.out.2) R0.out HB.out (by omega))
      clear R0 HB H55 H56 H57
      clear HP HQ HX HE1 HE2 LP LQ HS HE3 IX HT HUL HDL
      go_wp2_with fail
      exact bodyPost_ret (v := .tuple #[.agg #[.bool d57, .slice A57 n57 c57, .bool e57, .slice E57 m57 f57], .int .i64 0]) (by simp [results, Tryz.results52, go_sem, gR00, gR01, gR02, gR03]) rfl ⟨_, rfl, HF.out.1, HF.out.2.1⟩
theorem gparse_any (s : ByteArray) (w : World) (hs : s.size ≤ maxLen) : Calls Tryz.prog 52 #[.string s] w (NewGE (parseQ s.data.toList).1 ((parseQ s.data.toList).2 : Int) w) := by
  obtain ⟨p, e1, hp⟩ : ∃ p e1, parseT (aboveT s.data.toList) = (p, e1) := ⟨_, _, rfl⟩
  obtain ⟨q, e2, hq⟩ : ∃ q e2, parseT (belowT s.data.toList) = (q, e2) := ⟨_, _, rfl⟩
  have bad : ¬ ((parseT (aboveT s.data.toList)).2 = 0 ∧ (parseT (belowT s.data.toList)).2 = 0 ∧ (parseT (belowT s.data.toList)).1 ≠ 0 ∧ textQ (Rat.divInt (parseT (aboveT s.data.toList)).1 (parseT (belowT s.data.toList)).1) = s.data.toList) → parseQ s.data.toList = (0, 2) := fun h => by
    unfold parseQ
    exact if_neg h
  rw [hp, hq] at bad
  by_cases h1 : e1 = 0
  · by_cases h2 : e2 = 0
    · by_cases hq0 : q = 0
      · rw [bad (fun h => h.2.2.1 hq0)]
        exact gparse_b3 s w hs p q e1 e2 _ hp hq rfl (by omega) (by omega) (make_zero (x := p) hq0).2
      · have ix : InF (Rat.divInt p q) := quo_in (parse_lt hp) (parse_lt hq)
        have hcmp : ((strB (textQ (Rat.divInt p q))).toList == s.toList) = decide (textQ (Rat.divInt p q) = s.data.toList) := by
          rw [Lib.toList_data, Lib.toList_data, strB_list]
          by_cases e : textQ (Rat.divInt p q) = s.data.toList
          · rw [e]; simp
          · rw [decide_eq_false e]; simp [e]
        by_cases ht : textQ (Rat.divInt p q) = s.data.toList
        · have e : parseQ s.data.toList = (Rat.divInt p q, 0) := by
            unfold parseQ
            rw [hp, hq]
            exact if_pos ⟨h1, h2, hq0, ht⟩
          rw [e]
          exact gparse_good s w hs p q e1 e2 _ hp hq rfl (by omega) (by omega) (make_nz hq0) ix _ rfl (by rw [hcmp, decide_eq_true ht])
        · rw [bad (fun h => ht h.2.2.2)]
          exact gparse_odd s w hs p q e1 e2 _ hp hq rfl (by omega) (by omega) (make_nz hq0) ix _ rfl (by rw [hcmp, decide_eq_false ht])
    · rw [bad (fun h => h2 h.2.1)]
      exact gparse_b2 s w hs p q e1 e2 _ hp hq rfl _ (by omega) rfl (by omega)
  · rw [bad (fun h => h1 h.1)]
    exact gparse_b1 s w hs p q e1 e2 _ hp hq rfl _ _ rfl rfl (by omega)
end Go.Proofs.YtocooajlfpngdaaGreatDoor
