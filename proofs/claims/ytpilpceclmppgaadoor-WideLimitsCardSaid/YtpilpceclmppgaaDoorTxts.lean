/- Contracts of package wide's texts: canonical. · Contracts of package wide's texts: fromDecimals. · Contracts of package wide's texts: Parse. · Contracts of package wide's texts: slices.Reverse at bytes. · Contracts of package wide's texts: decimals. · Texts of package wide's integers: the bytes of String. · Contracts of package wide's texts: String. -/
import Derived.Test.YtpilpceclmppgaaDoorInts
import Derived.Test.YtpilpceclmppgaaDoorNums
import Derived.Lib.AtoiErrMem
import Derived.Test.YtpilpceclmppgaaDoorConvB
import Derived.Test.YtpilpceclmppgaaDoorRef3O
namespace Go.Proofs.YtpilpceclmppgaaDoor
open Go.RowKit
set_option linter.unusedVariables false

theorem can_nil : canT [] = false := rfl
theorem can_zero {l : List UInt8} (h : 1 < l.length) (h0 : l[0]? = some 48) : canT l = false := by
  unfold canT
  rw [decide_eq_false (by omega), List.head?_eq_getElem?, h0]
  simp
theorem can_bad {l : List UInt8} (i : Nat) (hi : i < l.length) (h : isD l[i] = false) : canT l = false := by
  have : l.all isD = false := by
    rw [List.all_eq_false]
    exact ⟨_, List.getElem_mem hi, by simp [h]⟩
  unfold canT; rw [this, Bool.and_false]
theorem can_good {l : List UInt8} (h0 : 0 < l.length) (h1 : ¬ (1 < l.length ∧ l[0]? = some 48)) (h : ∀ i, (hi : i < l.length) → isD l[i] = true) : canT l = true := by
  have ha : l.all isD = true := by
    rw [List.all_eq_true]
    intro b hb
    obtain ⟨i, hi, rfl⟩ := List.getElem_of_mem hb
    exact h i hi
  unfold canT
  rw [ha, Bool.and_true]
  have e1 : l.isEmpty = false := by rw [List.isEmpty_eq_false_iff]; intro e; rw [e] at h0; simp at h0
  rw [e1]
  by_cases hl : 1 < l.length
  · have : ¬ l[0]? = some 48 := fun h2 => h1 ⟨hl, h2⟩
    rw [List.head?_eq_getElem?]
    simp [this]
  · rw [decide_eq_true (show l.length ≤ 1 by omega)]; rfl
theorem byte_at (s : ByteArray) (i : Nat) (h : i < s.size) : s.data.toList[i]? = some s[i] := by
  rw [List.getElem?_eq_getElem (by rw [← Lib.size_eq]; exact h)]
  rfl
set_option maxRecDepth 10000 in
set_option maxHeartbeats 1000000 in
theorem canonical_any (s : ByteArray) (w : World) (hs : s.size ≤ 100000) :
    Calls Tryd.prog 48 #[.string s] w fun e w' => e = .returned (.bool (canT s.data.toList)) ∧ w = w' := by
  have hl : s.data.toList.length = s.size := (Lib.size_eq s).symm
  have hte : s.toList.isEmpty = decide (s.size = 0) := by
    rw [Lib.toList_data]
    rcases Nat.eq_zero_or_pos s.size with h0 | h0
    · rw [List.length_eq_zero_iff.1 (hl.trans h0), h0]; rfl
    · rw [decide_eq_false (by omega), List.isEmpty_eq_false_iff]
      intro e; rw [e] at hl; simp at hl; omega
  obtain ⟨C, hC⟩ : ∃ C, C = canT s.data.toList := ⟨_, rfl⟩
  rw [← hC]
  rcases Nat.eq_zero_or_pos s.size with h0 | h0
  · rw [h0] at hte
    have hte' : s.toList.isEmpty = true := hte
    obtain rfl : C = false := by rw [hC, List.length_eq_zero_iff.1 (hl.trans h0)]; rfl
    clear hte hC
    go_enter Tryd.func48, Tryd.ntmps48
    go_wp2_with fail
    go_ret
    exact ⟨rfl, rfl⟩
  · rw [decide_eq_false (show ¬ s.size = 0 by omega)] at hte
    by_cases hA : 1 < s.size ∧ (s[0].toNat : Int) = 48
    · obtain ⟨h1, h2⟩ := hA
      obtain rfl : C = false := by
        rw [hC]
        refine can_zero (by omega) ?_
        rw [byte_at s 0 h0]
        congr 1
        exact UInt8.toNat_inj.1 (by show s[0].toNat = 48; omega)
      have h1' : (1 : Int) < (s.size : Int) := by omega
      have h2' : ((s[0].toNat : Int) == 48) = true := by rw [beq_iff_eq]; exact h2
      clear hC
      go_enter Tryd.func48, Tryd.ntmps48
      go_wp2_with fail
      go_ret
      exact ⟨rfl, rfl⟩
    · have HC := Lib.hid hC
      have HA := Lib.hid hA
      have hg : ∀ (hall : ∀ i, (hi : i < s.size) → isD s[i] = true), C = true := fun hall => by
        rw [hC]
        refine can_good (by omega) (fun h => hA ⟨by omega, ?_⟩) (fun i hi => ?_)
        · have := h.2
          rw [byte_at s 0 h0] at this
          injection this with this
          rw [this]; rfl
        · exact hall i (by omega)
      have hb : ∀ i, (hi : i < s.size) → isD s[i] = false → C = false := fun i hi h => by
        rw [hC]
        exact can_bad i (by omega) h
      have HG := Lib.hid hg
      have HB := Lib.hid hb
      clear hg hb hC
      by_cases h1 : (1 : Int) < (s.size : Int)
      · have h2 : ((s[0].toNat : Int) == 48) = false := by rw [beq_eq_false_iff_ne]; exact fun h => hA ⟨by omega, h⟩
        clear hA
        go_enter Tryd.func48, Tryd.ntmps48
        go_wp2_with fail
        go_loop [18] (fun iv => ∃ i : Nat, i ≤ s.size ∧ iv = .int .i64 i ∧ Hid (∀ j, (hj : j < i) → (hi : j < s.size) → isD s[j] = true)) (fun iv => s.size - (intOf iv).toNat)
        case atStart => exact ⟨0, Nat.zero_le _, rfl, fun j hj => by omega⟩
        case round =>
          obtain ⟨i, hi, rfl, HD⟩ := hrel
          by_cases hlt : i < s.size
          · by_cases hd1 : (s[i].toNat : Int) < 48
            · obtain rfl : C = false := HB.out i hlt (by unfold isD; rw [decide_eq_false]; omega)
              go_wp2_with fail
              go_ret
              exact ⟨rfl, rfl⟩
            · by_cases hd2 : (57 : Int) < (s[i].toNat : Int)
              · obtain rfl : C = false := HB.out i hlt (by unfold isD; rw [decide_eq_false]; omega)
                go_wp2_with fail
                go_ret
                exact ⟨rfl, rfl⟩
              · have HD2 := Lib.hid (show ∀ j, (hj : j < i + 1) → (hi : j < s.size) → isD s[j] = true from fun j hj hi => by
                  rcases Nat.lt_or_ge j i with h | h
                  · exact HD.out j h hi
                  · obtain rfl : j = i := by omega
                    unfold isD; rw [decide_eq_true]; omega)
                go_wp2_with fail
                exact ⟨⟨i + 1, by omega, by go_num, HD2.out⟩, by simp [intOf]; omega⟩
          · obtain rfl : C = true := HG.out (fun j hj => HD.out j (by omega) hj)
            go_wp2_with fail
            go_ret
            exact ⟨rfl, rfl⟩
      · clear hA
        go_enter Tryd.func48, Tryd.ntmps48
        go_wp2_with fail
        go_loop [18] (fun iv => ∃ i : Nat, i ≤ s.size ∧ iv = .int .i64 i ∧ Hid (∀ j, (hj : j < i) → (hi : j < s.size) → isD s[j] = true)) (fun iv => s.size - (intOf iv).toNat)
        case atStart => exact ⟨0, Nat.zero_le _, rfl, fun j hj => by omega⟩
        case round =>
          obtain ⟨i, hi, rfl, HD⟩ := hrel
          by_cases hlt : i < s.size
          · by_cases hd1 : (s[i].toNat : Int) < 48
            · obtain rfl : C = false := HB.out i hlt (by unfold isD; rw [decide_eq_false]; omega)
              go_wp2_with fail
              go_ret
              exact ⟨rfl, rfl⟩
            · by_cases hd2 : (57 : Int) < (s[i].toNat : Int)
              · obtain rfl : C = false := HB.out i hlt (by unfold isD; rw [decide_eq_false]; omega)
                go_wp2_with fail
                go_ret
                exact ⟨rfl, rfl⟩
              · have HD2 := Lib.hid (show ∀ j, (hj : j < i + 1) → (hi : j < s.size) → isD s[j] = true from fun j hj hi => by
                  rcases Nat.lt_or_ge j i with h | h
                  · exact HD.out j h hi
                  · obtain rfl : j = i := by omega
                    unfold isD; rw [decide_eq_true]; omega)
                go_wp2_with fail
                exact ⟨⟨i + 1, by omega, by go_num, HD2.out⟩, by simp [intOf]; omega⟩
          · obtain rfl : C = true := HG.out (fun j hj => HD.out j (by omega) hj)
            go_wp2_with fail
            go_ret
            exact ⟨rfl, rfl⟩
end Go.Proofs.YtpilpceclmppgaaDoor
namespace Go.Proofs.YtpilpceclmppgaaDoor
open Go.RowKit
set_option linter.unusedVariables false

theorem valT_one (b : UInt8) : valT [b] = dg b := by
  have := valT_snoc [] b
  rw [valT_nil] at this
  simpa using this
theorem valT_cons (b : UInt8) (t : List UInt8) : valT (b :: t) = valT t + 10 ^ t.length * dg b := by
  have := valT_app [b] t
  rwa [valT_one] at this
theorem decFrom_val : ∀ (l : List UInt8) (acc : Nat), (∀ b ∈ l, isD b = true) → ∃ N, Lib.decFrom acc l = some N ∧ (N : Int) = acc * 10 ^ l.length + valT l
  | [], acc, _ => ⟨acc, rfl, by rw [valT_nil]; simp⟩
  | b :: t, acc, h => by
    have hb := (isD_iff b).1 (h b (List.mem_cons_self ..))
    have hd : Lib.digitVal b = some (b.toNat - 48) := by
      unfold Lib.digitVal
      rw [if_pos ⟨hb.1, hb.2⟩]
    obtain ⟨N, h1, h2⟩ := decFrom_val t (acc * 10 + (b.toNat - 48)) (fun c hc => h c (List.mem_cons_of_mem _ hc))
    refine ⟨N, by rw [Lib.decFrom, hd]; exact h1, ?_⟩
    rw [h2, valT_cons, List.length_cons, Int.pow_succ]
    have e : ((acc * 10 + (b.toNat - 48) : Nat) : Int) = acc * 10 + dg b := by unfold dg; omega
    rw [e]
    grind
theorem atoi_digits {l : List UInt8} (h : ∀ b ∈ l, isD b = true) (h0 : l ≠ []) : Lib.atoi l = some (valT l) := by
  match l, h0 with
  | b :: t, _ =>
    have hb := (isD_iff b).1 (h b (List.mem_cons_self ..))
    obtain ⟨N, h1, h2⟩ := decFrom_val (b :: t) 0 h
    have e1 : (b == 45) = false := by rw [beq_eq_false_iff_ne]; intro e; rw [e] at hb; revert hb; decide
    have e2 : (b == 43) = false := by rw [beq_eq_false_iff_ne]; intro e; rw [e] at hb; revert hb; decide
    have e3 : Lib.decNat (b :: t) = some N := h1
    show (if b == 45 then _ else if b == 43 then _ else (Lib.decNat (b :: t)).map fun (m : Nat) => (m : Int)) = _
    rw [e1, e2, e3]
    show some (N : Int) = _
    rw [h2]; simp
/-- the loop's state: g bytes are left -/
def FromS (w : World) (l : List UInt8) (g : Nat) (v u : Value) (wr : World) : Prop :=
  ∃ T A n c zs p, v = .string T ∧ u = .slice A n c ∧ p + g = l.length ∧ T.data.toList = l.drop p ∧ NatR wr wr.heap.size (valT (l.take p)) A n c zs ∧ n ≤ p ∧ (p = 0 ∨ g % 9 = 0) ∧ Below w.heap.size w wr
theorem take_piece {l : List UInt8} {p e : Nat} : l.take (p + e) = l.take p ++ (l.drop p).take e := List.take_add
theorem group_val {l : List UInt8} {p e g : Nat} (hpg : p + g = l.length) (he : e = (g - 1) % 9 + 1) (hg : 0 < g) (hp : p = 0 ∨ g % 9 = 0) : valT (l.take (p + e)) = valT ((l.drop p).take e) + valT (l.take p) * 1000000000 := by
  have hle : e ≤ g := by omega
  rw [take_piece, valT_app, List.length_take, List.length_drop, Nat.min_eq_left (by omega), Int.mul_comm]
  rcases hp with rfl | hp
  · rw [List.take_zero, valT_nil]; simp
  · obtain rfl : e = 9 := by omega
    congr 2
theorem mem_piece {l : List UInt8} (h : ∀ b ∈ l, isD b = true) (p e : Nat) : ∀ b ∈ (l.drop p).take e, isD b = true := fun b hb => h b (List.mem_of_mem_drop (List.mem_of_mem_take hb))
theorem extract_from (s : ByteArray) (a : Nat) : (s.extract a s.size).data.toList = s.data.toList.drop a := by
  rw [ByteArray.data_extract, Array.toList_extract]
  show (s.data.toList.drop a).take (s.size - a) = _
  rw [List.take_of_length_le]
  rw [List.length_drop, ← Lib.size_eq]
  exact Nat.le_refl _
theorem extract_to (s : ByteArray) (a : Nat) : (s.extract 0 a).data.toList = s.data.toList.take a := by
  rw [ByteArray.data_extract, Array.toList_extract]
  show (s.data.toList.drop 0).take (a - 0) = _
  rw [List.drop_zero, Nat.sub_zero]
set_option maxRecDepth 100000 in
set_option maxHeartbeats 1000000 in
theorem fromDecimals_any (s : ByteArray) (l : List UInt8) (hl : s.data.toList = l) (hd : ∀ b ∈ l, isD b = true) (hb : l.length ≤ 5000) (w : World) :
    Calls Tryd.prog 50 #[.string s] w (NewU (valT l) w) := by
  obtain ⟨i0, hi, hz0, hz1, hz2⟩ := info_parts u32_info
  have HS := Lib.hid (show FromS w l l.length (.string s) (.slice none 0 0) w from ⟨s, none, 0, 0, [], 0, rfl, rfl, by omega, by rw [hl, List.drop_zero], by rw [List.take_zero, valT_nil]; exact ⟨Sl.nil _ _ _ _, Nat.le_refl _, Nat.zero_le _, fun _ => rfl, Dig.nil, (fun h => by cases h), rfl⟩, Nat.le_refl _, .inl rfl, Below.refl _ _⟩)
  have HD := Lib.hid hd
  clear hl hd
  go_enter Tryd.func50, Tryd.ntmps50
  go_wp2_with fail
  go_loopg [0, 3] l.length (fun g v u wr => Hid (FromS w l g v u wr))
  case atStart => exact HS.out
  case round =>
    clear HS
    obtain ⟨T, A, n, c, zs, p, rfl, rfl, hpg, hT, hr, hnp, hp, hB⟩ := hrel.out
    clear hrel
    have hTs : T.size = gk := by rw [Lib.size_eq, hT, List.length_drop]; omega
    have HT := Lib.hid hT
    have HR := Lib.hid hr
    have HB := Lib.hid hB
    clear hT hr hB
    rcases Nat.eq_zero_or_pos gk with rfl | hg
    · have HF := Lib.hid (show NewU (valT l) w (.returned (.slice A n c)) wr from ⟨_, _, _, _, rfl, by have := HR.out; rwa [List.take_of_length_le (by omega)] at this, HB.out⟩)
      clear HR HB HT
      go_wp2_with fail
      go_ret
      exact HF.out
    · obtain ⟨e, he⟩ : ∃ e, e = (gk - 1) % 9 + 1 := ⟨_, rfl⟩
      have he9 : e ≤ 9 := by omega
      have hel : e ≤ gk := by omega
      have hE := extract_to T e
      have hEt := extract_from T e
      rw [HT.out] at hE hEt
      rw [List.drop_drop, hTs] at hEt
      have hel0 : ((l.drop p).take e).length = e := by rw [List.length_take, List.length_drop]; omega
      have hEs : (T.extract 0 e).size = e := by rw [Lib.size_eq, hE, hel0]
      have hvb := valT_bd (mem_piece HD.out p e)
      rw [hel0] at hvb
      have hv9 : valT ((l.drop p).take e) < 1000000000 := by
        have h1 := pow_mono' (show (0 : Int) < 10 by omega) he9
        have h2 : (10 : Int) ^ 9 = 1000000000 := by decide
        omega
      have hat := atoi_digits (mem_piece HD.out p e) (by intro e0; rw [e0] at hel0; simp at hel0; omega)
      rw [← hE] at hat
      have HAT := Lib.hid (fun W => Tryd.strconv_Atoi (T.extract 0 e) _ (by omega) hat W)
      have HGV := Lib.hid (group_val hpg he hg hp)
      obtain ⟨x, hx⟩ : ∃ x, x = valT ((l.drop p).take e) := ⟨_, rfl⟩
      rw [hE, ← hx] at HAT
      rw [← hx] at hv9 hvb HGV
      have hv0 : 0 ≤ x := hvb.1
      have HEt := Lib.hid hEt
      have hrem : ((gk : Int) - 1).tmod 9 = ((e : Nat) : Int) - 1 := by
        rw [Int.tmod_eq_emod_of_nonneg (by omega)]; omega
      have e1 : (((e : Nat) : Int) - 1 + 1) = (e : Int) := by omega
      have HE := Lib.hid he
      clear hE hEt hat hvb hel0 hx he
      go_wp2_with fail
      refine (HAT.out _).mono ?_
      rintro e2 w2 ⟨rfl, tb, rfl⟩
      obtain ⟨W2, hW2⟩ : ∃ W2, W2 = Lib.bytesWorld wr 5 tb := ⟨_, rfl⟩
      have hb2 : Below wr.heap.size wr W2 := by rw [hW2]; exact Lib.bytesWorld_below wr 5 tb
      rw [← hW2]
      have HR2 := Lib.hid ((HR.out.below hb2).more hb2.size)
      have HB2 := Lib.hid (HB.out.trans (hb2.mono HB.out.size))
      clear hb2 hW2 HR HB HAT
      go_upto_region 6 with (at_make; refine wpList_make_full _ rfl _ _ _ rfl W2.heap.size 94 i0 _ 1 Tryd.underlying32 hi hz0 hz1 _ _ _ _ (n + 1) rfl rfl (by omega) (by omega) (by rw [hz2]; omega) (by unfold maxLen; omega) (Nat.le_refl _) ?_; intro w4 hown4 hg4)
      have hb4 : Below W2.heap.size W2 w4 := (Below.refl _ _).grown hg4 (Nat.le_refl _) (fun k hk => by cases hk)
      have hR4 : RowW .u32 w4 W2.heap.size 94 (List.replicate (n + 1) 0) := row_zeros hown4
      have hco := hR4.cell 0 (by simp)
      have hfo := hR4.free 0
      have hset := hR4.set_ 0 (by simp) x
      have hdz : Dig 4294967296 ((List.replicate (n + 1) (0 : Int)).set 0 x) := (dig_zeros (by omega) _).set 0 (by omega)
      have hbs : Below W2.heap.size W2 (w4.setCell ⟨W2.heap.size, 0, none⟩ (.int .u32 x)) := hb4.setCell (p := ⟨W2.heap.size, 0, none⟩) (Nat.le_refl _) _
      have HAD := Lib.hid (addTimes_any W2.heap.size 0 (n + 1) (n + 1) A n c 1000000000 zs _ _ hset (by simp) (HR2.out.1.below hbs) (by omega) (by omega) HR2.out.2.2.2.2.1 hdz (by omega))
      have HB4 := Lib.hid (HB2.out.trans (hbs.mono HB2.out.size))
      have hwx : IntKind.u32.wrap x = x := IntWalk.u32_in _ (by omega)
      have hgs : w.heap.size ≤ W2.heap.size := HB2.out.size
      clear hown4 hg4 hb4 hR4 hset hdz hbs
      go_wp2_with fail
      refine HAD.out.mono ?_
      rintro e3 w6 ⟨cy, L, rfl, hR6, hg6, hI6⟩
      have hLn : L.length = n + 1 := by rw [hI6.1]; simp
      have hv6 : dv 4294967296 L = valT (l.take (p + e)) := by
        have h0 : dv 4294967296 ((List.replicate (n + 1) (0 : Int)).set 0 x) = x := by
          rw [dv_set _ _ _ _ (by simp), dv_zeros, Int.pow_zero]; simp
        have hX := HR2.out.lt
        have hX0 := HR2.out.nonneg
        have ez := HR2.out.2.2.2.2.2.2
        have e := hI6.fits (by rw [HR2.out.1.len]; omega) (by simp) (by
          rw [h0, ez, Int.pow_succ]
          generalize (4294967296 : Int) ^ n = P at *
          omega)
        rw [e, h0, ez, HGV.out]
        omega
      have hsl := hR6.sl 0 (n + 1) w6.heap.size (by omega) hR6.lt
      rw [List.drop_zero, List.take_of_length_le (by omega)] at hsl
      have HSL := Lib.hid hsl
      have HDL := Lib.hid hI6.2.1
      have HB6 := Lib.hid (HB4.out.grown hg6 HB4.out.size (fun k hk => by cases hk; exact hgs))
      have HV6 := Lib.hid hv6
      clear hR6 hg6 hI6 hv6 hsl HAD HR2 HB2 HB4 hco hfo
      go_upto_region 8 with (fail)
      go_region_held3 (fun _ => True) (trivial)
        (first
          | (go_at_call 71
             refine (trimmed_any (some ⟨W2.heap.size, 0, none⟩) (n + 1) (n + 1) w6.heap.size L _ (by exact HSL.out) (Nat.le_refl _) (by unfold maxLen; omega) (by intro h; cases h) HDL.out).mono ?_
             rintro e4 w9 ⟨k4, rfl, hk4, hn4, rfl⟩
             have HN4 := Lib.hid hn4
             clear hn4))
      go_wp2_with fail
      have he := HE.out
      have hk4' : k4 ≤ p + e := by omega
      go_roundg (gk - e)
      case measure => omega
      case rel => exact ⟨_, _, k4, n + 1, _, p + e, rfl, rfl, by omega, HEt.out, by rw [← HV6.out]; exact HN4.out, hk4', .inr (by omega), by first | exact HB6.out | exact below_drewN HB6.out _⟩
end Go.Proofs.YtpilpceclmppgaaDoor
namespace Go.Proofs.YtpilpceclmppgaaDoor
open Go.RowKit
set_option linter.unusedVariables false

theorem pre_neg (l : List UInt8) : Lib.hasPrefix l [45] = negT l := by
  unfold negT Lib.hasPrefix
  match l with
  | [] => rfl
  | b :: t =>
    show (45 == b && [].isPrefixOf t) = (some b == some 45)
    by_cases h : b = 45
    · subst h; simp
    · have h2 : ¬ 45 = b := fun e => h e.symm
      rw [show ((45 : UInt8) == b) = false from beq_eq_false_iff_ne.2 h2, show (some b == some (45 : UInt8)) = false from beq_eq_false_iff_ne.2 (fun e => h (Option.some.inj e))]
      rfl
theorem pre_ds (l : List UInt8) : Lib.trimPrefix l [45] = dsT l := by
  unfold Lib.trimPrefix dsT
  rw [pre_neg]
  match l with
  | [] => rfl
  | b :: t => rfl
theorem parse_form {l : List UInt8} (h : l.length ≤ 5000) {C neg t : Bool} (hC : C = canT (dsT l)) (hn : neg = negT l) (ht : t = (dsT l == [48])) :
    (C = false ∨ (neg = true ∧ t = true) → parseT l = (0, 2)) ∧ (C = true → ¬ (neg = true ∧ t = true) → (∀ b ∈ dsT l, isD b = true) ∧ (parseT l).1 = fitI (sgn neg (valT (dsT l))) ∧ ((parseT l).2 : Int) = fitE (sgn neg (valT (dsT l)))) := by
  have hok : okT l = (C && !(neg && t)) := by
    unfold okT
    rw [← hC, ← hn, ht]
    congr 3
    by_cases h : dsT l = [48]
    · rw [h]; rfl
    · rw [decide_eq_false h, beq_eq_false_iff_ne.2 h]
  constructor
  · intro hb
    have : okT l = false := by
      rw [hok]
      rcases hb with rfl | ⟨rfl, rfl⟩
      · rfl
      · cases C <;> rfl
    unfold parseT; rw [if_neg (by omega), if_pos this]
  · intro hc hnt
    have hd : ∀ b ∈ dsT l, isD b = true := by
      rw [hc] at hC
      unfold canT at hC
      have := (Bool.and_eq_true_iff.1 hC.symm).2
      exact List.all_eq_true.1 this
    have hv := (valT_bd hd).1
    have : okT l = true := by
      rw [hok, hc]
      cases neg
      · rfl
      · cases t
        · rfl
        · exact absurd ⟨rfl, rfl⟩ hnt
    have e : parseT l = if lim ≤ valT (dsT l) then (0, 4) else (signI neg (valT (dsT l)), 0) := by
      unfold parseT; rw [if_neg (by omega), if_neg (by rw [this]; simp), ← hn]
    refine ⟨hd, ?_, ?_⟩
    · rw [e, fitI, sgn_abs neg hv]
      by_cases h1 : lim ≤ valT (dsT l)
      · rw [if_pos h1, if_neg (by omega)]
      · rw [if_neg h1, if_pos (by omega)]; rfl
    · rw [e, fitE, sgn_abs neg hv]
      by_cases h1 : lim ≤ valT (dsT l)
      · rw [if_pos h1, if_neg (by omega)]; rfl
      · rw [if_neg h1, if_pos (by omega)]; rfl
set_option maxRecDepth 100000 in
set_option maxHeartbeats 1000000 in
theorem iparse_any (s : ByteArray) (l : List UInt8) (hl : s.data.toList = l) (w : World) :
    Calls Tryd.prog 16 #[.string s] w (NewE (parseT l).1 ((parseT l).2 : Int) w) := by
  have hsz : s.size = l.length := by rw [Lib.size_eq, hl]
  have hal : Below w.heap.size w (w.alloc (.cells #[.bool false, .slice none 0 0] 34)) := (Below.refl _ _).alloc (Nat.le_refl _) _
  have HZ := Lib.hid (fun er => show NewE 0 er w (.returned (.tuple #[.agg #[.bool false, .slice none 0 0], .int .i64 er])) (w.alloc (.cells #[.bool false, .slice none 0 0] 34)) from ⟨_, rfl, RepI.zero _ _, hal⟩)
  by_cases h5 : (5000 : Int) < (s.size : Int)
  · rw [parse_long (l := l) (by omega)]
    have HF := Lib.hid (HZ.out 4)
    clear hal HZ hl hsz
    go_enter Tryd.func16, Tryd.ntmps16
    go_wp2_with fail
    exact bodyPost_ret (v := .tuple #[.agg #[.bool false, .slice none 0 0], .int .i64 4]) (by simp [results, Tryd.results16, go_sem]) rfl HF.out
  · have HCP := Lib.hid (Tryd.strings_CutPrefix s ⟨#[45]⟩ (w.alloc (.cells #[.bool false, .slice none 0 0] 34)))
    rw [hl, show (⟨#[45]⟩ : ByteArray).data.toList = [45] from rfl, pre_neg, pre_ds] at HCP
    obtain ⟨D, hD⟩ : ∃ D : ByteArray, D = ⟨(dsT l).toArray⟩ := ⟨_, rfl⟩
    have hDl : D.data.toList = dsT l := by rw [hD]
    rw [← hD] at HCP
    obtain ⟨neg, hneg⟩ : ∃ neg, neg = negT l := ⟨_, rfl⟩
    rw [← hneg] at HCP
    have hDs : D.size ≤ 5000 := by rw [Lib.size_eq, hDl]; have := ds_len l; omega
    have HCA := Lib.hid (canonical_any D (w.alloc (.cells #[.bool false, .slice none 0 0] 34)) (by omega))
    rw [hDl] at HCA
    obtain ⟨C, hC⟩ : ∃ C, C = canT (dsT l) := ⟨_, rfl⟩
    rw [← hC] at HCA
    obtain ⟨t, ht⟩ : ∃ t, t = (dsT l == [48]) := ⟨_, rfl⟩
    have hte : (D.toList == [48]) = t := by rw [Lib.toList_data, hDl, ht]
    obtain ⟨hbad, hgood⟩ := parse_form (l := l) (by omega) hC hneg ht
    have HK := Lib.hid (Blk2.new w 34 (.bool false) (.slice none 0 0))
    have HAL := Lib.hid hal
    obtain ⟨Z, hZ⟩ : ∃ Z, Z = (parseT l).1 := ⟨_, rfl⟩
    obtain ⟨er, her⟩ : ∃ er : Int, er = ((parseT l).2 : Int) := ⟨_, rfl⟩
    have HBAD := Lib.hid (show C = false ∨ (neg = true ∧ t = true) → Z = 0 ∧ er = 2 from fun h => by rw [hZ, her, hbad h]; exact ⟨rfl, rfl⟩)
    have HGOOD := Lib.hid (show C = true → ¬ (neg = true ∧ t = true) → (∀ b ∈ dsT l, isD b = true) ∧ Z = fitI (sgn neg (valT (dsT l))) ∧ er = fitE (sgn neg (valT (dsT l))) from fun h1 h2 => by rw [hZ, her]; exact hgood h1 h2)
    rw [← hZ, ← her]
    have HDL := Lib.hid hDl
    have hdl := ds_len l
    clear hD hZ her hbad hgood hC hneg ht hal hDl hl
    cases C with
    | false =>
      obtain ⟨rfl, rfl⟩ := HBAD.out (.inl rfl)
      have HF := Lib.hid (HZ.out 2)
      clear HBAD HGOOD HZ
      go_enter Tryd.func16, Tryd.ntmps16
      go_wp2_with fail
      refine HCP.out.mono ?_
      rintro e w1 ⟨rfl, rfl⟩
      go_wp2_with fail
      refine HCA.out.mono ?_
      rintro e w1 ⟨rfl, rfl⟩
      go_wp2_with fail
      exact bodyPost_ret (v := .tuple #[.agg #[.bool false, .slice none 0 0], .int .i64 2]) (by simp [results, Tryd.results16, go_sem]) rfl HF.out
    | true =>
      by_cases hnt : neg = true ∧ t = true
      · obtain ⟨rfl, rfl⟩ := hnt
        obtain ⟨rfl, rfl⟩ := HBAD.out (.inr ⟨rfl, rfl⟩)
        have HF := Lib.hid (HZ.out 2)
        clear HBAD HGOOD HZ
        go_enter Tryd.func16, Tryd.ntmps16
        go_wp2_with fail
        refine HCP.out.mono ?_
        rintro e w1 ⟨rfl, rfl⟩
        go_wp2_with fail
        refine HCA.out.mono ?_
        rintro e w1 ⟨rfl, rfl⟩
        go_wp2_with fail
        exact bodyPost_ret (v := .tuple #[.agg #[.bool false, .slice none 0 0], .int .i64 2]) (by simp [results, Tryd.results16, go_sem]) rfl HF.out
      · obtain ⟨hd, h1, h2⟩ := HGOOD.out rfl hnt
        have HFD := Lib.hid (fromDecimals_any D (dsT l) HDL.out hd (by omega) (w.alloc (.cells #[.bool false, .slice none 0 0] 34)))
        have HP := Lib.hid (And.intro h1 h2)
        clear HBAD HGOOD HZ hd h1 h2
        cases neg with
        | false =>
          go_enter Tryd.func16, Tryd.ntmps16
          go_wp2_with fail
          refine HCP.out.mono ?_
          rintro e w1 ⟨rfl, rfl⟩
          go_wp2_with fail
          refine HCA.out.mono ?_
          rintro e w1 ⟨rfl, rfl⟩
          go_wp2_with fail
          refine HFD.out.mono ?_
          rintro e w3 ⟨A3, n3, c3, ys3, rfl, r3, b3⟩
          have HIR := Lib.hid (inRange_any false _ A3 n3 c3 ys3 w3 r3 _ rfl)
          rw [← HP.out.1, ← HP.out.2] at HIR
          have HK3 := Lib.hid (HK.out.below b3)
          have HB3 := Lib.hid (HAL.out.trans (b3.mono HAL.out.size))
          clear r3 b3 HFD HP
          go_wp2_with fail
          refine HIR.out.mono ?_
          rintro e w4 ⟨v4, rfl, r4, b4⟩
          obtain ⟨d4, A4, n4, q4, rfl⟩ := r4.shape
          have hk4 := HK3.out.below b4
          have c0 := hk4.c0
          have c1 := hk4.c1
          have f0 := hk4.f0
          have f1 := hk4.f1
          have HF := Lib.hid (repI_ret r4 hk4 (HB3.out.trans (b4.mono HB3.out.size)) (Nat.le_refl _))
          clear r4 b4 hk4
          go_wp2_with fail
          exact bodyPost_ret (v := .tuple #[.agg #[.bool d4, .slice A4 n4 q4], .int .i64 er]) (by simp [results, Tryd.results16, go_sem, c0, c1]) rfl ⟨_, rfl, HF.out.1, HF.out.2⟩
        | true =>
          obtain rfl : t = false := by cases t; rfl; exact absurd ⟨rfl, rfl⟩ hnt
          go_enter Tryd.func16, Tryd.ntmps16
          go_wp2_with fail
          refine HCP.out.mono ?_
          rintro e w1 ⟨rfl, rfl⟩
          go_wp2_with fail
          refine HCA.out.mono ?_
          rintro e w1 ⟨rfl, rfl⟩
          go_wp2_with fail
          refine HFD.out.mono ?_
          rintro e w3 ⟨A3, n3, c3, ys3, rfl, r3, b3⟩
          have HIR := Lib.hid (inRange_any true _ A3 n3 c3 ys3 w3 r3 _ rfl)
          rw [← HP.out.1, ← HP.out.2] at HIR
          have HK3 := Lib.hid (HK.out.below b3)
          have HB3 := Lib.hid (HAL.out.trans (b3.mono HAL.out.size))
          clear r3 b3 HFD HP
          go_wp2_with fail
          refine HIR.out.mono ?_
          rintro e w4 ⟨v4, rfl, r4, b4⟩
          obtain ⟨d4, A4, n4, q4, rfl⟩ := r4.shape
          have hk4 := HK3.out.below b4
          have c0 := hk4.c0
          have c1 := hk4.c1
          have f0 := hk4.f0
          have f1 := hk4.f1
          have HF := Lib.hid (repI_ret r4 hk4 (HB3.out.trans (b4.mono HB3.out.size)) (Nat.le_refl _))
          clear r4 b4 hk4
          go_wp2_with fail
          exact bodyPost_ret (v := .tuple #[.agg #[.bool d4, .slice A4 n4 q4], .int .i64 er]) (by simp [results, Tryd.results16, go_sem, c0, c1]) rfl ⟨_, rfl, HF.out.1, HF.out.2⟩
end Go.Proofs.YtpilpceclmppgaaDoor
namespace Go.Proofs.YtpilpceclmppgaaDoor
open Go.RowKit
set_option linter.unusedVariables false

/-- a row half turned round -/
def RevI (bs : List Int) (i j : Nat) (M : List Int) : Prop :=
  M.length = bs.length ∧ ∀ k, k < bs.length → M[k]?.getD 0 = if k < i ∨ j < k then bs[bs.length - 1 - k]?.getD 0 else bs[k]?.getD 0
theorem RevI.start (bs : List Int) : RevI bs 0 (bs.length - 1) bs := ⟨rfl, fun k hk => by rw [if_neg (by omega)]⟩
theorem RevI.step {bs M : List Int} {i j : Nat} (h : RevI bs i j M) (hij : i < j) (hj : i + j = bs.length - 1) : RevI bs (i + 1) (j - 1) ((M.set i (M[j]?.getD 0)).set j (M[i]?.getD 0)) := by
  obtain ⟨hl, hm⟩ := h
  refine ⟨by rw [List.length_set, List.length_set, hl], fun k hk => ?_⟩
  have hi := hm i (by omega)
  have hjv := hm j (by omega)
  rw [if_neg (by omega)] at hi hjv
  by_cases h1 : k = j
  · subst h1
    rw [List.getElem?_set_self (by rw [List.length_set]; omega), if_pos (by omega), Option.getD_some, hi, show bs.length - 1 - k = i by omega]
  · rw [List.getElem?_set_ne (by omega)]
    by_cases h2 : k = i
    · subst h2
      rw [List.getElem?_set_self (by omega), if_pos (by omega), Option.getD_some, hjv, show bs.length - 1 - k = j by omega]
    · rw [List.getElem?_set_ne (by omega), hm k hk]
      by_cases h3 : k < i ∨ j < k
      · rw [if_pos h3, if_pos (by omega)]
      · rw [if_neg h3, if_neg (by omega)]
theorem RevI.done {bs M : List Int} {i j : Nat} (h : RevI bs i j M) (hij : ¬ (i : Int) < (j : Int)) (hj : i + j = bs.length - 1) : M = bs.reverse := by
  apply List.ext_getElem
  · rw [h.1, List.length_reverse]
  · intro k h1 h2
    have hk : k < bs.length := by rw [← h.1]; exact h1
    have e := h.2 k hk
    rw [List.getElem?_eq_getElem h1] at e
    rw [List.getElem_reverse]
    have e3 : M[k] = bs[bs.length - 1 - k]?.getD 0 := by
      by_cases h3 : k < i ∨ j < k
      · rw [if_pos h3] at e; exact e
      · rw [if_neg h3] at e
        rw [show bs.length - 1 - k = k by omega]; exact e
    rw [e3, List.getElem?_eq_getElem (by omega)]; rfl
theorem set_set_row {w : World} {g : Nat} {M : List Int} (h : RowW .u8 w g 5 M) (i j : Nat) (hi : i < M.length) (hj : j < M.length) (a b : Int) : RowW .u8 ((w.setCell ⟨g, i, none⟩ (.int .u8 a)).setCell ⟨g, j, none⟩ (.int .u8 b)) g 5 ((M.set i a).set j b) :=
  (h.set_ i hi a).set_ j (by rw [List.length_set]; exact hj) b
set_option maxRecDepth 100000 in
set_option maxHeartbeats 1000000 in
theorem reverse_any (g n c : Nat) (bs : List Int) (w : World) (h : RowW .u8 w g 5 bs) (hn : bs.length = n) (h0 : 0 < n) (hc : n ≤ 1000000) :
    Calls Tryd.prog 53 #[.slice (some ⟨g, 0, none⟩) n c] w fun e w' => e = .returned (.tuple #[]) ∧ RowW .u8 w' g 5 bs.reverse ∧ w.grownBy w' (some g) := by
  have HR := Lib.hid h
  have HI := Lib.hid (RevI.start bs)
  rw [hn] at HI
  have HN := Lib.hid hn
  clear h hn
  go_enter Tryd.func53, Tryd.ntmps53
  go_wp2_with fail
  go_loopw [2, 3] (fun iv jv wr => ∃ (i j : Nat) (M : List Int), iv = .int .i64 i ∧ jv = .int .i64 j ∧ i + j = n - 1 ∧ Hid (RevI bs i j M) ∧ Hid (RowW .u8 wr g 5 M) ∧ Hid (w.grownBy wr (some g))) (fun iv _ _ => n - (intOf iv).toNat)
  case atStart => exact ⟨0, n - 1, bs, rfl, by go_num, by omega, HI.out, HR.out, World.grownBy.refl _ _⟩
  case round =>
    clear HI HR
    obtain ⟨i, j, M, rfl, rfl, hij, HI, HR, HG⟩ := hrel
    by_cases hlt : (i : Int) < (j : Int)
    · have hMl := HI.out.1
      have hNl := HN.out
      have ci := HR.out.cell i (by omega)
      have cj := HR.out.cell j (by omega)
      have fi := HR.out.free i
      have fj := HR.out.free j
      obtain ⟨x, hx⟩ : ∃ x, x = M[i]?.getD 0 := ⟨_, rfl⟩
      obtain ⟨y, hy⟩ : ∃ y, y = M[j]?.getD 0 := ⟨_, rfl⟩
      have HI2 := Lib.hid (HI.out.step (by omega) (by omega))
      have HR2 := Lib.hid (set_set_row HR.out i j (by omega) (by omega) y x)
      have HG2 := Lib.hid (grown_own (o := j) (u := .int .u8 x) (grown_own (o := i) (u := .int .u8 y) HG.out))
      rw [← hx, ← hy] at HI2
      rw [← hx] at ci
      rw [← hy] at cj
      have hne : i ≠ j := by omega
      clear hx hy HI HR HG hMl hNl
      go_upto_region 3 with (fail)
      go_region
      all_goals go_wp2_with fail
      all_goals exact ⟨⟨i + 1, j - 1, _, by go_num, by go_num, by omega, HI2.out, HR2.out.drew, ⟨HG2.out.os, HG2.out.tape, HG2.out.output, HG2.out.size, HG2.out.block⟩⟩, by simp [intOf]; omega⟩
    · have HF := Lib.hid (And.intro (HI.out.done hlt (by rw [HN.out]; exact hij) ▸ HR.out) HG.out)
      go_wp2_with fail
      refine bodyPost_end (results_none rfl _ _ _) rfl ?_
      exact ⟨rfl, HF.out⟩
end Go.Proofs.YtpilpceclmppgaaDoor
namespace Go.Proofs.YtpilpceclmppgaaDoor
open Go.RowKit
set_option linter.unusedVariables false

theorem u8_infoT : (Tryd.prog.info? 5).map (fun i => (i.zero, i.size, i.bytes)) = some (some (.int .u8 0), 1, 1) := by kernel_rfl
/-- digits as the bytes of a text -/
def asc (ds : List Int) : List Value := ds.map (fun d => Value.int .u8 (48 + d))
theorem asc_app (a b : List Int) : asc (a ++ b) = asc a ++ asc b := List.map_append
/-- what is left of a number that is taken apart in place -/
def RestU (w0 b0 : Nat) (A : Option Addr) (n c : Nat) (zs : List Int) (R : Int) (wr : World) : Prop :=
  n ≤ c ∧ c ≤ maxLen ∧ (A = none → c = 0) ∧ zs.length = n ∧ Dig 4294967296 zs ∧ Top zs ∧ dv 4294967296 zs = R ∧ (n = 0 ∨ ∃ g, A = some ⟨g, 0, none⟩ ∧ w0 ≤ g ∧ g < b0 ∧ RowW .u32 wr g 94 zs)
def DecS (w : World) (b0 : Nat) (x : Int) (g : Nat) (v : Value) (ds : List Int) (wr : World) : Prop :=
  wr.ownsRow b0 5 1 v ds.length (asc ds) ∧ Dig 10 ds ∧ x = dv 10 ds + 10 ^ ds.length * (g : Int) ∧ Below w.heap.size w wr ∧ b0 ≤ wr.heap.size ∧ w.heap.size ≤ b0
/-- what decimals leaves: an own row of the digits, the least first -/
def DecPost (x : Int) (w : World) (e : Ending) (w' : World) : Prop :=
  ∃ v b0, e = .returned v ∧ w.heap.size ≤ b0 ∧ b0 ≤ w'.heap.size ∧ w'.ownsRow b0 5 1 v (digs 10 x).length (asc (digs 10 x)) ∧ Below w.heap.size w w'
theorem own_off {w : World} {b0 n g : Nat} {v : Value} {xs : List Value} (h : w.ownsRow b0 5 1 v n xs) (hg : g < b0) : v.ownBlock = none ∨ v.ownBlock ≠ some g := by
  rcases ho : v.ownBlock with _ | k
  · exact .inl rfl
  · right
    have := (h.lt k ho).1
    intro e
    injection e with e
    omega
theorem dec_room {x : Int} {ds : List Int} {g : Nat} (hd : Dig 10 ds) (hx : x = dv 10 ds + 10 ^ ds.length * (g : Int)) (hg : 0 < g) (hl : x < lim) : ds.length < 4990 := by
  rcases Nat.lt_or_ge ds.length 4990 with h | h
  · exact h
  · have h0 := dv_nonneg (show (0 : Int) < 10 by omega) hd
    have h1 := pow_mono' (show (0 : Int) < 10 by omega) h
    have h2 := Int.mul_le_mul_of_nonneg_left (show (1 : Int) ≤ (g : Int) by omega) (Int.le_of_lt (pow_pos' (show (0 : Int) < 10 by omega) ds.length))
    have h3 := lim_4990
    omega
theorem own_shrink {w : World} {base g k cap : Nat} {e : TypeId} {xs : List Value} (h : w.ownsRow base e 1 (.slice (some ⟨g, 0, none⟩) (k + 1) cap) (k + 1) xs) : w.ownsRow base e 1 (.slice (some ⟨g, 0, none⟩) k cap) k (xs.take k) := by
  have hl : xs.length = k + 1 := by have := h.1; simpa using this
  refine ⟨by rw [List.length_take]; omega, ?_⟩
  rcases h.2 with ⟨h0, _⟩ | ⟨g', cap', cur, hv, hb, hg, hnc, hm, hcs, ht⟩
  · cases h0
  · refine .inr ⟨g', cap', cur, ?_, hb, hg, by omega, hm, hcs, ?_⟩
    · injection hv with h1 h2 h3
      rw [h1, h3]
    · rw [← ht, List.take_take, Nat.min_eq_left (by omega), Nat.mul_one]
theorem own_cases {w : World} {base m : Nat} {e : TypeId} {v : Value} {xs : List Value} (h : w.ownsRow base e 1 v m xs) : (v = .slice none 0 0 ∧ m = 0) ∨ ∃ g cap, v = .slice (some ⟨g, 0, none⟩) m cap ∧ m ≤ cap ∧ cap ≤ maxLen := by
  rcases h.2 with ⟨h0, h1⟩ | ⟨g', cap', cur, hv, hb, hg, hnc, hm, hcs, ht⟩
  · exact .inl ⟨h0, h1⟩
  · exact .inr ⟨g', cap', hv, hnc, hm⟩
theorem asc_take (ds : List Int) (k : Nat) : (asc ds).take k = asc (ds.take k) := by unfold asc; rw [List.map_take]
set_option maxRecDepth 100000 in
set_option maxHeartbeats 1000000 in
theorem decimals_any (x : Int) (A : Option Addr) (n c : Nat) (zs : List Int) (w : World) (h : NatR w w.heap.size x A n c zs) (hx : x < lim) :
    Calls Tryd.prog 52 #[.slice A n c] w (DecPost x w) := by
  obtain ⟨i0, hi, hz0, hz1, hz2⟩ := info_parts u8_infoT
  have hn := h.fit.2 hx
  have H := Lib.hid h
  have HC := Lib.hid (clone_any A n c zs w h.1 h.2.2.2.1 h.2.1 (by omega))
  have hx0 := h.nonneg
  have HX := Lib.hid hx
  clear h hx
  go_enter Tryd.func52, Tryd.ntmps52
  go_wp2_with fail
  refine HC.out.mono ?_
  rintro e w1 ⟨A1, n1, c1, rfl, hl1, hc1, hm1, hA1, hrow, hb1⟩
  have HR := Lib.hid (show RestU w.heap.size w1.heap.size A1 n1 c1 zs x w1 from ⟨hc1, hm1, hA1, hl1, H.out.2.2.2.2.1, H.out.2.2.2.2.2.1, H.out.2.2.2.2.2.2, by
    rcases hrow with h0 | ⟨g, e1, h2, h3⟩
    · exact .inl h0
    · exact .inr ⟨g, e1, h2, h3.lt, h3⟩⟩)
  have HS := Lib.hid (show DecS w w1.heap.size x x.toNat (.slice none 0 0) [] w1 from ⟨World.ownsRow_nil _ _ _ _, Dig.nil, by show x = 0 + 10 ^ 0 * (x.toNat : Int); omega, hb1, Nat.le_refl _, hb1.size⟩)
  rw [show x = (x.toNat : Int) by omega] at HR
  have hn1 : n1 ≤ 512 := by rw [← hl1, H.out.1.len]; exact hn
  clear hl1 hc1 hm1 hA1 hrow hb1 HC
  go_wp2_with fail
  obtain ⟨b0, hb0⟩ : ∃ b0, b0 = w1.heap.size := ⟨_, rfl⟩
  rw [← hb0] at HR HS
  clear hb0
  go_loopg [3, 4] x.toNat (fun g s3 s4 wr => ∃ A n c zs ds, s4 = .slice A n c ∧ n ≤ 512 ∧ Hid (RestU w.heap.size b0 A n c zs (g : Int) wr) ∧ Hid (DecS w b0 x g s3 ds wr))
  case atStart => exact ⟨A1, n1, c1, zs, [], rfl, hn1, HR.out, HS.out⟩
  case round =>
    clear HR HS
    obtain ⟨A', n', c', zs', ds, rfl, hnb0, HR, HS⟩ := hrel
    rcases Nat.eq_zero_or_pos gk with rfl | hg
    · have hn0 : n' = 0 := by
        rcases Nat.eq_zero_or_pos n' with h0 | h0
        · exact h0
        · have h2 := top_ge (show (1 : Int) < 4294967296 by omega) HR.out.2.2.2.2.1 HR.out.2.2.2.2.2.1 (by intro e; have := HR.out.2.2.2.1; rw [e] at this; simp at this; omega)
          rw [HR.out.2.2.2.2.2.2.1] at h2
          have h3 := pow_pos' (show (0 : Int) < 4294967296 by omega) (zs'.length - 1)
          omega
      subst hn0
      have hxd : dv 10 ds = x := by have := HS.out.2.2.1; rw [this]; simp
      have HO := Lib.hid HS.out.1
      have HDD := Lib.hid HS.out.2.1
      have HB := Lib.hid (And.intro HS.out.2.2.2.1 HS.out.2.2.2.2)
      have HXD := Lib.hid hxd
      clear hxd HS HR
      go_wp2_with fail
      go_loop [3] (fun v => ∃ m : Nat, m ≤ ds.length ∧ Hid (wr.ownsRow b0 5 1 v m (asc (ds.take m))) ∧ Hid (dv 10 (ds.take m) = x)) (fun v => slLenU v)
      case atStart => exact ⟨ds.length, Nat.le_refl _, by rw [List.take_length]; exact HO.out, by rw [List.take_length]; exact HXD.out⟩
      case round =>
        clear HO HXD
        obtain ⟨m, hm, HO, HV⟩ := hrel
        have hfin : Top (ds.take m) → ∀ v, wr.ownsRow b0 5 1 v m (asc (ds.take m)) → DecPost x w (.returned v) wr := fun ht v ho => by
          have e1 := can_digs (show (1 : Int) < 10 by omega) (HDD.out.take m) ht
          rw [HV.out] at e1
          refine ⟨v, b0, rfl, HB.out.2.2, HB.out.2.1, ?_, HB.out.1⟩
          rw [← e1, List.length_take, Nat.min_eq_left hm]
          exact ho
        rcases own_cases HO.out with ⟨rfl, rfl⟩ | ⟨g, cap, rfl, hcap, hcm⟩
        · have HF := Lib.hid (hfin (by intro h; simp at h) _ HO.out)
          clear hfin
          go_wp2_with fail
          go_ret
          exact HF.out
        · rcases Nat.eq_zero_or_pos m with rfl | hm0
          · have HF := Lib.hid (hfin (by intro h; simp at h) _ HO.out)
            clear hfin
            go_wp2_with fail
            go_ret
            exact HF.out
          · obtain ⟨k, rfl⟩ : ∃ k, m = k + 1 := ⟨m - 1, by omega⟩
            have hk : k < ds.length := by omega
            have hcell := HO.out.cells (g := g) rfl k (.int .u8 (48 + ds[k]?.getD 0)) (by
              unfold asc
              rw [List.getElem?_map, List.getElem?_take, if_pos (by omega), List.getElem?_eq_getElem hk]; rfl)
            rw [add_lit, Nat.zero_add] at hcell
            have hlk : ((k + 1 : Nat) : Int) - 1 = (k : Int) := by omega
            have hkm : k < 9223372036854775807 := by unfold maxLen at hcm; omega
            by_cases hz : ds[k]?.getD 0 = 0
            · have HO2 := Lib.hid (own_shrink HO.out)
              rw [asc_take, List.take_take, Nat.min_eq_left (by omega)] at HO2
              have HV2 := Lib.hid (show dv 10 (ds.take k) = x from by rw [← strip_step 10 ds k hz]; exact HV.out)
              rw [hz] at hcell
              clear hfin HO HV
              go_wp2_with fail
              exact ⟨⟨k, by omega, HO2.out, HV2.out⟩, by simp [slLenU]⟩
            · have hne : ((48 + ds[k]?.getD 0 : Int) == 48) = false := by rw [beq_eq_false_iff_ne]; omega
              have HF := Lib.hid (hfin (by
                intro h
                rw [List.getLast?_eq_getElem?, List.length_take, Nat.min_eq_left (by omega), List.getElem?_take, if_pos (by omega), show k + 1 - 1 = k by omega] at h
                rw [h] at hz
                exact hz rfl) _ HO.out)
              have hne2 : (ds[k]?.getD 0 == 0) = false := beq_eq_false_iff_ne.2 hz
              obtain ⟨d, hd⟩ : ∃ d, d = ds[k]?.getD 0 := ⟨_, rfl⟩
              rw [← hd] at hne hne2 hcell hz
              clear hfin HO HV hd
              go_wp2_with fail
              go_ret
              exact HF.out
    · have hn0 : 0 < n' := by
        rcases Nat.eq_zero_or_pos n' with rfl | h0
        · have e1 : zs' = [] := List.length_eq_zero_iff.1 HR.out.2.2.2.1
          have e2 := HR.out.2.2.2.2.2.2.1
          rw [e1] at e2
          have : (0 : Int) = (gk : Int) := e2
          omega
        · exact h0
      obtain ⟨g1, rfl, hg1, hg2, hrow⟩ : ∃ g, A' = some ⟨g, 0, none⟩ ∧ w.heap.size ≤ g ∧ g < b0 ∧ RowW .u32 wr g 94 zs' := by
        rcases HR.out.2.2.2.2.2.2.2 with h0 | h1
        · omega
        · exact h1
      have hnb : n' ≤ 100000 := by omega
      have HQ := Lib.hid (divideBy_any g1 n' c' 1000000000 zs' wr hrow HR.out.2.2.2.1 hnb HR.out.2.2.2.2.1 (by omega) (by omega))
      clear hrow
      go_wp2_with fail
      refine HQ.out.mono ?_
      rintro e w2 ⟨r, L, rfl, hL, hgr, hI⟩
      have HO := Lib.hid (HS.out.1.kept hgr (own_off HS.out.1 hg2))
      have HL := Lib.hid hL
      have HI := Lib.hid hI
      have HB := Lib.hid (HS.out.2.2.2.1.grown hgr HS.out.2.2.2.1.size (fun k hk => by cases hk; exact hg1))
      have hb02 : b0 ≤ w2.heap.size := Nat.le_trans HS.out.2.2.2.2.1 hgr.size
      have r0 := hI.2.2.1
      have r1 := hI.2.2.2.1
      clear hL hgr hI HQ
      have hroom := dec_room HS.out.2.1 HS.out.2.2.1 hg HX.out
      go_wp2_with fail
      go_loopw [3, 5, 15] (fun v q iv wi => ∃ (j : Nat) (es : List Int) (qq : Int), iv = .int .i64 j ∧ j ≤ 9 ∧ q = .int .u32 qq ∧ 0 ≤ qq ∧ qq < 1000000000 ∧ es.length = j ∧ Hid (r = dv 10 es + 10 ^ j * qq) ∧ Hid (Dig 10 es) ∧ Hid (wi.ownsRow b0 5 1 v (ds.length + j) (asc (ds ++ es))) ∧ Hid (RowW .u32 wi g1 94 L) ∧ Hid (Below w.heap.size w wi) ∧ b0 ≤ wi.heap.size) (fun _ _ iv _ => 9 - (intOf iv).toNat)
      case atStart => exact ⟨0, [], r, rfl, by omega, rfl, r0, r1, rfl, by show r = 0 + 10 ^ 0 * r; omega, Dig.nil, by rw [List.append_nil]; exact HO.out, HL.out, HB.out, hb02⟩
      case round =>
        clear HO HL HB hb02
        rename World => wi
        obtain ⟨j, es, qq, rfl, hj9, rfl, q0, q1, hel, HV, HDE, HO, HL, HB, hbw⟩ := hrel
        by_cases hj : j < 9
        · have htm : qq.tmod 10 = qq % 10 := Int.tmod_eq_emod_of_nonneg q0
          have htd : qq.tdiv 10 = qq / 10 := Int.tdiv_eq_ediv_of_nonneg q0
          have hown := HO.out
          have E1 := Lib.hid (show asc (ds ++ es) ++ [Value.int .u8 (48 + qq % 10)] = asc (ds ++ (es ++ [qq % 10])) from by rw [← List.append_assoc, asc_app (ds ++ es)]; rfl)
          have hw1 : qq / 10 % 4294967296 = qq / 10 := by omega
          have hw2 : qq % 10 % 256 = qq % 10 := by omega
          have hw3 : (48 + qq % 10) % 256 = 48 + qq % 10 := by omega
          have HV2 := Lib.hid (show r = dv 10 (es ++ [qq % 10]) + 10 ^ (j + 1) * (qq / 10) from by
            rw [dv_snoc, hel, Int.pow_succ, HV.out]
            have := Int.mul_ediv_add_emod qq 10
            generalize (10 : Int) ^ j = P at *
            grind)
          have HDE2 := Lib.hid (HDE.out.app (Dig.cons (B := 10) (d := qq % 10) (t := []) (by omega) Dig.nil))
          have hel2 : (es ++ [qq % 10]).length = j + 1 := by rw [List.length_append, hel]; rfl
          have hr1 : ds.length + j + 1 ≤ maxLen := by unfold maxLen; omega
          have hr2 : (ds.length + j + 1) * 1 ≤ 140737488355328 := by omega
          clear HO
          go_wp2_with (at_builtin; refine wpList_append_own _ rfl _ _ _ rfl b0 5 i0 _ 1 1 Tryd.underlying29 hi hz0 hz1 hz2 rfl (by omega) _ (ds.length + j) (asc (ds ++ es)) rfl (hown.alloc _) ⟨wi.heap.size, 0, none⟩ 1 1 [.int .u8 (48 + qq % 10)] rfl rfl (cell_one_new _ _ _) (by simp [Value.oneCell']) hr1 hr2 (by simp; omega) ?_; intro v5 w5 hown5 hg5 hnil5)
          rw [E1.out] at hown5
          have hsz5 : wi.heap.size ≤ w5.heap.size := Nat.le_trans (by simp) hg5.size
          have HB5 := Lib.hid ((HB.out.alloc HB.out.size _).trans (below_of_grown hg5 (Nat.le_trans HB.out.size (by simp)) (fun g hg => Nat.le_trans HS.out.2.2.2.2.2 (hown.lt g hg).1)))
          have HL5 := Lib.hid ((HL.out.alloc _).grown hg5 (by
            intro e0
            have := (hown.lt g1 e0.symm).1
            omega))
          have O5 := Lib.hid hown5
          clear hown5 hnil5 hg5 hown
          go_wp2_with fail
          go_roundw
          case rel => exact ⟨j + 1, es ++ [qq % 10], qq / 10, by go_num, by omega, rfl, by omega, by omega, hel2, HV2.out, HDE2, O5.out, HL5.out, HB5.out, by omega⟩
          case measure => simp [intOf]; omega
        · obtain rfl : j = 9 := by omega
          have hq9 : qq = 0 := by
            have h0 := dv_nonneg (show (0 : Int) < 10 by omega) HDE.out
            have h1 := HV.out
            have h2 : (10 : Int) ^ 9 = 1000000000 := by decide
            rw [h2] at h1
            omega
          subst hq9
          have hLl : L.length = n' := HI.out.1.trans HR.out.2.2.2.1
          have hsl := HL.out.sl 0 n' b0 (by omega) hg2
          rw [List.drop_zero, List.take_of_length_le (by omega)] at hsl
          have HT := Lib.hid (trimmed_any (some ⟨g1, 0, none⟩) n' c' b0 L wi hsl HR.out.1 HR.out.2.1 (by intro h; cases h) HI.out.2.1)
          have hge : dv 4294967296 L * 1000000000 + r = (gk : Int) := by
            have e := HI.out.2.2.2.2.1
            rw [List.drop_zero, List.drop_zero, HR.out.2.2.2.2.2.2.1] at e
            exact e
          have hL0 := dv_nonneg (show (0 : Int) < 4294967296 by omega) HI.out.2.1
          have HS2 := Lib.hid (show dv 10 (ds ++ es) = dv 10 ds + 10 ^ ds.length * r ∧ x = dv 10 (ds ++ es) + 10 ^ (ds ++ es).length * (((dv 4294967296 L).toNat : Nat) : Int) from by
            have h1 : dv 10 (ds ++ es) = dv 10 ds + 10 ^ ds.length * r := by rw [dv_app, HV.out]; simp
            refine ⟨h1, ?_⟩
            rw [h1, HS.out.2.2.1, ← hge, List.length_append, hel, Int.pow_add, show (10 : Int) ^ 9 = 1000000000 by decide, show (((dv 4294967296 L).toNat : Nat) : Int) = dv 4294967296 L by omega]
            grind)
          have hlen : ds.length + 9 = (ds ++ es).length := by rw [List.length_append, hel]
          rw [hlen] at HO
          clear hsl HV
          go_wp2_with fail
          refine HT.out.mono ?_
          rintro e5 w9 ⟨k, rfl, hkL, hnk, rfl⟩
          have HN := Lib.hid hnk
          clear hnk HT
          go_wp2_with fail
          go_roundg (dv 4294967296 L).toNat
          case measure => omega
          case rel => exact ⟨some ⟨g1, 0, none⟩, k, c', L.take k, ds ++ es, rfl, by omega, ⟨by have := HR.out.1; omega, HR.out.2.1, (fun h => by cases h), HN.out.1.len, HN.out.2.2.2.2.1, HN.out.2.2.2.2.2.1, by rw [HN.out.2.2.2.2.2.2]; omega, .inr ⟨g1, rfl, hg1, hg2, HL.out.take k⟩⟩, ⟨HO.out, HS.out.2.1.app HDE.out, HS2.out.2, HB.out, hbw, HS.out.2.2.2.2.2⟩⟩
end Go.Proofs.YtpilpceclmppgaaDoor
namespace Go.Proofs.YtpilpceclmppgaaDoor
open Go.RowKit
set_option linter.unusedVariables false

/-- digits as the numbers of a text's bytes -/
def ascI (ds : List Int) : List Int := ds.map (fun d => 48 + d)
theorem asc_ascI (ds : List Int) : asc ds = (ascI ds).map (Value.int .u8) := by unfold asc ascI; rw [List.map_map]; rfl
theorem chr_map {ds : List Int} (h : Dig 10 ds) : (ascI ds).map (fun z => UInt8.ofNat z.toNat) = ds.map chr := by
  unfold ascI
  rw [List.map_map]
  refine List.map_congr_left fun d hd => ?_
  have := h d hd
  show UInt8.ofNat (48 + d).toNat = UInt8.ofNat (48 + d.toNat)
  congr 1
  omega
theorem str_pos {z : Int} (h : 0 < z) : strOf (ascI (digs 10 (z.natAbs : Int))).reverse = strB (decT z) := by
  unfold strOf strB decT
  rw [if_neg (by omega), if_neg (by omega), List.map_reverse, chr_map (digs_dig (by omega) _), show (z.natAbs : Int) = z by omega]
  unfold dec10
  rw [List.map_reverse]
theorem str_neg {z : Int} (h : z < 0) : strOf (ascI (digs 10 (z.natAbs : Int)) ++ [45]).reverse = strB (decT z) := by
  unfold strOf strB decT
  rw [if_neg (by omega), if_pos h, List.map_reverse, List.map_append, chr_map (digs_dig (by omega) _), show (z.natAbs : Int) = -z by omega, List.reverse_append]
  unfold dec10
  rw [List.map_reverse]
  rfl
theorem byte_ascI {ds : List Int} (h : Dig 10 ds) : ∀ x ∈ ascI ds, byteI x := fun x hx => by
  unfold ascI at hx
  obtain ⟨d, hd, rfl⟩ := List.mem_map.1 hx
  have := h d hd
  unfold byteI
  omega
end Go.Proofs.YtpilpceclmppgaaDoor
namespace Go.Proofs.YtpilpceclmppgaaDoor
open Go.RowKit
set_option linter.unusedVariables false

def StrU (s : ByteArray) (w : World) (e : Ending) (w' : World) : Prop := e = .returned (.string s) ∧ Below w.heap.size w w'
theorem digs_ne {x : Int} (h : 0 < x) : 0 < (digs 10 x).length := by rw [digs_pos (by omega) h]; simp
theorem row_conv {w : World} {g n c : Nat} {bs : List Int} (h : RowW .u8 w g 5 bs) (hn : bs.length = n) (hb : ∀ x ∈ bs, byteI x) : (convert 29 9 (.slice (some ⟨g, 0, none⟩) n c)).run Tryd.prog w = .ok (.string (strOf bs)) w := by
  have hs := h.sl 0 n w.heap.size (by omega) h.lt
  rw [List.drop_zero, List.take_of_length_le (by omega)] at hs
  exact conv_back w 29 9 5 g 0 n c w.heap.size bs Tryd.underlying29 Tryd.underlying5 Tryd.underlying9 hs hb
set_option maxRecDepth 100000 in
set_option maxHeartbeats 1000000 in
theorem istring_any (z : Int) (u : Value) (w : World) (hx : RepI w w.heap.size z u) (bx : (z.natAbs : Int) < lim) :
    Calls Tryd.prog 19 #[u] w (StrU (strB (decT z)) w) := by
  obtain ⟨i0, hi, hz0, hz1, hz2⟩ := info_parts u8_infoT
  obtain ⟨A, n, c, zs, rfl, hr⟩ := hx
  have hal := Lib.hid (box1_below w (.cells #[.bool (decide (z < 0)), .slice A n c] 34))
  rcases Int.lt_trichotomy z 0 with h0 | rfl | h0
  · rw [decide_eq_true h0] at hal ⊢
    have hn0 : ((n : Int) == 0) = false := by rw [beq_eq_false_iff_ne]; intro h; have := hr.zero.1 (by omega); omega
    have HDE := Lib.hid (decimals_any (z.natAbs : Int) A n c zs _ ((hr.below hal.out).more hal.out.size) bx)
    have hdl := digs_ne (show (0 : Int) < (z.natAbs : Int) by omega)
    have hd9 := digs_len (show (1 : Int) < 10 by omega) (show (0 : Int) ≤ (z.natAbs : Int) by omega) (Int.lt_of_lt_of_le bx lim_4990)
    have HST := Lib.hid (str_neg h0)
    obtain ⟨S, hS⟩ : ∃ S, S = strB (decT z) := ⟨_, rfl⟩
    rw [← hS] at HST ⊢
    obtain ⟨D, hD⟩ : ∃ D, D = digs 10 (z.natAbs : Int) := ⟨_, rfl⟩
    have HBY := Lib.hid (byte_ascI (digs_dig (B := 10) (by omega) (z.natAbs : Int)))
    unfold DecPost at HDE
    rw [← hD] at HDE HST hdl HBY hd9
    clear hr hS hD bx
    go_enter Tryd.func19, Tryd.ntmps19
    go_wp2_with fail
    refine HDE.out.mono ?_
    rintro e w2 ⟨v, b0, rfl, hb0, hbw, ho, hb⟩
    rcases own_cases ho with ⟨rfl, hl⟩ | ⟨g, cap, rfl, hcap, hcm⟩
    · omega
    rw [asc_ascI] at ho
    have hg := (ho.lt g rfl).1
    have HB2 := Lib.hid (hal.out.trans (hb.mono hal.out.size))
    have k0 := ((Blk2.new w 34 (.bool true) (.slice A n c)).below hb).c0
    have hwb : w.heap.size ≤ b0 := by have := hal.out.size; omega
    have E1 := Lib.hid (show (ascI D).map (Value.int .u8) ++ [Value.int .u8 45] = (ascI D ++ [45]).map (Value.int .u8) from by rw [List.map_append]; rfl)
    have hr1 : D.length + 1 ≤ maxLen := by unfold maxLen; omega
    have hr2 : (D.length + 1) * 1 ≤ 140737488355328 := by omega
    clear hb hb0 HDE
    go_upto_region 6 with (at_builtin; refine wpList_append_own _ rfl _ _ _ rfl b0 5 i0 _ 1 1 Tryd.underlying29 hi hz0 hz1 hz2 rfl (by omega) _ D.length ((ascI D).map (Value.int .u8)) rfl (ho.alloc _) ⟨w2.heap.size, 0, none⟩ 1 1 [.int .u8 45] rfl rfl (cell_one_new _ _ _) (by simp [Value.oneCell']) hr1 hr2 (by simp; omega) ?_; intro v5 w5 hown5 hg5 hnil5)
    rw [E1.out] at hown5
    have HB5 := Lib.hid ((HB2.out.alloc HB2.out.size _).trans (below_of_grown hg5 (Nat.le_trans HB2.out.size (by simp)) (fun g hg => Nat.le_trans hwb (ho.lt g hg).1)))
    rcases own_cases hown5 with ⟨rfl, hl⟩ | ⟨g5, cap5, rfl, hcap5, hcm5⟩
    · omega
    have hg5b := (hown5.lt g5 rfl).1
    have HRV := Lib.hid (reverse_any g5 (D.length + 1) cap5 (ascI D ++ [45]) w5 (RowW.of_own hown5) (by simp [ascI]) (by omega) (by omega))
    have hwg : w.heap.size ≤ g5 := by omega
    clear ho hown5 hg5 hnil5 HB2
    go_wp2_with fail
    refine HRV.out.mono ?_
    rintro e w3 ⟨rfl, hR3, hg3⟩
    have hcv := row_conv (n := D.length + 1) (c := cap5) hR3 (by simp [ascI]) (fun x hx => by
      rcases List.mem_append.1 (List.mem_reverse.1 hx) with h1 | h1
      · exact HBY.out x h1
      · rw [List.mem_singleton.1 h1]; unfold byteI; omega)
    rw [HST.out] at hcv
    have HB3 := Lib.hid (HB5.out.grown hg3 HB5.out.size (fun k hk => by cases hk; exact hwg))
    clear hR3 hg3 HRV
    go_wp2_with fail
    go_ret
    exact ⟨rfl, HB3.out⟩
  · obtain rfl := hr.zero.2 rfl
    rw [show strB (decT 0) = ⟨#[48]⟩ from rfl]
    clear hr bx
    go_enter Tryd.func19, Tryd.ntmps19
    go_wp2_with fail
    go_ret
    exact ⟨rfl, hal.out⟩
  · rw [decide_eq_false (show ¬ z < 0 by omega)] at hal ⊢
    have hn0 : ((n : Int) == 0) = false := by rw [beq_eq_false_iff_ne]; intro h; have := hr.zero.1 (by omega); omega
    have HDE := Lib.hid (decimals_any (z.natAbs : Int) A n c zs _ ((hr.below hal.out).more hal.out.size) bx)
    have hdl := digs_ne (show (0 : Int) < (z.natAbs : Int) by omega)
    have hd9 := digs_len (show (1 : Int) < 10 by omega) (show (0 : Int) ≤ (z.natAbs : Int) by omega) (Int.lt_of_lt_of_le bx lim_4990)
    have HST := Lib.hid (str_pos h0)
    obtain ⟨S, hS⟩ : ∃ S, S = strB (decT z) := ⟨_, rfl⟩
    rw [← hS] at HST ⊢
    obtain ⟨D, hD⟩ : ∃ D, D = digs 10 (z.natAbs : Int) := ⟨_, rfl⟩
    have HBY := Lib.hid (byte_ascI (digs_dig (B := 10) (by omega) (z.natAbs : Int)))
    unfold DecPost at HDE
    rw [← hD] at HDE HST hdl HBY hd9
    clear hr hS hD bx
    go_enter Tryd.func19, Tryd.ntmps19
    go_wp2_with fail
    refine HDE.out.mono ?_
    rintro e w2 ⟨v, b0, rfl, hb0, hbw, ho, hb⟩
    rcases own_cases ho with ⟨rfl, hl⟩ | ⟨g, cap, rfl, hcap, hcm⟩
    · omega
    rw [asc_ascI] at ho
    have hg := (ho.lt g rfl).1
    have HRV := Lib.hid (reverse_any g D.length cap (ascI D) w2 (RowW.of_own ho) (by simp [ascI]) hdl (by omega))
    have HB2 := Lib.hid (hal.out.trans (hb.mono hal.out.size))
    have k0 := ((Blk2.new w 34 (.bool false) (.slice A n c)).below hb).c0
    have hwg : w.heap.size ≤ g := by have := hal.out.size; omega
    clear ho hb hb0 HDE
    go_wp2_with fail
    refine HRV.out.mono ?_
    rintro e w3 ⟨rfl, hR3, hg3⟩
    have hcv := row_conv (n := D.length) (c := cap) hR3 (by simp [ascI]) (fun x hx => HBY.out x (List.mem_reverse.1 hx))
    rw [HST.out] at hcv
    have HB3 := Lib.hid (HB2.out.grown hg3 HB2.out.size (fun k hk => by cases hk; exact hwg))
    clear hR3 hg3 HRV
    go_wp2_with fail
    go_ret
    exact ⟨rfl, HB3.out⟩
end Go.Proofs.YtpilpceclmppgaaDoor
