/- Contracts of package wide's texts: fromDecimals. · Contracts of package wide's texts: Parse. · Contracts of package wide's texts: slices.Reverse at bytes. -/
import Derived.Test.YtgfhniiidejmoaaGreatDoorB28
import Derived.Lib.AtoiErrMem
namespace Go.Proofs.YtgfhniiidejmoaaGreatDoor
open Go.RowKit
set_option linter.unusedVariables false

theorem valT_one (b : UInt8) : valT [b] = dg b := by
  have := valT_snoc [] b
  rw [valT_nil] at this
  simpa using this
theorem valT_cons (b : UInt8) (t : List UInt8) : valT (b :: t) = valT t + 10 ^ t.length * dg b := by
  have := valT_app [b] t
  rwa [valT_one] at this
theorem decFrom_val : ∀ (l : List UInt8) (acc : Nat), (∀ b ∈ l, isD b = true) → ∃ N, Lib.decFrom acc l = some N ∧ (N : Int) = acc * 10 ^ l.length + valT l
  | [], acc, _ => ⟨acc, rfl, by rw [valT_nil]; simp⟩
  | b :: t, acc, h => by
    have hb := (isD_iff b).1 (h b (List.mem_cons_self ..))
    have hd : Lib.digitVal b = some (b.toNat - 48) := by
      unfold Lib.digitVal
      rw [if_pos ⟨hb.1, hb.2⟩]
    obtain ⟨N, h1, h2⟩ := decFrom_val t (acc * 10 + (b.toNat - 48)) (fun c hc => h c (List.mem_cons_of_mem _ hc))
    refine ⟨N, by rw [Lib.decFrom, hd]; exact h1, ?_⟩
    rw [h2, valT_cons, List.length_cons, Int.pow_succ]
    have e : ((acc * 10 + (b.toNat - 48) : Nat) : Int) = acc * 10 + dg b := by unfold dg; omega
    rw [e]
    grind
theorem atoi_digits {l : List UInt8} (h : ∀ b ∈ l, isD b = true) (h0 : l ≠ []) : Lib.atoi l = some (valT l) := by
  match l, h0 with
  | b :: t, _ =>
    have hb := (isD_iff b).1 (h b (List.mem_cons_self ..))
    obtain ⟨N, h1, h2⟩ := decFrom_val (b :: t) 0 h
    have e1 : (b == 45) = false := by rw [beq_eq_false_iff_ne]; intro e; rw [e] at hb; revert hb; decide
    have e2 : (b == 43) = false := by rw [beq_eq_false_iff_ne]; intro e; rw [e] at hb; revert hb; decide
    have e3 : Lib.decNat (b :: t) = some N := h1
    show (if b == 45 then _ else if b == 43 then _ else (Lib.decNat (b :: t)).map fun (m : Nat) => (m : Int)) = _
    rw [e1, e2, e3]
    show some (N : Int) = _
    rw [h2]; simp
/-- the loop's state: g bytes are left -/
def FromS (w : World) (l : List UInt8) (g : Nat) (v u : Value) (wr : World) : Prop :=
  ∃ T A n c zs p, v = .string T ∧ u = .slice A n c ∧ p + g = l.length ∧ T.data.toList = l.drop p ∧ NatR wr wr.heap.size (valT (l.take p)) A n c zs ∧ n ≤ p ∧ (p = 0 ∨ g % 9 = 0) ∧ Below w.heap.size w wr
theorem take_piece {l : List UInt8} {p e : Nat} : l.take (p + e) = l.take p ++ (l.drop p).take e := List.take_add
theorem group_val {l : List UInt8} {p e g : Nat} (hpg : p + g = l.length) (he : e = (g - 1) % 9 + 1) (hg : 0 < g) (hp : p = 0 ∨ g % 9 = 0) : valT (l.take (p + e)) = valT ((l.drop p).take e) + valT (l.take p) * 1000000000 := by
  have hle : e ≤ g := by omega
  rw [take_piece, valT_app, List.length_take, List.length_drop, Nat.min_eq_left (by omega), Int.mul_comm]
  rcases hp with rfl | hp
  · rw [List.take_zero, valT_nil]; simp
  · obtain rfl : e = 9 := by omega
    congr 2
theorem mem_piece {l : List UInt8} (h : ∀ b ∈ l, isD b = true) (p e : Nat) : ∀ b ∈ (l.drop p).take e, isD b = true := fun b hb => h b (List.mem_of_mem_drop (List.mem_of_mem_take hb))
theorem extract_from (s : ByteArray) (a : Nat) : (s.extract a s.size).data.toList = s.data.toList.drop a := by
  rw [ByteArray.data_extract, Array.toList_extract]
  show (s.data.toList.drop a).take (s.size - a) = _
  rw [List.take_of_length_le]
  rw [List.length_drop, ← Lib.size_eq]
  exact Nat.le_refl _
theorem extract_to (s : ByteArray) (a : Nat) : (s.extract 0 a).data.toList = s.data.toList.take a := by
  rw [ByteArray.data_extract, Array.toList_extract]
  show (s.data.toList.drop 0).take (a - 0) = _
  rw [List.drop_zero, Nat.sub_zero]
set_option maxRecDepth 100000 in
set_option maxHeartbeats 1000000 in
theorem fromDecimals_any (s : ByteArray) (l : List UInt8) (hl : s.data.toList = l) (hd : ∀ b ∈ l, isD b = true) (hb : l.length ≤ 5000) (w : World) :
    Calls Tryz.prog 26 #[.string s] w (NewU (valT l) w) := by
  obtain ⟨i0, hi, hz0, hz1, hz2⟩ := info_parts u32_info
  have HS := Lib.hid (show FromS w l l.length (.string s) (.slice none 0 0) w from ⟨s, none, 0, 0, [], 0, rfl, rfl, by omega, by rw [hl, List.drop_zero], by rw [List.take_zero, valT_nil]; exact ⟨Sl.nil _ _ _ _, Nat.le_refl _, Nat.zero_le _, fun _ => rfl, Dig.nil, (fun h => by cases h), rfl⟩, Nat.le_refl _, .inl rfl, Below.refl _ _⟩)
  have HD := Lib.hid hd
  clear hl hd
  go_enter Tryz.func26, Tryz.ntmps26
  go_wp2_with fail
  go_loopg [0, 3] l.length (fun g v u wr => Hid (FromS w l g v u wr))
  case atStart => exact HS.out
  case round =>
    clear HS
    obtain ⟨T, A, n, c, zs, p, rfl, rfl, hpg, hT, hr, hnp, hp, hB⟩ := hrel.out
    clear hrel
    have hTs : T.size = gk := by rw [Lib.size_eq, hT, List.length_drop]; omega
    have HT := Lib.hid hT
    have HR := Lib.hid hr
    have HB := Lib.hid hB
    clear hT hr hB
    rcases Nat.eq_zero_or_pos gk with rfl | hg
    · have HF := Lib.hid (show NewU (valT l) w (.returned (.slice A n c)) wr from ⟨_, _, _, _, rfl, by have := HR.out; rwa [List.take_of_length_le (by omega)] at this, HB.out⟩)
      clear HR HB HT
      go_wp2_with fail
      go_ret
      exact HF.out
    · obtain ⟨e, he⟩ : ∃ e, e = (gk - 1) % 9 + 1 := ⟨_, rfl⟩
      have he9 : e ≤ 9 := by omega
      have hel : e ≤ gk := by omega
      have hE := extract_to T e
      have hEt := extract_from T e
      rw [HT.out] at hE hEt
      rw [List.drop_drop, hTs] at hEt
      have hel0 : ((l.drop p).take e).length = e := by rw [List.length_take, List.length_drop]; omega
      have hEs : (T.extract 0 e).size = e := by rw [Lib.size_eq, hE, hel0]
      have hvb := valT_bd (mem_piece HD.out p e)
      rw [hel0] at hvb
      have hv9 : valT ((l.drop p).take e) < 1000000000 := by
        have h1 := pow_mono' (show (0 : Int) < 10 by omega) he9
        have h2 : (10 : Int) ^ 9 = 1000000000 := by decide
        omega
      have hat := atoi_digits (mem_piece HD.out p e) (by intro e0; rw [e0] at hel0; simp at hel0; omega)
      rw [← hE] at hat
      have HAT := Lib.hid (fun W => Tryz.strconv_Atoi (T.extract 0 e) _ (by omega) hat W)
      have HGV := Lib.hid (group_val hpg he hg hp)
      obtain ⟨x, hx⟩ : ∃ x, x = valT ((l.drop p).take e) := ⟨_, rfl⟩
      rw [hE, ← hx] at HAT
      rw [← hx] at hv9 hvb HGV
      have hv0 : 0 ≤ x := hvb.1
      have HEt := Lib.hid hEt
      have hrem : ((gk : Int) - 1).tmod 9 = ((e : Nat) : Int) - 1 := by
        rw [Int.tmod_eq_emod_of_nonneg (by omega)]; omega
      have e1 : (((e : Nat) : Int) - 1 + 1) = (e : Int) := by omega
      have HE := Lib.hid he
      clear hE hEt hat hvb hel0 hx he
      go_wp2_with fail
      refine (HAT.out _).mono ?_
      rintro e2 w2 ⟨rfl, tb, rfl⟩
      obtain ⟨W2, hW2⟩ : ∃ W2, W2 = Lib.bytesWorld wr 5 tb := ⟨_, rfl⟩
      have hb2 : Below wr.heap.size wr W2 := by rw [hW2]; exact Lib.bytesWorld_below wr 5 tb
      rw [← hW2]
      have HR2 := Lib.hid ((HR.out.below hb2).more hb2.size)
      have HB2 := Lib.hid (HB.out.trans (hb2.mono HB.out.size))
      clear hb2 hW2 HR HB HAT
      go_upto_region 6 with (at_make; refine wpList_make_full _ rfl _ _ _ rfl W2.heap.size 91 i0 _ 1 Tryz.underlying34 hi hz0 hz1 _ _ _ _ (n + 1) rfl rfl (by omega) (by omega) (by rw [hz2]; omega) (by unfold maxLen; omega) (Nat.le_refl _) ?_; intro w4 hown4 hg4)
      have hb4 : Below W2.heap.size W2 w4 := (Below.refl _ _).grown hg4 (Nat.le_refl _) (fun k hk => by cases hk)
      have hR4 : RowW .u32 w4 W2.heap.size 91 (List.replicate (n + 1) 0) := row_zeros hown4
      have hco := hR4.cell 0 (by simp)
      have hfo := hR4.free 0
      have hset := hR4.set_ 0 (by simp) x
      have hdz : Dig 4294967296 ((List.replicate (n + 1) (0 : Int)).set 0 x) := (dig_zeros (by omega) _).set 0 (by omega)
      have hbs : Below W2.heap.size W2 (w4.setCell ⟨W2.heap.size, 0, none⟩ (.int .u32 x)) := hb4.setCell (p := ⟨W2.heap.size, 0, none⟩) (Nat.le_refl _) _
      have HAD := Lib.hid (addTimes_any W2.heap.size 0 (n + 1) (n + 1) A n c 1000000000 zs _ _ hset (by simp) (HR2.out.1.below hbs) (by omega) (by omega) HR2.out.2.2.2.2.1 hdz (by omega))
      have HB4 := Lib.hid (HB2.out.trans (hbs.mono HB2.out.size))
      have hwx : IntKind.u32.wrap x = x := IntWalk.u32_in _ (by omega)
      have hgs : w.heap.size ≤ W2.heap.size := HB2.out.size
      clear hown4 hg4 hb4 hR4 hset hdz hbs
      go_wp2_with fail
      refine HAD.out.mono ?_
      rintro e3 w6 ⟨cy, L, rfl, hR6, hg6, hI6⟩
      have hLn : L.length = n + 1 := by rw [hI6.1]; simp
      have hv6 : dv 4294967296 L = valT (l.take (p + e)) := by
        have h0 : dv 4294967296 ((List.replicate (n + 1) (0 : Int)).set 0 x) = x := by
          rw [dv_set _ _ _ _ (by simp), dv_zeros, Int.pow_zero]; simp
        have hX := HR2.out.lt
        have hX0 := HR2.out.nonneg
        have ez := HR2.out.2.2.2.2.2.2
        have e := hI6.fits (by rw [HR2.out.1.len]; omega) (by simp) (by
          rw [h0, ez, Int.pow_succ]
          generalize (4294967296 : Int) ^ n = P at *
          omega)
        rw [e, h0, ez, HGV.out]
        omega
      have hsl := hR6.sl 0 (n + 1) w6.heap.size (by omega) hR6.lt
      rw [List.drop_zero, List.take_of_length_le (by omega)] at hsl
      have HSL := Lib.hid hsl
      have HDL := Lib.hid hI6.2.1
      have HB6 := Lib.hid (HB4.out.grown hg6 HB4.out.size (fun k hk => by cases hk; exact hgs))
      have HV6 := Lib.hid hv6
      clear hR6 hg6 hI6 hv6 hsl HAD HR2 HB2 HB4 hco hfo
      go_upto_region 8 with (fail)
      go_region_held3 (fun _ => True) (trivial)
        (first
          | (go_at_call 51
             refine (trimmed_any (some ⟨W2.heap.size, 0, none⟩) (n + 1) (n + 1) w6.heap.size L _ (by exact HSL.out) (Nat.le_refl _) (by unfold maxLen; omega) (by intro h; cases h) HDL.out).mono ?_
             rintro e4 w9 ⟨k4, rfl, hk4, hn4, rfl⟩
             have HN4 := Lib.hid hn4
             clear hn4))
      go_wp2_with fail
      have he := HE.out
      have hk4' : k4 ≤ p + e := by omega
      go_roundg (gk - e)
      case measure => omega
      case rel => exact ⟨_, _, k4, n + 1, _, p + e, rfl, rfl, by omega, HEt.out, by rw [← HV6.out]; exact HN4.out, hk4', .inr (by omega), by first | exact HB6.out | exact below_drewN HB6.out _⟩
end Go.Proofs.YtgfhniiidejmoaaGreatDoor
namespace Go.Proofs.YtgfhniiidejmoaaGreatDoor
open Go.RowKit
set_option linter.unusedVariables false

theorem pre_neg (l : List UInt8) : Lib.hasPrefix l [45] = negT l := by
  unfold negT Lib.hasPrefix
  match l with
  | [] => rfl
  | b :: t =>
    show (45 == b && [].isPrefixOf t) = (some b == some 45)
    by_cases h : b = 45
    · subst h; simp
    · have h2 : ¬ 45 = b := fun e => h e.symm
      rw [show ((45 : UInt8) == b) = false from beq_eq_false_iff_ne.2 h2, show (some b == some (45 : UInt8)) = false from beq_eq_false_iff_ne.2 (fun e => h (Option.some.inj e))]
      rfl
theorem pre_ds (l : List UInt8) : Lib.trimPrefix l [45] = dsT l := by
  unfold Lib.trimPrefix dsT
  rw [pre_neg]
  match l with
  | [] => rfl
  | b :: t => rfl
theorem parse_form {l : List UInt8} (h : l.length ≤ 5000) {C neg t : Bool} (hC : C = canT (dsT l)) (hn : neg = negT l) (ht : t = (dsT l == [48])) :
    (C = false ∨ (neg = true ∧ t = true) → parseT l = (0, 2)) ∧ (C = true → ¬ (neg = true ∧ t = true) → (∀ b ∈ dsT l, isD b = true) ∧ (parseT l).1 = fitI (sgn neg (valT (dsT l))) ∧ ((parseT l).2 : Int) = fitE (sgn neg (valT (dsT l)))) := by
  have hok : okT l = (C && !(neg && t)) := by
    unfold okT
    rw [← hC, ← hn, ht]
    congr 3
    by_cases h : dsT l = [48]
    · rw [h]; rfl
    · rw [decide_eq_false h, beq_eq_false_iff_ne.2 h]
  constructor
  · intro hb
    have : okT l = false := by
      rw [hok]
      rcases hb with rfl | ⟨rfl, rfl⟩
      · rfl
      · cases C <;> rfl
    unfold parseT; rw [if_neg (by omega), if_pos this]
  · intro hc hnt
    have hd : ∀ b ∈ dsT l, isD b = true := by
      rw [hc] at hC
      unfold canT at hC
      have := (Bool.and_eq_true_iff.1 hC.symm).2
      exact List.all_eq_true.1 this
    have hv := (valT_bd hd).1
    have : okT l = true := by
      rw [hok, hc]
      cases neg
      · rfl
      · cases t
        · rfl
        · exact absurd ⟨rfl, rfl⟩ hnt
    have e : parseT l = if lim ≤ valT (dsT l) then (0, 4) else (signI neg (valT (dsT l)), 0) := by
      unfold parseT; rw [if_neg (by omega), if_neg (by rw [this]; simp), ← hn]
    refine ⟨hd, ?_, ?_⟩
    · rw [e, fitI, sgn_abs neg hv]
      by_cases h1 : lim ≤ valT (dsT l)
      · rw [if_pos h1, if_neg (by omega)]
      · rw [if_neg h1, if_pos (by omega)]; rfl
    · rw [e, fitE, sgn_abs neg hv]
      by_cases h1 : lim ≤ valT (dsT l)
      · rw [if_pos h1, if_neg (by omega)]; rfl
      · rw [if_neg h1, if_pos (by omega)]; rfl
set_option maxRecDepth 100000 in
set_option maxHeartbeats 1000000 in
theorem iparse_any (s : ByteArray) (l : List UInt8) (hl : s.data.toList = l) (w : World) :
    Calls Tryz.prog 12 #[.string s] w (NewE (parseT l).1 ((parseT l).2 : Int) w) := by
  have hsz : s.size = l.length := by rw [Lib.size_eq, hl]
  have hal : Below w.heap.size w (w.alloc (.cells #[.bool false, .slice none 0 0] 36)) := (Below.refl _ _).alloc (Nat.le_refl _) _
  have HZ := Lib.hid (fun er => show NewE 0 er w (.returned (.tuple #[.agg #[.bool false, .slice none 0 0], .int .i64 er])) (w.alloc (.cells #[.bool false, .slice none 0 0] 36)) from ⟨_, rfl, RepI.zero _ _, hal⟩)
  by_cases h5 : (5000 : Int) < (s.size : Int)
  · rw [parse_long (l := l) (by omega)]
    have HF := Lib.hid (HZ.out 4)
    clear hal HZ hl hsz
    go_enter Tryz.func12, Tryz.ntmps12
    go_wp2_with fail
    exact bodyPost_ret (v := .tuple #[.agg #[.bool false, .slice none 0 0], .int .i64 4]) (by simp [results, Tryz.results12, go_sem]) rfl HF.out
  · have HCP := Lib.hid (Tryz.strings_CutPrefix s ⟨#[45]⟩ (w.alloc (.cells #[.bool false, .slice none 0 0] 36)))
    rw [hl, show (⟨#[45]⟩ : ByteArray).data.toList = [45] from rfl, pre_neg, pre_ds] at HCP
    obtain ⟨D, hD⟩ : ∃ D : ByteArray, D = ⟨(dsT l).toArray⟩ := ⟨_, rfl⟩
    have hDl : D.data.toList = dsT l := by rw [hD]
    rw [← hD] at HCP
    obtain ⟨neg, hneg⟩ : ∃ neg, neg = negT l := ⟨_, rfl⟩
    rw [← hneg] at HCP
    have hDs : D.size ≤ 5000 := by rw [Lib.size_eq, hDl]; have := ds_len l; omega
    have HCA := Lib.hid (canonical_any D (w.alloc (.cells #[.bool false, .slice none 0 0] 36)) (by omega))
    rw [hDl] at HCA
    obtain ⟨C, hC⟩ : ∃ C, C = canT (dsT l) := ⟨_, rfl⟩
    rw [← hC] at HCA
    obtain ⟨t, ht⟩ : ∃ t, t = (dsT l == [48]) := ⟨_, rfl⟩
    have hte : (D.toList == [48]) = t := by rw [Lib.toList_data, hDl, ht]
    obtain ⟨hbad, hgood⟩ := parse_form (l := l) (by omega) hC hneg ht
    have HK := Lib.hid (Blk2.new w 36 (.bool false) (.slice none 0 0))
    have HAL := Lib.hid hal
    obtain ⟨Z, hZ⟩ : ∃ Z, Z = (parseT l).1 := ⟨_, rfl⟩
    obtain ⟨er, her⟩ : ∃ er : Int, er = ((parseT l).2 : Int) := ⟨_, rfl⟩
    have HBAD := Lib.hid (show C = false ∨ (neg = true ∧ t = true) → Z = 0 ∧ er = 2 from fun h => by rw [hZ, her, hbad h]; exact ⟨rfl, rfl⟩)
    have HGOOD := Lib.hid (show C = true → ¬ (neg = true ∧ t = true) → (∀ b ∈ dsT l, isD b = true) ∧ Z = fitI (sgn neg (valT (dsT l))) ∧ er = fitE (sgn neg (valT (dsT l))) from fun h1 h2 => by rw [hZ, her]; exact hgood h1 h2)
    rw [← hZ, ← her]
    have HDL := Lib.hid hDl
    have hdl := ds_len l
    clear hD hZ her hbad hgood hC hneg ht hal hDl hl
    cases C with
    | false =>
      obtain ⟨rfl, rfl⟩ := HBAD.out (.inl rfl)
      have HF := Lib.hid (HZ.out 2)
      clear HBAD HGOOD HZ
      go_enter Tryz.func12, Tryz.ntmps12
      go_wp2_with fail
      refine HCP.out.mono ?_
      rintro e w1 ⟨rfl, rfl⟩
      go_wp2_with fail
      refine HCA.out.mono ?_
      rintro e w1 ⟨rfl, rfl⟩
      go_wp2_with fail
      exact bodyPost_ret (v := .tuple #[.agg #[.bool false, .slice none 0 0], .int .i64 2]) (by simp [results, Tryz.results12, go_sem]) rfl HF.out
    | true =>
      by_cases hnt : neg = true ∧ t = true
      · obtain ⟨rfl, rfl⟩ := hnt
        obtain ⟨rfl, rfl⟩ := HBAD.out (.inr ⟨rfl, rfl⟩)
        have HF := Lib.hid (HZ.out 2)
        clear HBAD HGOOD HZ
        go_enter Tryz.func12, Tryz.ntmps12
        go_wp2_with fail
        refine HCP.out.mono ?_
        rintro e w1 ⟨rfl, rfl⟩
        go_wp2_with fail
        refine HCA.out.mono ?_
        rintro e w1 ⟨rfl, rfl⟩
        go_wp2_with fail
        exact bodyPost_ret (v := .tuple #[.agg #[.bool false, .slice none 0 0], .int .i64 2]) (by simp [results, Tryz.results12, go_sem]) rfl HF.out
      · obtain ⟨hd, h1, h2⟩ := HGOOD.out rfl hnt
        have HFD := Lib.hid (fromDecimals_any D (dsT l) HDL.out hd (by omega) (w.alloc (.cells #[.bool false, .slice none 0 0] 36)))
        have HP := Lib.hid (And.intro h1 h2)
        clear HBAD HGOOD HZ hd h1 h2
        cases neg with
        | false =>
          go_enter Tryz.func12, Tryz.ntmps12
          go_wp2_with fail
          refine HCP.out.mono ?_
          rintro e w1 ⟨rfl, rfl⟩
          go_wp2_with fail
          refine HCA.out.mono ?_
          rintro e w1 ⟨rfl, rfl⟩
          go_wp2_with fail
          refine HFD.out.mono ?_
          rintro e w3 ⟨A3, n3, c3, ys3, rfl, r3, b3⟩
          have HIR := Lib.hid (inRange_any false _ A3 n3 c3 ys3 w3 r3 _ rfl)
          rw [← HP.out.1, ← HP.out.2] at HIR
          have HK3 := Lib.hid (HK.out.below b3)
          have HB3 := Lib.hid (HAL.out.trans (b3.mono HAL.out.size))
          clear r3 b3 HFD HP
          go_wp2_with fail
          refine HIR.out.mono ?_
          rintro e w4 ⟨v4, rfl, r4, b4⟩
          obtain ⟨d4, A4, n4, q4, rfl⟩ := r4.shape
          have hk4 := HK3.out.below b4
          have c0 := hk4.c0
          have c1 := hk4.c1
          have f0 := hk4.f0
          have f1 := hk4.f1
          have HF := Lib.hid (repI_ret r4 hk4 (HB3.out.trans (b4.mono HB3.out.size)) (Nat.le_refl _))
          clear r4 b4 hk4
          go_wp2_with fail
          exact bodyPost_ret (v := .tuple #[.agg #[.bool d4, .slice A4 n4 q4], .int .i64 er]) (by simp [results, Tryz.results12, go_sem, c0, c1]) rfl ⟨_, rfl, HF.out.1, HF.out.2⟩
        | true =>
          obtain rfl : t = false := by cases t; rfl; exact absurd ⟨rfl, rfl⟩ hnt
          go_enter Tryz.func12, Tryz.ntmps12
          go_wp2_with fail
          refine HCP.out.mono ?_
          rintro e w1 ⟨rfl, rfl⟩
          go_wp2_with fail
          refine HCA.out.mono ?_
          rintro e w1 ⟨rfl, rfl⟩
          go_wp2_with fail
          refine HFD.out.mono ?_
          rintro e w3 ⟨A3, n3, c3, ys3, rfl, r3, b3⟩
          have HIR := Lib.hid (inRange_any true _ A3 n3 c3 ys3 w3 r3 _ rfl)
          rw [← HP.out.1, ← HP.out.2] at HIR
          have HK3 := Lib.hid (HK.out.below b3)
          have HB3 := Lib.hid (HAL.out.trans (b3.mono HAL.out.size))
          clear r3 b3 HFD HP
          go_wp2_with fail
          refine HIR.out.mono ?_
          rintro e w4 ⟨v4, rfl, r4, b4⟩
          obtain ⟨d4, A4, n4, q4, rfl⟩ := r4.shape
          have hk4 := HK3.out.below b4
          have c0 := hk4.c0
          have c1 := hk4.c1
          have f0 := hk4.f0
          have f1 := hk4.f1
          have HF := Lib.hid (repI_ret r4 hk4 (HB3.out.trans (b4.mono HB3.out.size)) (Nat.le_refl _))
          clear r4 b4 hk4
          go_wp2_with fail
          exact bodyPost_ret (v := .tuple #[.agg #[.bool d4, .slice A4 n4 q4], .int .i64 er]) (by simp [results, Tryz.results12, go_sem, c0, c1]) rfl ⟨_, rfl, HF.out.1, HF.out.2⟩
end Go.Proofs.YtgfhniiidejmoaaGreatDoor
namespace Go.Proofs.YtgfhniiidejmoaaGreatDoor
open Go.RowKit
set_option linter.unusedVariables false

/-- a row half turned round -/
def RevI (bs : List Int) (i j : Nat) (M : List Int) : Prop :=
  M.length = bs.length ∧ ∀ k, k < bs.length → M[k]?.getD 0 = if k < i ∨ j < k then bs[bs.length - 1 - k]?.getD 0 else bs[k]?.getD 0
theorem RevI.start (bs : List Int) : RevI bs 0 (bs.length - 1) bs := ⟨rfl, fun k hk => by rw [if_neg (by omega)]⟩
theorem RevI.step {bs M : List Int} {i j : Nat} (h : RevI bs i j M) (hij : i < j) (hj : i + j = bs.length - 1) : RevI bs (i + 1) (j - 1) ((M.set i (M[j]?.getD 0)).set j (M[i]?.getD 0)) := by
  obtain ⟨hl, hm⟩ := h
  refine ⟨by rw [List.length_set, List.length_set, hl], fun k hk => ?_⟩
  have hi := hm i (by omega)
  have hjv := hm j (by omega)
  rw [if_neg (by omega)] at hi hjv
  by_cases h1 : k = j
  · subst h1
    rw [List.getElem?_set_self (by rw [List.length_set]; omega), if_pos (by omega), Option.getD_some, hi, show bs.length - 1 - k = i by omega]
  · rw [List.getElem?_set_ne (by omega)]
    by_cases h2 : k = i
    · subst h2
      rw [List.getElem?_set_self (by omega), if_pos (by omega), Option.getD_some, hjv, show bs.length - 1 - k = j by omega]
    · rw [List.getElem?_set_ne (by omega), hm k hk]
      by_cases h3 : k < i ∨ j < k
      · rw [if_pos h3, if_pos (by omega)]
      · rw [if_neg h3, if_neg (by omega)]
theorem RevI.done {bs M : List Int} {i j : Nat} (h : RevI bs i j M) (hij : ¬ (i : Int) < (j : Int)) (hj : i + j = bs.length - 1) : M = bs.reverse := by
  apply List.ext_getElem
  · rw [h.1, List.length_reverse]
  · intro k h1 h2
    have hk : k < bs.length := by rw [← h.1]; exact h1
    have e := h.2 k hk
    rw [List.getElem?_eq_getElem h1] at e
    rw [List.getElem_reverse]
    have e3 : M[k] = bs[bs.length - 1 - k]?.getD 0 := by
      by_cases h3 : k < i ∨ j < k
      · rw [if_pos h3] at e; exact e
      · rw [if_neg h3] at e
        rw [show bs.length - 1 - k = k by omega]; exact e
    rw [e3, List.getElem?_eq_getElem (by omega)]; rfl
end Go.Proofs.YtgfhniiidejmoaaGreatDoor
