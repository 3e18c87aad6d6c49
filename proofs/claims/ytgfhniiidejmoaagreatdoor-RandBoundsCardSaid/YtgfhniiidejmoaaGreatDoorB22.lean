/- Contracts of package wide's numbers: add, subtract. · Contracts of package wide's numbers: multiply. -/
import Derived.Test.YtgfhniiidejmoaaGreatDoorB20
import Derived.Laws.CopyOwn
import Derived.Deep.DeepCutAuto
import Derived.Test.YtgfhniiidejmoaaGreatDoorB21
namespace Go.Proofs.YtgfhniiidejmoaaGreatDoor
open Go.RowKit
set_option linter.unusedVariables false

theorem u32_info : (Tryz.prog.info? 91).map (fun i => (i.zero, i.size, i.bytes)) = some (some (.int .u32 0), 1, 4) := by kernel_rfl
theorem u32_one : (Tryz.prog.info? 91).map (·.size) = some 1 := by kernel_rfl
theorem made_whole {k : IntKind} {base n g : Nat} {t : TypeId} {w : World} (h : w.ownsRow base t 1 (.slice (some ⟨g, 0, none⟩) n n) n (madeCells (Value.int k 0).cells (n * 1)).toList) :
    w.heap[g]? = some (.cells ((List.replicate n (0 : Int)).map (Value.int k)).toArray t (0, 0)) := by
  have e : (madeCells (Value.int k 0).cells (n * 1)).toList = (List.replicate n (0 : Int)).map (Value.int k) := by
    rw [show (Value.int k 0).cells = #[Value.int k 0] from rfl, Nat.mul_one, toList_madeCells_one, List.map_replicate]
  rcases h.2 with ⟨h0, _⟩ | ⟨g', cap, cur, hv, hb, hg, hnc, hm, hcs, ht⟩
  · cases h0
  · have hgg : g = g' := by injection hv with h1; injection h1 with h1; injection h1
    have hcap : n = cap := by injection hv
    subst hgg
    subst hcap
    rw [hg, ← e, ← ht, List.take_of_length_le (by rw [Array.length_toList, hcs]; exact Nat.le_refl _)]
theorem row_copied {k : IntKind} {N n g : Nat} {t : TypeId} {w : World} {zs : List Int} (hn : zs.length = n) (hN : n ≤ N)
    (h : w.heap[g]? = some (.cells (splice ((List.replicate N (0 : Int)).map (Value.int k)) 0 (zs.map (Value.int k))).toArray t (0, 0))) : RowW k w g t (zs ++ List.replicate (N - n) 0) := by
  have e : splice ((List.replicate N (0 : Int)).map (Value.int k)) 0 (zs.map (Value.int k)) = (zs ++ List.replicate (N - n) 0).map (Value.int k) := by
    unfold splice
    rw [List.take_zero, List.nil_append, List.length_map, Nat.zero_add, hn, ← List.map_drop, List.drop_replicate, List.map_append]
  rw [e] at h
  exact ⟨_, h, by simp, by rw [List.toList_toArray, List.take_of_length_le (by simp)]⟩
theorem Sl.src {k : IntKind} {w : World} {B n : Nat} {A : Option Addr} {zs : List Int} (h : Sl k w B A n zs) (hp : 0 < (zs.map (Value.int k)).length) : ∃ ad, A = some ad ∧ ∀ j v, (zs.map (Value.int k))[j]? = some v → w.cell? (ad.add j) = some v := by
  have hl := h.len
  obtain ⟨b, off, rfl, _, _⟩ := h.at_ (by simpa [hl] using hp)
  exact ⟨_, rfl, h.news.2⟩
theorem dv_zero_end (B : Int) (zs : List Int) (m : Nat) : dv B (zs ++ List.replicate m 0) = dv B zs := by rw [dv_app, dv_zeros]; simp
theorem dig_zero_end {B : Int} (hB : 0 < B) {zs : List Int} (h : Dig B zs) (m : Nat) : Dig B (zs ++ List.replicate m 0) := h.app (fun d hd => by rw [List.eq_of_mem_replicate hd]; omega)
theorem AddI.done {off n : Nat} {f cy : Int} {ys L0 L : List Int} (h : AddI off f ys L0 n cy L) (hy : ys.length ≤ n) : dv 4294967296 L + 4294967296 ^ (off + n) * cy = dv 4294967296 L0 + 4294967296 ^ off * (f * dv 4294967296 ys) := by
  have h5 := h.2.2.2.2.1
  rwa [List.take_of_length_le hy] at h5
theorem AddI.fits {f cy : Int} {ys L0 L : List Int} {n : Nat} (h : AddI 0 f ys L0 n cy L) (hy : ys.length ≤ n) (hn : L0.length = n) (hs : dv 4294967296 L0 + f * dv 4294967296 ys < 4294967296 ^ n) : dv 4294967296 L = dv 4294967296 L0 + f * dv 4294967296 ys := by
  have e := h.done hy
  rw [Nat.zero_add, Int.pow_zero, Int.one_mul] at e
  have h0 := dv_nonneg (show (0 : Int) < 4294967296 by omega) h.2.1
  have h3 := h.2.2.1
  rcases Int.lt_or_eq_of_le h3 with h4 | h4
  · have := Int.mul_le_mul_of_nonneg_left (show 1 ≤ cy by omega) (Int.le_of_lt (pow_pos' (show (0 : Int) < 4294967296 by omega) n))
    omega
  · rw [← h4, Int.mul_zero] at e; omega
set_option maxRecDepth 100000 in
set_option maxHeartbeats 800000 in
theorem nadd_at (N : Nat) (x y : Int) (A E : Option Addr) (n c m f : Nat) (zs ys : List Int) (w : World) (h : NatR w w.heap.size x A n c zs) (k : NatR w w.heap.size y E m f ys) (hn : n ≤ 50000) (hm : m ≤ 50000) (hN : n < m ∧ N = m + 1 ∨ ¬ n < m ∧ N = n + 1) :
    Calls Tryz.prog 54 #[.slice A n c, .slice E m f] w (NewU (x + y) w) := by
  obtain ⟨i0, hi, hz0, hz1, hz2⟩ := info_parts u32_info
  obtain ⟨hs, hnc, hc, hA, hz, tz, rfl⟩ := h
  obtain ⟨ks, kmf, kf, kE, hy, ty, rfl⟩ := k
  have hnN : n + 1 ≤ N := by omega
  have hmN : m + 1 ≤ N := by omega
  have hN5 : N ≤ 50001 := by omega
  have HS := Lib.hid hs
  have HK := Lib.hid ks
  have HZ := Lib.hid hz
  have HY := Lib.hid hy
  have HNN := Lib.hid hN
  obtain ⟨X, hX⟩ : ∃ X, X = dv 4294967296 zs + dv 4294967296 ys := ⟨_, rfl⟩
  rw [← hX]
  have HX := Lib.hid hX
  clear hs ks hz hy tz ty hA kE hX hN
  go_enter Tryz.func54, Tryz.ntmps54
  rcases HNN.out with ⟨h1, hN⟩ | ⟨h1, hN⟩
  · have h1' : (n : Int) < (m : Int) := by omega
    clear hN
    go_upto_region 2 with (at_make; refine wpList_make_full _ rfl _ _ _ rfl w.heap.size 91 i0 _ 1 Tryz.underlying34 hi hz0 hz1 _ _ _ _ N rfl rfl (by have := HNN.out; omega) (by have := HNN.out; omega) (by rw [hz2]; omega) (by unfold maxLen; omega) (Nat.le_refl _) ?_; intro w4 hown4 hg4)
    have hB4 : Below w.heap.size w w4 := (Below.refl _ _).grown hg4 (Nat.le_refl _) (fun k hk => by cases hk)
    have hwh := made_whole hown4
    have HS4 := Lib.hid ((HS.out.below hB4))
    have HK4 := Lib.hid ((HK.out.below hB4))
    have HB4 := Lib.hid hB4
    have HWH := Lib.hid hwh
    clear hown4 hg4 hB4 hwh
    go_wp2_with (with_reducible refine wpList_copy_splice rfl (.tmp 13) (.tmp 14) 34 34 rfl 91 Tryz.underlying34 u32_one (some ⟨w.heap.size, 0, none⟩) A N N n c rfl rfl w.heap.size 0 ((List.replicate N (0 : Int)).map (Value.int .u32)) 91 HWH.out (zs.map (Value.int .u32)) (by rw [List.length_map, HS.out.len]; exact (Nat.min_eq_left (by omega)).symm) (fun hp => ⟨rfl, HS4.out.src hp⟩) (by simp [HS.out.len]; omega) (ints_oneCell _ _) w.heap.size w4 (Below.refl _ _) (Nat.le_refl _) ?_; intro w5 hw5 hb5)
    have hR5 : RowW .u32 w5 w.heap.size 91 (zs ++ List.replicate (N - n) 0) := row_copied HS.out.len (by omega) hw5.out
    have hL5 : (zs ++ List.replicate (N - n) 0).length = N := by rw [List.length_append, HS.out.len, List.length_replicate]; omega
    have HAT := Lib.hid (addTimes_any w.heap.size 0 N N E m f 1 ys _ w5 hR5 (by rw [hL5]; omega) (HK4.out.below hb5) (by omega) (by omega) HY.out (dig_zero_end (by omega) HZ.out _) ⟨by omega, by omega⟩)
    have HL5 := Lib.hid hL5
    have HB5 := Lib.hid (HB4.out.trans (hb5.mono (Nat.le_refl _)))
    clear hw5 hb5 hR5 hL5 HWH HS4 HK4
    refine HAT.out.mono ?_
    rintro e w6 h6
    obtain ⟨cy, L, rfl, hR6, hg6, hI6⟩ := h6
    have hlt : dv 4294967296 (zs ++ List.replicate (N - n) 0) + 1 * dv 4294967296 ys < 4294967296 ^ N := by
      rw [dv_zero_end, Int.one_mul]
      have h1 := dv_lt (show (0 : Int) < 4294967296 by omega) HZ.out
      have h2 := dv_lt (show (0 : Int) < 4294967296 by omega) HY.out
      have h3 := pow_mono' (show (0 : Int) < 4294967296 by omega) (show zs.length ≤ N - 1 by rw [HS.out.len]; omega)
      have h4 := pow_mono' (show (0 : Int) < 4294967296 by omega) (show ys.length ≤ N - 1 by rw [HK.out.len]; omega)
      have h5 : (4294967296 : Int) ^ N = 4294967296 ^ (N - 1) * 4294967296 := by have := Int.pow_succ (4294967296 : Int) (N - 1); rwa [show (N - 1).succ = N by omega] at this
      have h6 := pow_pos' (show (0 : Int) < 4294967296 by omega) (N - 1)
      rw [h5]; omega
    have hv := hI6.fits (by rw [HK.out.len]; omega) HL5.out hlt
    rw [dv_zero_end, Int.one_mul, ← HX.out] at hv
    have hLN : L.length = N := hI6.1.trans HL5.out
    have hsl := hR6.sl 0 N w6.heap.size (by omega) hR6.lt
    rw [List.drop_zero, List.take_of_length_le (by omega)] at hsl
    have HT := Lib.hid (trimmed_any (some ⟨w.heap.size, 0, none⟩) N N _ L w6 hsl (Nat.le_refl _) (by unfold maxLen; omega) (by intro h; cases h) hI6.2.1)
    have HB6 := Lib.hid (HB5.out.grown hg6 HB5.out.size (fun k hk => by cases hk; exact Nat.le_refl _))
    have HV := Lib.hid hv
    clear hR6 hg6 hI6 hlt hv hLN hsl HAT
    go_wp2_with fail
    refine HT.out.mono ?_
    rintro e w7 h
    have hn := h.new (Nat.le_refl _) HB6.out HV.out
    obtain ⟨A7, n7, c7, zs7, rfl, hr, hb⟩ := hn
    have HF := Lib.hid (show NewU X w (.returned (.slice A7 n7 c7)) w7 from ⟨A7, n7, c7, zs7, rfl, hr, hb⟩)
    clear h hr hb
    go_wp2_with fail
    go_ret
    exact HF.out
  · have h1' : ¬ (n : Int) < (m : Int) := by omega
    clear hN
    go_upto_region 2 with (at_make; refine wpList_make_full _ rfl _ _ _ rfl w.heap.size 91 i0 _ 1 Tryz.underlying34 hi hz0 hz1 _ _ _ _ N rfl rfl (by have := HNN.out; omega) (by have := HNN.out; omega) (by rw [hz2]; omega) (by unfold maxLen; omega) (Nat.le_refl _) ?_; intro w4 hown4 hg4)
    have hB4 : Below w.heap.size w w4 := (Below.refl _ _).grown hg4 (Nat.le_refl _) (fun k hk => by cases hk)
    have hwh := made_whole hown4
    have HS4 := Lib.hid ((HS.out.below hB4))
    have HK4 := Lib.hid ((HK.out.below hB4))
    have HB4 := Lib.hid hB4
    have HWH := Lib.hid hwh
    clear hown4 hg4 hB4 hwh
    go_wp2_with (with_reducible refine wpList_copy_splice rfl (.tmp 13) (.tmp 14) 34 34 rfl 91 Tryz.underlying34 u32_one (some ⟨w.heap.size, 0, none⟩) A N N n c rfl rfl w.heap.size 0 ((List.replicate N (0 : Int)).map (Value.int .u32)) 91 HWH.out (zs.map (Value.int .u32)) (by rw [List.length_map, HS.out.len]; exact (Nat.min_eq_left (by omega)).symm) (fun hp => ⟨rfl, HS4.out.src hp⟩) (by simp [HS.out.len]; omega) (ints_oneCell _ _) w.heap.size w4 (Below.refl _ _) (Nat.le_refl _) ?_; intro w5 hw5 hb5)
    have hR5 : RowW .u32 w5 w.heap.size 91 (zs ++ List.replicate (N - n) 0) := row_copied HS.out.len (by omega) hw5.out
    have hL5 : (zs ++ List.replicate (N - n) 0).length = N := by rw [List.length_append, HS.out.len, List.length_replicate]; omega
    have HAT := Lib.hid (addTimes_any w.heap.size 0 N N E m f 1 ys _ w5 hR5 (by rw [hL5]; omega) (HK4.out.below hb5) (by omega) (by omega) HY.out (dig_zero_end (by omega) HZ.out _) ⟨by omega, by omega⟩)
    have HL5 := Lib.hid hL5
    have HB5 := Lib.hid (HB4.out.trans (hb5.mono (Nat.le_refl _)))
    clear hw5 hb5 hR5 hL5 HWH HS4 HK4
    refine HAT.out.mono ?_
    rintro e w6 h6
    obtain ⟨cy, L, rfl, hR6, hg6, hI6⟩ := h6
    have hlt : dv 4294967296 (zs ++ List.replicate (N - n) 0) + 1 * dv 4294967296 ys < 4294967296 ^ N := by
      rw [dv_zero_end, Int.one_mul]
      have h1 := dv_lt (show (0 : Int) < 4294967296 by omega) HZ.out
      have h2 := dv_lt (show (0 : Int) < 4294967296 by omega) HY.out
      have h3 := pow_mono' (show (0 : Int) < 4294967296 by omega) (show zs.length ≤ N - 1 by rw [HS.out.len]; omega)
      have h4 := pow_mono' (show (0 : Int) < 4294967296 by omega) (show ys.length ≤ N - 1 by rw [HK.out.len]; omega)
      have h5 : (4294967296 : Int) ^ N = 4294967296 ^ (N - 1) * 4294967296 := by have := Int.pow_succ (4294967296 : Int) (N - 1); rwa [show (N - 1).succ = N by omega] at this
      have h6 := pow_pos' (show (0 : Int) < 4294967296 by omega) (N - 1)
      rw [h5]; omega
    have hv := hI6.fits (by rw [HK.out.len]; omega) HL5.out hlt
    rw [dv_zero_end, Int.one_mul, ← HX.out] at hv
    have hLN : L.length = N := hI6.1.trans HL5.out
    have hsl := hR6.sl 0 N w6.heap.size (by omega) hR6.lt
    rw [List.drop_zero, List.take_of_length_le (by omega)] at hsl
    have HT := Lib.hid (trimmed_any (some ⟨w.heap.size, 0, none⟩) N N _ L w6 hsl (Nat.le_refl _) (by unfold maxLen; omega) (by intro h; cases h) hI6.2.1)
    have HB6 := Lib.hid (HB5.out.grown hg6 HB5.out.size (fun k hk => by cases hk; exact Nat.le_refl _))
    have HV := Lib.hid hv
    clear hR6 hg6 hI6 hlt hv hLN hsl HAT
    go_wp2_with fail
    refine HT.out.mono ?_
    rintro e w7 h
    have hn := h.new (Nat.le_refl _) HB6.out HV.out
    obtain ⟨A7, n7, c7, zs7, rfl, hr, hb⟩ := hn
    have HF := Lib.hid (show NewU X w (.returned (.slice A7 n7 c7)) w7 from ⟨A7, n7, c7, zs7, rfl, hr, hb⟩)
    clear h hr hb
    go_wp2_with fail
    go_ret
    exact HF.out
theorem nadd_any (x y : Int) (A E : Option Addr) (n c m f : Nat) (zs ys : List Int) (w : World) (h : NatR w w.heap.size x A n c zs) (k : NatR w w.heap.size y E m f ys) (hn : n ≤ 50000) (hm : m ≤ 50000) :
    Calls Tryz.prog 54 #[.slice A n c, .slice E m f] w (NewU (x + y) w) := by
  by_cases h1 : n < m
  · exact nadd_at (m + 1) x y A E n c m f zs ys w h k hn hm (.inl ⟨h1, rfl⟩)
  · exact nadd_at (n + 1) x y A E n c m f zs ys w h k hn hm (.inr ⟨h1, rfl⟩)
set_option maxRecDepth 100000 in
set_option maxHeartbeats 800000 in
theorem nsub_any (x y : Int) (A E : Option Addr) (n c m f : Nat) (zs ys : List Int) (w : World) (h : NatR w w.heap.size x A n c zs) (k : NatR w w.heap.size y E m f ys) (hn : n ≤ 50000) (hm : m ≤ 50000) (hle : y ≤ x) :
    Calls Tryz.prog 56 #[.slice A n c, .slice E m f] w (NewU (x - y) w) := by
  obtain ⟨i0, hi, hz0, hz1, hz2⟩ := info_parts u32_info
  obtain ⟨hs, hnc, hc, hA, hz, tz, rfl⟩ := h
  obtain ⟨ks, kmf, kf, kE, hy, ty, rfl⟩ := k
  have hmn : m ≤ n := by
    rcases Nat.lt_or_ge n m with h1 | h1
    · have := len_lt (show (1 : Int) < 4294967296 by omega) hz hy ty (by rw [hs.len, ks.len]; exact h1)
      omega
    · exact h1
  have HLE := Lib.hid hle
  have HS := Lib.hid hs
  have HK := Lib.hid ks
  have HZ := Lib.hid hz
  have HY := Lib.hid hy
  obtain ⟨X, hX⟩ : ∃ X, X = dv 4294967296 zs - dv 4294967296 ys := ⟨_, rfl⟩
  rw [← hX]
  have HX := Lib.hid hX
  clear hs ks hz hy tz ty hA kE hX hle
  go_enter Tryz.func56, Tryz.ntmps56
  go_upto_region 2 with (at_make; refine wpList_make_full _ rfl _ _ _ rfl w.heap.size 91 i0 _ 1 Tryz.underlying34 hi hz0 hz1 _ _ _ _ n rfl rfl rfl rfl (by rw [hz2]; omega) (by unfold maxLen; omega) (Nat.le_refl _) ?_; intro w4 hown4 hg4)
  have hB4 : Below w.heap.size w w4 := (Below.refl _ _).grown hg4 (Nat.le_refl _) (fun k hk => by cases hk)
  have hwh := made_whole hown4
  have HS4 := Lib.hid ((HS.out.below hB4))
  have HK4 := Lib.hid ((HK.out.below hB4))
  have HB4 := Lib.hid hB4
  have HWH := Lib.hid hwh
  clear hown4 hg4 hB4 hwh
  go_wp2_with (with_reducible refine wpList_copy_splice rfl (.tmp 9) (.tmp 10) 34 34 rfl 91 Tryz.underlying34 u32_one (some ⟨w.heap.size, 0, none⟩) A n n n c rfl rfl w.heap.size 0 ((List.replicate n (0 : Int)).map (Value.int .u32)) 91 HWH.out (zs.map (Value.int .u32)) (by simp [HS.out.len]) (fun hp => ⟨rfl, HS4.out.src hp⟩) (by simp [HS.out.len]) (ints_oneCell _ _) w.heap.size w4 (Below.refl _ _) (Nat.le_refl _) ?_; intro w5 hw5 hb5)
  have hR5 : RowW .u32 w5 w.heap.size 91 (zs ++ List.replicate (n - n) 0) := row_copied HS.out.len (by omega) hw5.out
  have hL5 : (zs ++ List.replicate (n - n) 0).length = n := by rw [List.length_append, HS.out.len, List.length_replicate]; omega
  have HAT := Lib.hid (subTimes_any w.heap.size 0 n n E m f 1 ys _ w5 hR5 (by rw [hL5]; omega) (HK4.out.below hb5) (by omega) (by omega) HY.out (dig_zero_end (by omega) HZ.out _) ⟨by omega, by omega⟩)
  have HL5 := Lib.hid hL5
  have HB5 := Lib.hid (HB4.out.trans (hb5.mono (Nat.le_refl _)))
  clear hw5 hb5 hR5 hL5 HWH HS4 HK4
  refine HAT.out.mono ?_
  rintro e w6 h6
  obtain ⟨cy, bo, L, rfl, hR6, hg6, hI6⟩ := h6
  have hLn0 : L.length = n := hI6.1.trans HL5.out
  have hv : dv 4294967296 L = X := by
    have hlt := dv_lt (show (0 : Int) < 4294967296 by omega) hI6.2.1
    rw [hLn0] at hlt
    have h0 := dv_nonneg (show (0 : Int) < 4294967296 by omega) hI6.2.1
    obtain ⟨c0, c1⟩ := hI6.carry ⟨by omega, by omega⟩ HY.out
    have e := hI6.2.2.2.2.2.1
    have b0 := hI6.2.2.2.1
    rw [List.take_of_length_le (by rw [HK.out.len]; exact hmn), dv_zero_end, Nat.zero_add, Int.pow_zero, Int.one_mul, Int.one_mul] at e
    have hX := HX.out
    have hle := HLE.out
    rcases Int.lt_or_eq_of_le (show 0 ≤ cy + bo by omega) with h4 | h4
    · have := Int.mul_le_mul_of_nonneg_left (show 1 ≤ cy + bo by omega) (Int.le_of_lt (pow_pos' (show (0 : Int) < 4294967296 by omega) n))
      omega
    · rw [← h4, Int.mul_zero] at e; omega
  have hLN : L.length = n := hI6.1.trans HL5.out
  have hsl := hR6.sl 0 n w6.heap.size (by omega) hR6.lt
  rw [List.drop_zero, List.take_of_length_le (by omega)] at hsl
  have HT := Lib.hid (trimmed_any (some ⟨w.heap.size, 0, none⟩) n n _ L w6 hsl (Nat.le_refl _) (by unfold maxLen; omega) (by intro h; cases h) hI6.2.1)
  have HB6 := Lib.hid (HB5.out.grown hg6 HB5.out.size (fun k hk => by cases hk; exact Nat.le_refl _))
  have HV := Lib.hid hv
  clear hR6 hg6 hI6 hv hLN hsl HAT hLn0
  go_wp2_with fail
  refine HT.out.mono ?_
  rintro e w7 h
  have hn := h.new (Nat.le_refl _) HB6.out HV.out
  obtain ⟨A7, n7, c7, zs7, rfl, hr, hb⟩ := hn
  have HF := Lib.hid (show NewU X w (.returned (.slice A7 n7 c7)) w7 from ⟨A7, n7, c7, zs7, rfl, hr, hb⟩)
  clear h hr hb
  go_wp2_with fail
  go_ret
  exact HF.out
end Go.Proofs.YtgfhniiidejmoaaGreatDoor
namespace Go.Proofs.YtgfhniiidejmoaaGreatDoor
open Go.RowKit
set_option linter.unusedVariables false

theorem AddI.mul {i : Nat} {zs ys L0 L : List Int} {cy : Int} (h : AddI i (zs[i]?.getD 0) ys L0 (ys.length + 1) cy L) (h0 : dv 4294967296 L0 = dv 4294967296 (zs.take i) * dv 4294967296 ys) (hz : Dig 4294967296 zs) (hy : Dig 4294967296 ys) (hi : i < zs.length) :
    dv 4294967296 L = dv 4294967296 (zs.take (i + 1)) * dv 4294967296 ys := by
  have e := h.done (by omega)
  have hL0 := dv_nonneg (show (0 : Int) < 4294967296 by omega) h.2.1
  have h3 := h.2.2.1
  have e2 : dv 4294967296 (zs.take (i + 1)) * dv 4294967296 ys = dv 4294967296 L0 + 4294967296 ^ i * (zs[i]?.getD 0 * dv 4294967296 ys) := by
    rw [dv_take, h0, Int.add_mul, Int.mul_assoc]
  rw [← e2] at e
  have hx := dv_lt (show (0 : Int) < 4294967296 by omega) (hz.take (i + 1))
  have hx0 := dv_nonneg (show (0 : Int) < 4294967296 by omega) (hz.take (i + 1))
  have hyl := dv_lt (show (0 : Int) < 4294967296 by omega) hy
  have hy0 := dv_nonneg (show (0 : Int) < 4294967296 by omega) hy
  rw [List.length_take, Nat.min_eq_left (by omega)] at hx
  have hP := pow_pos' (show (0 : Int) < 4294967296 by omega) (i + 1)
  have hb : dv 4294967296 (zs.take (i + 1)) * dv 4294967296 ys < 4294967296 ^ (i + (ys.length + 1)) := by
    rw [show i + (ys.length + 1) = (i + 1) + ys.length by omega, Int.pow_add]
    exact Int.lt_of_le_of_lt (Int.mul_le_mul_of_nonneg_right (Int.le_of_lt hx) hy0) (Int.mul_lt_mul_of_pos_left hyl hP)
  rcases Int.lt_or_eq_of_le h3 with h4 | h4
  · have := Int.mul_le_mul_of_nonneg_left (show 1 ≤ cy by omega) (Int.le_of_lt (pow_pos' (show (0 : Int) < 4294967296 by omega) (i + (ys.length + 1))))
    omega
  · rw [← h4, Int.mul_zero] at e; omega
theorem grown_below {w w1 w2 : World} {B g : Nat} (h : Below B w w1) (hg : w1.grownBy w2 (some g)) (hB : B ≤ g) (h0 : B ≤ w.heap.size) : Below B w w2 :=
  h.grown hg (Nat.le_trans h0 h.size) (fun k hk => by cases hk; exact hB)
theorem dig_zeros {B : Int} (hB : 0 < B) (n : Nat) : Dig B (List.replicate n 0) := fun d hd => by rw [List.eq_of_mem_replicate hd]; omega
theorem row_zeros {k : IntKind} {base n g : Nat} {t : TypeId} {w : World} (h : w.ownsRow base t 1 (.slice (some ⟨g, 0, none⟩) n n) n (madeCells (Value.int k 0).cells (n * 1)).toList) : RowW k w g t (List.replicate n 0) :=
  ⟨_, made_whole h, by simp, by rw [List.toList_toArray, List.take_of_length_le (by simp)]⟩
set_option maxRecDepth 100000 in
set_option maxHeartbeats 1000000 in
theorem nmul_any (x y : Int) (A E : Option Addr) (n c m f : Nat) (zs ys : List Int) (w : World) (h : NatR w w.heap.size x A n c zs) (k : NatR w w.heap.size y E m f ys) (hn : n ≤ 40000) (hm : m ≤ 40000) :
    Calls Tryz.prog 81 #[.slice A n c, .slice E m f] w (NewU (x * y) w) := by
  obtain ⟨i0, hi, hz0, hz1, hz2⟩ := info_parts u32_info
  obtain ⟨hs, hnc, hc, hA, hz, tz, rfl⟩ := h
  obtain ⟨ks, kmf, kf, kE, hy, ty, rfl⟩ := k
  have HS := Lib.hid hs
  have HK := Lib.hid ks
  have HZ := Lib.hid hz
  have HY := Lib.hid hy
  obtain ⟨X, hX⟩ : ∃ X, X = dv 4294967296 zs * dv 4294967296 ys := ⟨_, rfl⟩
  rw [← hX]
  have HX := Lib.hid hX
  clear hs ks hz hy tz ty hA kE hX
  go_enter Tryz.func81, Tryz.ntmps81
  go_upto_region 2 with (at_make; refine wpList_make_full _ rfl _ _ _ rfl w.heap.size 91 i0 _ 1 Tryz.underlying34 hi hz0 hz1 _ _ _ _ (n + m) rfl rfl (by omega) (by omega) (by rw [hz2]; omega) (by unfold maxLen; omega) (Nat.le_refl _) ?_; intro w4 hown4 hg4)
  have HB4 := Lib.hid ((Below.refl w.heap.size w).grown hg4 (Nat.le_refl _) (fun k hk => by cases hk))
  have HR4 := Lib.hid (row_zeros hown4)
  clear hown4 hg4
  go_wp2_with fail
  go_loopw [16] (fun iv wr => ∃ (i : Nat) (L : List Int), i ≤ n ∧ iv = .int .i64 i ∧ L.length = n + m ∧ Hid (Dig 4294967296 L) ∧ Hid (dv 4294967296 L = dv 4294967296 (zs.take i) * dv 4294967296 ys) ∧ Hid (RowW .u32 wr w.heap.size 91 L) ∧ Hid (Below w.heap.size w wr)) (fun iv _ => n - (intOf iv).toNat)
  case atStart =>
    refine ⟨0, _, Nat.zero_le _, rfl, by simp, dig_zeros (by omega) (n + m), ?_, HR4.out, HB4.out⟩
    show _ = _
    rw [dv_zeros, List.take_zero, show dv 4294967296 [] = 0 from rfl, Int.zero_mul]
  case round =>
    clear HR4 HB4
    obtain ⟨i, L, hin, rfl, hL, HD, HV, HR, HB⟩ := hrel
    by_cases hlt : i < n
    · have HSw := HS.out.below HB.out
      obtain ⟨bl, off, rfl, hbl, hcl⟩ := HSw.at_ (by omega)
      have hcell := hcl i hlt
      have HAT := Lib.hid (fun W (hW : wr = W) => addTimes_any w.heap.size i (i + m + 1 - i) (n + m - i) E m f (zs[i]?.getD 0) ys L W (hW ▸ HR.out) (by omega) (hW ▸ HK.out.below HB.out) (by omega) (by omega) HY.out HD.out (HZ.out.get (by omega) i))
      have hg := HZ.out.get (show (0 : Int) < 4294967296 by omega) i
      have HM := Lib.hid (fun cy L' (h : AddI i (zs[i]?.getD 0) ys L (i + m + 1 - i) cy L') => AddI.mul (show AddI i (zs[i]?.getD 0) ys L (ys.length + 1) cy L' from by rw [HK.out.len, show m + 1 = i + m + 1 - i by omega]; exact h) HV.out HZ.out HY.out (by rw [HS.out.len]; exact hlt))
      obtain ⟨d, hd⟩ : ∃ d, d = zs[i]?.getD 0 := ⟨_, rfl⟩
      rw [← hd] at hcell HAT hg HM
      obtain ⟨d0, d1⟩ := hg
      have e1 : IntKind.i64.wrap ((i : Int) + (m : Int)) = (i : Int) + (m : Int) := IntWalk.i64_in _ (by omega)
      have e2 : IntKind.i64.wrap ((i : Int) + (m : Int) + 1) = (i : Int) + (m : Int) + 1 := IntWalk.i64_in _ (by omega)
      have e3 : ((i : Int) + (m : Int) + 1).toNat = i + m + 1 := by omega
      clear hcl hd HSw
      go_wp2_with fail
      refine (HAT.out _ rfl).mono ?_
      rintro e w6 h6
      obtain ⟨cy, L', rfl, hR6, hg6, hI6⟩ := h6
      have HF := Lib.hid (And.intro hI6.2.1 (And.intro (HM.out _ _ hI6) (And.intro hR6 (grown_below HB.out hg6 (Nat.le_refl _) (Nat.le_refl _)))))
      have hL' : L'.length = n + m := hI6.1.trans hL
      clear hR6 hg6 hI6 HAT HM
      go_wp2_with fail
      exact ⟨⟨i + 1, L', by omega, by go_num, hL', HF.out.1, HF.out.2.1, HF.out.2.2.1, HF.out.2.2.2⟩, by simp [intOf]; omega⟩
    · obtain rfl : i = n := by omega
      have hsl := HR.out.sl 0 (i + m) wr.heap.size (by omega) HR.out.lt
      rw [List.drop_zero, List.take_of_length_le (by omega)] at hsl
      have HT := Lib.hid (trimmed_any (some ⟨w.heap.size, 0, none⟩) (i + m) (i + m) _ L wr hsl (Nat.le_refl _) (by unfold maxLen; omega) (by intro h; cases h) HD.out)
      have HV2 := Lib.hid (show dv 4294967296 L = X from by rw [HV.out, List.take_of_length_le (by rw [HS.out.len]; exact Nat.le_refl _), HX.out])
      clear hsl HV
      go_wp2_with fail
      refine HT.out.mono ?_
      rintro e w7 h
      have HF := Lib.hid (h.new (Nat.le_refl _) HB.out HV2.out)
      clear h
      obtain ⟨A7, n7, c7, zs7, rfl, hr, hb⟩ := HF.out
      clear hr hb
      go_wp2_with fail
      go_ret
      exact HF.out
end Go.Proofs.YtgfhniiidejmoaaGreatDoor
