/- Contracts of package wide's numbers: addTimes, subtractTimes, divideBy. -/
import Derived.Test.YtgfhniiidejmoaaDoorA15
namespace Go.Proofs.YtgfhniiidejmoaaDoor
open Go.RowKit
set_option linter.unusedVariables false

theorem carrier_any (w : World) : Calls Tryd.prog 105 #[] w fun e w' => e = .returned (.func (.func 110) #[] #[.pointer (some ⟨w.heap.size, 0, none⟩)]) ∧ w' = w.alloc (.cells #[.int .u64 0] 22) := by
  go_enter Tryd.func105, Tryd.ntmps105
  go_wp2_with fail
  go_ret
  exact ⟨rfl, rfl⟩
theorem borrower_any (w : World) : Calls Tryd.prog 106 #[] w fun e w' => e = .returned (.func (.func 111) #[] #[.pointer (some ⟨w.heap.size, 0, none⟩)]) ∧ w' = w.alloc (.cells #[.int .u64 0] 22) := by
  go_enter Tryd.func106, Tryd.ntmps106
  go_wp2_with fail
  go_ret
  exact ⟨rfl, rfl⟩
/-- what is added so far -/
def AddI (off : Nat) (f : Int) (ys L0 : List Int) (i : Nat) (cy : Int) (L : List Int) : Prop :=
  L.length = L0.length ∧ Dig 4294967296 L ∧ 0 ≤ cy ∧ cy < 4294967296 ∧ dv 4294967296 L + 4294967296 ^ (off + i) * cy = dv 4294967296 L0 + 4294967296 ^ off * (f * dv 4294967296 (ys.take i)) ∧ ∀ j, j < off ∨ off + i ≤ j → L[j]?.getD 0 = L0[j]?.getD 0
theorem set_getD' (L : List Int) (a j : Nat) (v : Int) (h : a ≠ j) : (L.set a v)[j]?.getD 0 = L[j]?.getD 0 := by rw [List.getElem?_set_ne h]
theorem AddI.start {off : Nat} {f : Int} {ys L : List Int} (hd : Dig 4294967296 L) : AddI off f ys L 0 0 L := by
  refine ⟨rfl, hd, by omega, by omega, ?_, fun _ _ => rfl⟩
  rw [List.take_zero, show dv 4294967296 [] = 0 from rfl]; simp
theorem AddI.step {off i : Nat} {f cy : Int} {ys L0 L : List Int} (h : AddI off f ys L0 i cy L) (hf : 0 ≤ f ∧ f < 4294967296) (hy : Dig 4294967296 ys) (hi : off + i < L0.length) :
    0 ≤ ys[i]?.getD 0 * f ∧ L[off + i]?.getD 0 + ys[i]?.getD 0 * f + cy ≤ 18446744073709551615 ∧ 0 ≤ L[off + i]?.getD 0 ∧
    AddI off f ys L0 (i + 1) ((L[off + i]?.getD 0 + ys[i]?.getD 0 * f + cy) / 4294967296) (L.set (off + i) ((L[off + i]?.getD 0 + ys[i]?.getD 0 * f + cy) % 4294967296)) := by
  obtain ⟨h1, h2, h3, h4, h5, h6⟩ := h
  have hb := mul_bd (show (1 : Int) < 4294967296 by omega) hf (hy.get (by omega) i) (h2.get (by omega) (off + i)) ⟨h3, h4⟩
  rw [Int.mul_comm f] at hb
  have hs := mul_step (B := 4294967296) ys L off i _ f cy (L[off + i]?.getD 0 + ys[i]?.getD 0 * f + cy) (by omega) (by rw [Int.mul_comm f]) h5
  have hyg := hy.get (show (0 : Int) < 4294967296 by omega) i
  exact ⟨Int.mul_nonneg hyg.1 hf.1, by omega, (h2.get (by omega) _).1, by rw [List.length_set]; exact h1, h2.set _ (by omega), hb.2.2.1, hb.2.2.2, hs, fun j hj => by rw [set_getD' _ _ _ _ (by omega)]; exact h6 j (by omega)⟩
/-- what addTimes leaves: the row with what was added, and what is carried beyond -/
def AddPost (g off n : Nat) (f : Int) (ys L0 : List Int) (w : World) (e : Ending) (w' : World) : Prop :=
  ∃ cy L, e = .returned (.int .u32 cy) ∧ RowW .u32 w' g 116 L ∧ w.grownBy w' (some g) ∧ AddI off f ys L0 n cy L
def SumS (w : World) (g gc : Nat) (E : Option Addr) (m : Nat) (ys L : List Int) (cy : Int) (wr : World) : Prop :=
  RowW .u32 wr g 116 L ∧ Box1 wr gc 22 (.int .u64 cy) ∧ Sl .u32 wr g E m ys ∧ w.grownBy wr (some g)
set_option maxRecDepth 100000 in
set_option maxHeartbeats 4000000 in
theorem addTimes_any (g off n c : Nat) (E : Option Addr) (m f : Nat) (fac : Int) (ys L0 : List Int) (w : World) (hL : RowW .u32 w g 116 L0) (hn : off + n ≤ L0.length) (h : Sl .u32 w g E m ys) (hn2 : n ≤ 100000) (hm : m ≤ 100000) (hy : Dig 4294967296 ys) (hd : Dig 4294967296 L0) (hf : 0 ≤ fac ∧ fac < 4294967296) :
    Calls Tryd.prog 93 #[.slice (some ⟨g, off, none⟩) n c, .slice E m f, .int .u32 fac] w (AddPost g off n fac ys L0 w) := by
  have hg := hL.lt
  have hbn := Box1.new w 22 (.int .u64 0)
  have hgr := World.grownBy_alloc w (.cells #[.int .u64 0] 22) (some g)
  have HS0 := Lib.hid (show SumS w g w.heap.size E m ys L0 0 (w.alloc (.cells #[.int .u64 0] 22)) from ⟨hL.alloc _, hbn, h.below ((Below.refl _ _).alloc (by omega) _), hgr⟩)
  have HI0 := Lib.hid (AddI.start (off := off) (f := fac) (ys := ys) hd)
  have HY := Lib.hid hy
  have HNL := Lib.hid hn
  have hf0 := hf.1
  have hf1 := hf.2
  clear hL h hy hd hf hbn hgr hn
  go_enter Tryd.func93, Tryd.ntmps93
  go_wp2_with fail
  refine (carrier_any w).mono ?_
  rintro e w1 ⟨rfl, rfl⟩
  go_wp2_with fail
  obtain ⟨W1, hW1⟩ : ∃ W1, W1 = w.alloc (.cells #[.int .u64 0] 22) := ⟨_, rfl⟩
  rw [← hW1] at HS0 ⊢
  obtain ⟨gc, hgc⟩ : ∃ gc, gc = w.heap.size := ⟨_, rfl⟩
  rw [← hgc] at HS0 ⊢
  have hgl : g < gc := by omega
  have HGC := Lib.hid hgc
  clear hW1 hgc hg
  go_loopw [13] (fun iv wr => ∃ (i : Nat) (cy : Int) (L : List Int), i ≤ n ∧ iv = .int .i64 i ∧ Hid (AddI off fac ys L0 i cy L) ∧ Hid (SumS w g gc E m ys L cy wr)) (fun iv _ => n - (intOf iv).toNat)
  case atStart => exact ⟨0, 0, L0, Nat.zero_le _, rfl, HI0.out, HS0.out⟩
  case round =>
    clear HI0 HS0
    obtain ⟨i, cy, L, hin, rfl, HI, HS⟩ := hrel
    by_cases hlt : i < n
    · obtain ⟨p0, p1, p2, hI2⟩ := HI.out.step ⟨hf0, hf1⟩ HY.out (by have := HNL.out; omega)
      have hrc := HS.out.1.cell (off + i) (by rw [HI.out.1]; have := HNL.out; omega)
      have hrf := HS.out.1.free (off + i)
      have hcy0 := HI.out.2.2.1
      have HAT := Lib.hid (nat_at E m f i ys wr (HS.out.2.2.1.more (by have := HS.out.1.lt; omega)) HY.out (by omega) (by omega))
      obtain ⟨x, hx⟩ : ∃ x, x = L[off + i]?.getD 0 := ⟨_, rfl⟩
      obtain ⟨y, hyy⟩ : ∃ y, y = ys[i]?.getD 0 := ⟨_, rfl⟩
      rw [← hx] at hrc p1 p2 hI2
      rw [← hyy] at HAT p0 p1 hI2
      have hy01 := HY.out.get (show (0 : Int) < 4294967296 by omega) i
      rw [← hyy] at hy01
      obtain ⟨hy0, hy1⟩ := hy01
      have hx1 := HI.out.2.1.get (show (0 : Int) < 4294967296 by omega) (off + i)
      rw [← hx] at hx1
      obtain ⟨_, hx1⟩ := hx1
      have HI2 := Lib.hid hI2
      have HCA := Lib.hid (carry_any gc (x + y * fac) cy wr HS.out.2.1 (by omega) hcy0 (by omega))
      have hb1 := HS.out.2.1
      have HS2 := Lib.hid (show SumS w g gc E m ys (L.set (off + i) ((x + y * fac + cy) % 4294967296)) ((x + y * fac + cy) / 4294967296) ((wr.setCell ⟨gc, 0, none⟩ (.int .u64 ((x + y * fac + cy) / 4294967296))).setCell ⟨g, off + i, none⟩ (.int .u32 ((x + y * fac + cy) % 4294967296))) from by
        have hne : g ≠ gc := by omega
        refine ⟨(HS.out.1.far (p := ⟨gc, 0, none⟩) hne _).set_ (off + i) (by rw [HI.out.1]; have := HNL.out; omega) _, (hb1.set_ _).far (p := ⟨g, off + i, none⟩) (Ne.symm hne) _, ?_, ?_⟩
        · have hbb : Below g wr ((wr.setCell ⟨gc, 0, none⟩ (.int .u64 ((x + y * fac + cy) / 4294967296))).setCell ⟨g, off + i, none⟩ (.int .u32 ((x + y * fac + cy) % 4294967296))) := ((Below.refl _ _).setCell (p := ⟨gc, 0, none⟩) (by show g ≤ gc; omega) _).setCell (p := ⟨g, off + i, none⟩) (Nat.le_refl _) _
          exact HS.out.2.2.1.below hbb
        · have h1 := grown_far HS.out.2.2.2 (g := gc) (j := 0) (u := .int .u64 ((x + y * fac + cy) / 4294967296)) (by rw [HGC.out]; exact Nat.le_refl _)
          exact ⟨h1.os, h1.tape, h1.output, by simpa [World.setCell] using h1.size, fun k hk hne => (Below.heap_setCell _ ⟨g, off + i, none⟩ _ k (fun e => hne (by rw [e]))).trans (h1.block k hk hne)⟩)
      have hne : g ≠ gc := by omega
      have hyf : y * fac ≤ 18446744073709551615 := by omega
      have hxy : x + y * fac ≤ 18446744073709551615 := by omega
      clear hI2 hx hyy hb1
      go_wp2_with fail
      refine HAT.out.mono ?_
      rintro e w1 ⟨rfl, rfl⟩
      go_wp2_with fail
      refine HCA.out.mono ?_
      rintro e w1 ⟨rfl, rfl⟩
      go_wp2_with fail
      exact ⟨⟨i + 1, _, _, by omega, by go_num, HI2.out, HS2.out⟩, by simp [intOf]; omega⟩
    · obtain rfl : i = n := by omega
      have hcy0 := HI.out.2.2.1
      have hcy1 := HI.out.2.2.2.1
      have HCA := Lib.hid (carry_any gc 0 cy wr HS.out.2.1 (by omega) hcy0 (by omega))
      rw [Int.zero_add, Int.emod_eq_of_lt hcy0 hcy1] at HCA
      have HF := Lib.hid (show AddPost g off i fac ys L0 w (.returned (.int .u32 cy)) (wr.setCell ⟨gc, 0, none⟩ (.int .u64 (cy / 4294967296))) from
        ⟨cy, L, rfl, HS.out.1.far (p := ⟨gc, 0, none⟩) (by show g ≠ gc; omega) _, grown_far HS.out.2.2.2 (g := gc) (j := 0) (by rw [HGC.out]; exact Nat.le_refl _), HI.out⟩)
      go_wp2_with fail
      refine HCA.out.mono ?_
      rintro e w1 ⟨rfl, rfl⟩
      go_wp2_with fail
      go_ret
      exact HF.out

/-! ### subtractTimes -/
def SubI (off : Nat) (f : Int) (ys L0 : List Int) (i : Nat) (cy bo : Int) (L : List Int) : Prop :=
  L.length = L0.length ∧ Dig 4294967296 L ∧ cy = f * dv 4294967296 (ys.take i) / 4294967296 ^ i ∧ 0 ≤ bo ∧ bo ≤ 1 ∧ dv 4294967296 L = dv 4294967296 L0 - 4294967296 ^ off * (f * dv 4294967296 (ys.take i)) + 4294967296 ^ (off + i) * (cy + bo) ∧ ∀ j, j < off ∨ off + i ≤ j → L[j]?.getD 0 = L0[j]?.getD 0
theorem SubI.start {off : Nat} {f : Int} {ys L : List Int} (hd : Dig 4294967296 L) : SubI off f ys L 0 0 0 L := by
  refine ⟨rfl, hd, ?_, by omega, by omega, ?_, fun _ _ => rfl⟩
  · rw [List.take_zero, show dv 4294967296 [] = 0 from rfl]; simp
  · rw [List.take_zero, show dv 4294967296 [] = 0 from rfl]; simp
theorem SubI.carry {off i : Nat} {f cy bo : Int} {ys L0 L : List Int} (h : SubI off f ys L0 i cy bo L) (hf : 0 ≤ f ∧ f < 4294967296) (hy : Dig 4294967296 ys) : 0 ≤ cy ∧ cy < 4294967296 := by
  have h3 := h.2.2.1
  have hp := pow_pos' (show (0 : Int) < 4294967296 by omega) i
  have h0 := dv_nonneg (show (0 : Int) < 4294967296 by omega) (hy.take i)
  have h1 := dv_lt (show (0 : Int) < 4294967296 by omega) (hy.take i)
  have h2 := pow_mono' (show (0 : Int) < 4294967296 by omega) (show (ys.take i).length ≤ i by rw [List.length_take]; omega)
  have hm := Int.mul_nonneg hf.1 h0
  refine ⟨by rw [h3]; exact Int.ediv_nonneg hm (by omega), ?_⟩
  rw [h3]
  refine Int.ediv_lt_of_lt_mul hp ?_
  rcases Int.lt_or_eq_of_le h0 with h4 | h4
  · exact Int.lt_trans (Int.mul_lt_mul_of_pos_right hf.2 h4) (Int.mul_lt_mul_of_pos_left (by omega) (by omega))
  · rw [← h4, Int.mul_zero]; exact Int.mul_pos (by omega) hp
theorem SubI.step {off i : Nat} {f cy bo : Int} {ys L0 L : List Int} (h : SubI off f ys L0 i cy bo L) (hf : 0 ≤ f ∧ f < 4294967296) (hy : Dig 4294967296 ys) (hi : off + i < L0.length) :
    0 ≤ ys[i]?.getD 0 * f ∧ ys[i]?.getD 0 * f + cy ≤ 18446744073709551615 ∧ 0 ≤ L[off + i]?.getD 0 ∧ L[off + i]?.getD 0 < 4294967296 ∧
    SubI off f ys L0 (i + 1) ((ys[i]?.getD 0 * f + cy) / 4294967296) (borI (L[off + i]?.getD 0) ((ys[i]?.getD 0 * f + cy) % 4294967296) bo) (L.set (off + i) ((L[off + i]?.getD 0 - (ys[i]?.getD 0 * f + cy) % 4294967296 - bo) % 4294967296)) := by
  have hc := h.carry hf hy
  obtain ⟨h1, h2, h3, h4, h5, h6, h7⟩ := h
  have hyg := hy.get (show (0 : Int) < 4294967296 by omega) i
  have hlg := h2.get (show (0 : Int) < 4294967296 by omega) (off + i)
  have hb := mul_bd (o := 0) (show (1 : Int) < 4294967296 by omega) hyg hf (by omega) hc
  rw [Int.zero_add] at hb
  have hm := Int.mul_nonneg hyg.1 hf.1
  have htk := dv_take 4294967296 ys i
  obtain ⟨y, hye⟩ : ∃ y, y = ys[i]?.getD 0 := ⟨_, rfl⟩
  obtain ⟨x, hxe⟩ : ∃ x, x = L[off + i]?.getD 0 := ⟨_, rfl⟩
  obtain ⟨p, hp⟩ : ∃ p, p = y * f + cy := ⟨_, rfl⟩
  rw [← hye] at hb hm htk hyg ⊢
  rw [← hxe] at hlg ⊢
  rw [← hp] at hb ⊢
  have hbo : 0 ≤ borI x (p % 4294967296) bo ∧ borI x (p % 4294967296) bo ≤ 1 := by unfold borI; split <;> omega
  have hdg : (x - p % 4294967296 - bo) % 4294967296 = x - p % 4294967296 - bo + 4294967296 * borI x (p % 4294967296) bo := by unfold borI; split <;> omega
  refine ⟨hm, by omega, hlg.1, hlg.2, by rw [List.length_set]; exact h1, h2.set _ (by omega), ?_, hbo.1, hbo.2, ?_, fun j hj => by rw [set_getD' _ _ _ _ (by omega)]; exact h7 j (by omega)⟩
  · rw [htk, Int.pow_succ, ← Int.ediv_ediv_of_nonneg (Int.le_of_lt (pow_pos' (by omega) i))]
    rw [Int.mul_add, ← Int.mul_assoc, Int.mul_comm f (4294967296 ^ i), Int.mul_assoc, Int.add_mul_ediv_left _ _ (by have := pow_pos' (show (0 : Int) < 4294967296 by omega) i; omega), ← h3, hp, Int.mul_comm f y, Int.add_comm]
  · rw [dv_set _ _ _ _ (by omega), ← hxe, h6, htk, hdg, ← Nat.add_assoc, Int.pow_succ, Int.pow_add]
    have hpd := Int.mul_ediv_add_emod p 4294967296
    obtain ⟨u, hu⟩ : ∃ u, u = p / 4294967296 := ⟨_, rfl⟩
    obtain ⟨v, hv⟩ : ∃ v, v = p % 4294967296 := ⟨_, rfl⟩
    rw [← hu, ← hv] at hpd
    rw [← hu, ← hv]
    generalize borI x v bo = b2
    generalize (4294967296 : Int) ^ off = P
    generalize (4294967296 : Int) ^ i = Q
    generalize dv 4294967296 (ys.take i) = D
    grind
/-- what subtractTimes leaves -/
def SubPost (g off n : Nat) (f : Int) (ys L0 : List Int) (w : World) (e : Ending) (w' : World) : Prop :=
  ∃ cy bo L, e = .returned (.bool (decide ((0 - cy - bo) % 4294967296 ≠ 0))) ∧ RowW .u32 w' g 116 L ∧ w.grownBy w' (some g) ∧ SubI off f ys L0 n cy bo L
def LessS (w : World) (g gc gb : Nat) (E : Option Addr) (m : Nat) (ys L : List Int) (cy bo : Int) (wr : World) : Prop :=
  RowW .u32 wr g 116 L ∧ Box1 wr gc 22 (.int .u64 cy) ∧ Box1 wr gb 22 (.int .u64 bo) ∧ Sl .u32 wr g E m ys ∧ w.grownBy wr (some g)
theorem grown_own {w wr : World} {g o : Nat} {u : Value} (h : w.grownBy wr (some g)) : w.grownBy (wr.setCell ⟨g, o, none⟩ u) (some g) :=
  ⟨h.os, h.tape, h.output, by simpa [World.setCell] using h.size, fun k hk hne => (Below.heap_setCell _ ⟨g, o, none⟩ _ k (fun e => hne (by rw [e]))).trans (h.block k hk hne)⟩
set_option maxRecDepth 100000 in
set_option maxHeartbeats 4000000 in
theorem subTimes_any (g off n c : Nat) (E : Option Addr) (m f : Nat) (fac : Int) (ys L0 : List Int) (w : World) (hL : RowW .u32 w g 116 L0) (hn : off + n ≤ L0.length) (h : Sl .u32 w g E m ys) (hn2 : n ≤ 100000) (hm : m ≤ 100000) (hy : Dig 4294967296 ys) (hd : Dig 4294967296 L0) (hf : 0 ≤ fac ∧ fac < 4294967296) :
    Calls Tryd.prog 95 #[.slice (some ⟨g, off, none⟩) n c, .slice E m f, .int .u32 fac] w (SubPost g off n fac ys L0 w) := by
  have hg := hL.lt
  obtain ⟨W1, hW1⟩ : ∃ W1, W1 = w.alloc (.cells #[.int .u64 0] 22) := ⟨_, rfl⟩
  obtain ⟨W2, hW2⟩ : ∃ W2, W2 = W1.alloc (.cells #[.int .u64 0] 22) := ⟨_, rfl⟩
  have hs1 : W1.heap.size = w.heap.size + 1 := by rw [hW1, World.size_alloc]
  have hb1 : Box1 W1 w.heap.size 22 (.int .u64 0) := by rw [hW1]; exact Box1.new _ _ _
  have hb2 : Box1 W2 (w.heap.size + 1) 22 (.int .u64 0) := by rw [hW2, ← hs1]; exact Box1.new _ _ _
  have ha1 : Below W1.heap.size W1 W2 := by rw [hW2]; exact (Below.refl _ _).alloc (Nat.le_refl _) _
  have ha0 : Below w.heap.size w W1 := by rw [hW1]; exact (Below.refl _ _).alloc (Nat.le_refl _) _
  have ha : Below w.heap.size w W2 := ha0.trans (ha1.mono (by omega))
  have HS0 := Lib.hid (show LessS w g w.heap.size (w.heap.size + 1) E m ys L0 0 0 W2 from ⟨hL.below ha hg, hb1.below ha1 (by omega), hb2, h.below (ha.mono (by omega)), ⟨ha.os, ha.tape, ha.output, ha.size, fun k hk _ => ha.block k hk⟩⟩)
  have HI0 := Lib.hid (SubI.start (off := off) (f := fac) (ys := ys) hd)
  have HY := Lib.hid hy
  have HNL := Lib.hid hn
  have HW1 := Lib.hid hW1
  have HW2 := Lib.hid hW2
  have HS1 := Lib.hid hs1
  have hf0 := hf.1
  have hf1 := hf.2
  clear hL h hy hd hf hb1 hb2 ha1 ha0 ha hW1 hW2 hs1 hn
  go_enter Tryd.func95, Tryd.ntmps95
  go_wp2_with fail
  refine (carrier_any w).mono ?_
  rintro e w1 ⟨rfl, rfl⟩
  rw [← HW1.out]
  go_wp2_with fail
  refine (borrower_any W1).mono ?_
  rintro e w1 ⟨rfl, rfl⟩
  rw [← HW2.out, HS1.out]
  go_wp2_with fail
  obtain ⟨gc, hgc⟩ : ∃ gc, gc = w.heap.size := ⟨_, rfl⟩
  obtain ⟨gb, hgb⟩ : ∃ gb, gb = w.heap.size + 1 := ⟨_, rfl⟩
  rw [← hgb] at HS0 ⊢
  rw [← hgc] at HS0 ⊢
  have hgl : g < gc := by omega
  have hgl2 : gc < gb := by omega
  have HGC := Lib.hid hgc
  clear hgc hgb hg HS1 HW1 HW2
  go_loopw [15] (fun iv wr => ∃ (i : Nat) (cy bo : Int) (L : List Int), i ≤ n ∧ iv = .int .i64 i ∧ Hid (SubI off fac ys L0 i cy bo L) ∧ Hid (LessS w g gc gb E m ys L cy bo wr)) (fun iv _ => n - (intOf iv).toNat)
  case atStart => exact ⟨0, 0, 0, L0, Nat.zero_le _, rfl, HI0.out, HS0.out⟩
  case round =>
    clear HI0 HS0
    obtain ⟨i, cy, bo, L, hin, rfl, HI, HS⟩ := hrel
    have hne1 : g ≠ gc := by omega
    have hne2 : g ≠ gb := by omega
    have hne3 : gc ≠ gb := by omega
    by_cases hlt : i < n
    · obtain ⟨p0, p1, p2, p3, hI2⟩ := HI.out.step ⟨hf0, hf1⟩ HY.out (by have := HNL.out; omega)
      obtain ⟨cy0, cy1⟩ := HI.out.carry ⟨hf0, hf1⟩ HY.out
      have bo0 := HI.out.2.2.2.1
      have bo1 := HI.out.2.2.2.2.1
      have hrc := HS.out.1.cell (off + i) (by rw [HI.out.1]; have := HNL.out; omega)
      have hrf := HS.out.1.free (off + i)
      have HAT := Lib.hid (nat_at E m f i ys wr (HS.out.2.2.2.1.more (by have := HS.out.1.lt; omega)) HY.out (by omega) (by omega))
      obtain ⟨x, hx⟩ : ∃ x, x = L[off + i]?.getD 0 := ⟨_, rfl⟩
      obtain ⟨y, hyy⟩ : ∃ y, y = ys[i]?.getD 0 := ⟨_, rfl⟩
      rw [← hx] at hrc p2 p3 hI2
      rw [← hyy] at HAT p0 p1 hI2
      have hy01 := HY.out.get (show (0 : Int) < 4294967296 by omega) i
      rw [← hyy] at hy01
      obtain ⟨hy0, hy1⟩ := hy01
      have HI2 := Lib.hid hI2
      have HCA := Lib.hid (carry_any gc (y * fac) cy wr HS.out.2.1 (by omega) cy0 (by omega))
      obtain ⟨q, hq⟩ : ∃ q, q = (y * fac + cy) % 4294967296 := ⟨_, rfl⟩
      obtain ⟨c2, hc2⟩ : ∃ c2, c2 = (y * fac + cy) / 4294967296 := ⟨_, rfl⟩
      rw [← hq, ← hc2] at HCA HI2
      have q0 : 0 ≤ q := by omega
      have q1 : q ≤ 4294967295 := by omega
      have HBO := Lib.hid (borrow_any gb x q bo (wr.setCell ⟨gc, 0, none⟩ (.int .u64 c2)) (HS.out.2.2.1.far (p := ⟨gc, 0, none⟩) (Ne.symm hne3) _) ⟨p2, by omega⟩ ⟨q0, q1⟩ ⟨bo0, bo1⟩)
      obtain ⟨d, hd⟩ : ∃ d, d = (x - q - bo) % 4294967296 := ⟨_, rfl⟩
      obtain ⟨b2, hb2⟩ : ∃ b2, b2 = borI x q bo := ⟨_, rfl⟩
      rw [← hd, ← hb2] at HBO HI2
      have HS2 := Lib.hid (show LessS w g gc gb E m ys (L.set (off + i) d) c2 b2 (((wr.setCell ⟨gc, 0, none⟩ (.int .u64 c2)).setCell ⟨gb, 0, none⟩ (.int .u64 b2)).setCell ⟨g, off + i, none⟩ (.int .u32 d)) from by
        refine ⟨((HS.out.1.far (p := ⟨gc, 0, none⟩) hne1 _).far (p := ⟨gb, 0, none⟩) hne2 _).set_ (off + i) (by rw [HI.out.1]; have := HNL.out; omega) _, ((HS.out.2.1.set_ _).far (p := ⟨gb, 0, none⟩) hne3 _).far (p := ⟨g, off + i, none⟩) (Ne.symm hne1) _, ((HS.out.2.2.1.far (p := ⟨gc, 0, none⟩) (Ne.symm hne3) _).set_ _).far (p := ⟨g, off + i, none⟩) (Ne.symm hne2) _, ?_, ?_⟩
        · exact HS.out.2.2.2.1.below ((((Below.refl _ _).setCell (p := ⟨gc, 0, none⟩) (by show g ≤ gc; omega) _).setCell (p := ⟨gb, 0, none⟩) (by show g ≤ gb; omega) _).setCell (p := ⟨g, off + i, none⟩) (Nat.le_refl _) _)
        · exact grown_own (grown_far (grown_far HS.out.2.2.2.2 (g := gc) (j := 0) (by rw [HGC.out]; exact Nat.le_refl _)) (g := gb) (j := 0) (by have := HGC.out; omega)))
      clear hI2 hx hyy hq hc2 hd hb2
      go_wp2_with fail
      refine HAT.out.mono ?_
      rintro e w1 ⟨rfl, rfl⟩
      go_wp2_with fail
      refine HCA.out.mono ?_
      rintro e w1 ⟨rfl, rfl⟩
      go_wp2_with fail
      refine HBO.out.mono ?_
      rintro e w1 ⟨rfl, rfl⟩
      go_wp2_with fail
      exact ⟨⟨i + 1, _, _, _, by omega, by go_num, HI2.out, HS2.out⟩, by simp [intOf]; omega⟩
    · obtain rfl : i = n := by omega
      obtain ⟨cy0, cy1⟩ := HI.out.carry ⟨hf0, hf1⟩ HY.out
      have bo0 := HI.out.2.2.2.1
      have bo1 := HI.out.2.2.2.2.1
      have HCA := Lib.hid (carry_any gc 0 cy wr HS.out.2.1 (by omega) cy0 (by omega))
      rw [Int.zero_add, Int.emod_eq_of_lt cy0 cy1] at HCA
      have HBO := Lib.hid (borrow_any gb 0 cy bo (wr.setCell ⟨gc, 0, none⟩ (.int .u64 (cy / 4294967296))) (HS.out.2.2.1.far (p := ⟨gc, 0, none⟩) (Ne.symm hne3) _) ⟨by omega, by omega⟩ ⟨cy0, by omega⟩ ⟨bo0, bo1⟩)
      obtain ⟨d, hd⟩ : ∃ d, d = (0 - cy - bo) % 4294967296 := ⟨_, rfl⟩
      obtain ⟨b2, hb2⟩ : ∃ b2, b2 = borI 0 cy bo := ⟨_, rfl⟩
      obtain ⟨c2, hc2⟩ : ∃ c2, c2 = cy / 4294967296 := ⟨_, rfl⟩
      rw [← hd, ← hb2] at HBO
      rw [← hc2] at HBO HCA
      have HF := Lib.hid (show SubPost g off i fac ys L0 w (.returned (.bool (decide (d ≠ 0)))) ((wr.setCell ⟨gc, 0, none⟩ (.int .u64 c2)).setCell ⟨gb, 0, none⟩ (.int .u64 b2)) from
        ⟨cy, bo, L, by rw [hd], (HS.out.1.far (p := ⟨gc, 0, none⟩) hne1 _).far (p := ⟨gb, 0, none⟩) hne2 _, grown_far (grown_far HS.out.2.2.2.2 (g := gc) (j := 0) (by rw [HGC.out]; exact Nat.le_refl _)) (g := gb) (j := 0) (by have := HGC.out; omega), HI.out⟩)
      have hdd : (d != 0) = decide (d ≠ 0) := by by_cases h : d = 0 <;> simp [h]
      have HDD := Lib.hid hdd
      clear hd hb2 hc2 hdd
      go_wp2_with fail
      refine HCA.out.mono ?_
      rintro e w1 ⟨rfl, rfl⟩
      go_wp2_with fail
      refine HBO.out.mono ?_
      rintro e w1 ⟨rfl, rfl⟩
      go_wp2_with fail
      go_ret
      have h := HF.out
      rw [← HDD.out] at h
      exact h
end Go.Proofs.YtgfhniiidejmoaaDoor
