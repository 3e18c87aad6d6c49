/- Contracts of package wide's numbers: addTimes, subtractTimes, divideBy. · Contracts of package wide's numbers: divideBy. · Contracts of package wide's numbers: fromWord, word, compare. -/
import Derived.Test.YtgfhniiidejmoaaGreatDoorB15
import Derived.Laws.BitsAllLaws
import Derived.Test.YtgfhniiidejmoaaGreatDoorB06
namespace Go.Proofs.YtgfhniiidejmoaaGreatDoor
open Go.RowKit
set_option linter.unusedVariables false

theorem carrier_any (w : World) : Calls Tryz.prog 77 #[] w fun e w' => e = .returned (.func (.func 100) #[] #[.pointer (some ⟨w.heap.size, 0, none⟩)]) ∧ w' = w.alloc (.cells #[.int .u64 0] 22) := by
  go_enter Tryz.func77, Tryz.ntmps77
  go_wp2_with fail
  go_ret
  exact ⟨rfl, rfl⟩
theorem borrower_any (w : World) : Calls Tryz.prog 103 #[] w fun e w' => e = .returned (.func (.func 113) #[] #[.pointer (some ⟨w.heap.size, 0, none⟩)]) ∧ w' = w.alloc (.cells #[.int .u64 0] 22) := by
  go_enter Tryz.func103, Tryz.ntmps103
  go_wp2_with fail
  go_ret
  exact ⟨rfl, rfl⟩
/-- what is added so far -/
def AddI (off : Nat) (f : Int) (ys L0 : List Int) (i : Nat) (cy : Int) (L : List Int) : Prop :=
  L.length = L0.length ∧ Dig 4294967296 L ∧ 0 ≤ cy ∧ cy < 4294967296 ∧ dv 4294967296 L + 4294967296 ^ (off + i) * cy = dv 4294967296 L0 + 4294967296 ^ off * (f * dv 4294967296 (ys.take i)) ∧ ∀ j, j < off ∨ off + i ≤ j → L[j]?.getD 0 = L0[j]?.getD 0
theorem set_getD' (L : List Int) (a j : Nat) (v : Int) (h : a ≠ j) : (L.set a v)[j]?.getD 0 = L[j]?.getD 0 := by rw [List.getElem?_set_ne h]
theorem AddI.start {off : Nat} {f : Int} {ys L : List Int} (hd : Dig 4294967296 L) : AddI off f ys L 0 0 L := by
  refine ⟨rfl, hd, by omega, by omega, ?_, fun _ _ => rfl⟩
  rw [List.take_zero, show dv 4294967296 [] = 0 from rfl]; simp
theorem AddI.step {off i : Nat} {f cy : Int} {ys L0 L : List Int} (h : AddI off f ys L0 i cy L) (hf : 0 ≤ f ∧ f < 4294967296) (hy : Dig 4294967296 ys) (hi : off + i < L0.length) :
    0 ≤ ys[i]?.getD 0 * f ∧ L[off + i]?.getD 0 + ys[i]?.getD 0 * f + cy ≤ 18446744073709551615 ∧ 0 ≤ L[off + i]?.getD 0 ∧
    AddI off f ys L0 (i + 1) ((L[off + i]?.getD 0 + ys[i]?.getD 0 * f + cy) / 4294967296) (L.set (off + i) ((L[off + i]?.getD 0 + ys[i]?.getD 0 * f + cy) % 4294967296)) := by
  obtain ⟨h1, h2, h3, h4, h5, h6⟩ := h
  have hb := mul_bd (show (1 : Int) < 4294967296 by omega) hf (hy.get (by omega) i) (h2.get (by omega) (off + i)) ⟨h3, h4⟩
  rw [Int.mul_comm f] at hb
  have hs := mul_step (B := 4294967296) ys L off i _ f cy (L[off + i]?.getD 0 + ys[i]?.getD 0 * f + cy) (by omega) (by rw [Int.mul_comm f]) h5
  have hyg := hy.get (show (0 : Int) < 4294967296 by omega) i
  exact ⟨Int.mul_nonneg hyg.1 hf.1, by omega, (h2.get (by omega) _).1, by rw [List.length_set]; exact h1, h2.set _ (by omega), hb.2.2.1, hb.2.2.2, hs, fun j hj => by rw [set_getD' _ _ _ _ (by omega)]; exact h6 j (by omega)⟩
/-- what addTimes leaves: the row with what was added, and what is carried beyond -/
def AddPost (g off n : Nat) (f : Int) (ys L0 : List Int) (w : World) (e : Ending) (w' : World) : Prop :=
  ∃ cy L, e = .returned (.int .u32 cy) ∧ RowW .u32 w' g 91 L ∧ w.grownBy w' (some g) ∧ AddI off f ys L0 n cy L
def SumS (w : World) (g gc : Nat) (E : Option Addr) (m : Nat) (ys L : List Int) (cy : Int) (wr : World) : Prop :=
  RowW .u32 wr g 91 L ∧ Box1 wr gc 22 (.int .u64 cy) ∧ Sl .u32 wr g E m ys ∧ w.grownBy wr (some g)
set_option maxRecDepth 100000 in
set_option maxHeartbeats 4000000 in
theorem addTimes_any (g off n c : Nat) (E : Option Addr) (m f : Nat) (fac : Int) (ys L0 : List Int) (w : World) (hL : RowW .u32 w g 91 L0) (hn : off + n ≤ L0.length) (h : Sl .u32 w g E m ys) (hn2 : n ≤ 100000) (hm : m ≤ 100000) (hy : Dig 4294967296 ys) (hd : Dig 4294967296 L0) (hf : 0 ≤ fac ∧ fac < 4294967296) :
    Calls Tryz.prog 50 #[.slice (some ⟨g, off, none⟩) n c, .slice E m f, .int .u32 fac] w (AddPost g off n fac ys L0 w) := by
  have hg := hL.lt
  have hbn := Box1.new w 22 (.int .u64 0)
  have hgr := World.grownBy_alloc w (.cells #[.int .u64 0] 22) (some g)
  have HS0 := Lib.hid (show SumS w g w.heap.size E m ys L0 0 (w.alloc (.cells #[.int .u64 0] 22)) from ⟨hL.alloc _, hbn, h.below ((Below.refl _ _).alloc (by omega) _), hgr⟩)
  have HI0 := Lib.hid (AddI.start (off := off) (f := fac) (ys := ys) hd)
  have HY := Lib.hid hy
  have HNL := Lib.hid hn
  have hf0 := hf.1
  have hf1 := hf.2
  clear hL h hy hd hf hbn hgr hn
  go_enter Tryz.func50, Tryz.ntmps50
  go_wp2_with fail
  refine (carrier_any w).mono ?_
  rintro e w1 ⟨rfl, rfl⟩
  go_wp2_with fail
  obtain ⟨W1, hW1⟩ : ∃ W1, W1 = w.alloc (.cells #[.int .u64 0] 22) := ⟨_, rfl⟩
  rw [← hW1] at HS0 ⊢
  obtain ⟨gc, hgc⟩ : ∃ gc, gc = w.heap.size := ⟨_, rfl⟩
  rw [← hgc] at HS0 ⊢
  have hgl : g < gc := by omega
  have HGC := Lib.hid hgc
  clear hW1 hgc hg
  go_loopw [13] (fun iv wr => ∃ (i : Nat) (cy : Int) (L : List Int), i ≤ n ∧ iv = .int .i64 i ∧ Hid (AddI off fac ys L0 i cy L) ∧ Hid (SumS w g gc E m ys L cy wr)) (fun iv _ => n - (intOf iv).toNat)
  case atStart => exact ⟨0, 0, L0, Nat.zero_le _, rfl, HI0.out, HS0.out⟩
  case round =>
    clear HI0 HS0
    obtain ⟨i, cy, L, hin, rfl, HI, HS⟩ := hrel
    by_cases hlt : i < n
    · obtain ⟨p0, p1, p2, hI2⟩ := HI.out.step ⟨hf0, hf1⟩ HY.out (by have := HNL.out; omega)
      have hrc := HS.out.1.cell (off + i) (by rw [HI.out.1]; have := HNL.out; omega)
      have hrf := HS.out.1.free (off + i)
      have hcy0 := HI.out.2.2.1
      have HAT := Lib.hid (nat_at E m f i ys wr (HS.out.2.2.1.more (by have := HS.out.1.lt; omega)) HY.out (by omega) (by omega))
      obtain ⟨x, hx⟩ : ∃ x, x = L[off + i]?.getD 0 := ⟨_, rfl⟩
      obtain ⟨y, hyy⟩ : ∃ y, y = ys[i]?.getD 0 := ⟨_, rfl⟩
      rw [← hx] at hrc p1 p2 hI2
      rw [← hyy] at HAT p0 p1 hI2
      have hy01 := HY.out.get (show (0 : Int) < 4294967296 by omega) i
      rw [← hyy] at hy01
      obtain ⟨hy0, hy1⟩ := hy01
      have hx1 := HI.out.2.1.get (show (0 : Int) < 4294967296 by omega) (off + i)
      rw [← hx] at hx1
      obtain ⟨_, hx1⟩ := hx1
      have HI2 := Lib.hid hI2
      have HCA := Lib.hid (carry_any gc (x + y * fac) cy wr HS.out.2.1 (by omega) hcy0 (by omega))
      have hb1 := HS.out.2.1
      have HS2 := Lib.hid (show SumS w g gc E m ys (L.set (off + i) ((x + y * fac + cy) % 4294967296)) ((x + y * fac + cy) / 4294967296) ((wr.setCell ⟨gc, 0, none⟩ (.int .u64 ((x + y * fac + cy) / 4294967296))).setCell ⟨g, off + i, none⟩ (.int .u32 ((x + y * fac + cy) % 4294967296))) from by
        have hne : g ≠ gc := by omega
        refine ⟨(HS.out.1.far (p := ⟨gc, 0, none⟩) hne _).set_ (off + i) (by rw [HI.out.1]; have := HNL.out; omega) _, (hb1.set_ _).far (p := ⟨g, off + i, none⟩) (Ne.symm hne) _, ?_, ?_⟩
        · have hbb : Below g wr ((wr.setCell ⟨gc, 0, none⟩ (.int .u64 ((x + y * fac + cy) / 4294967296))).setCell ⟨g, off + i, none⟩ (.int .u32 ((x + y * fac + cy) % 4294967296))) := ((Below.refl _ _).setCell (p := ⟨gc, 0, none⟩) (by show g ≤ gc; omega) _).setCell (p := ⟨g, off + i, none⟩) (Nat.le_refl _) _
          exact HS.out.2.2.1.below hbb
        · have h1 := grown_far HS.out.2.2.2 (g := gc) (j := 0) (u := .int .u64 ((x + y * fac + cy) / 4294967296)) (by rw [HGC.out]; exact Nat.le_refl _)
          exact ⟨h1.os, h1.tape, h1.output, by simpa [World.setCell] using h1.size, fun k hk hne => (Below.heap_setCell _ ⟨g, off + i, none⟩ _ k (fun e => hne (by rw [e]))).trans (h1.block k hk hne)⟩)
      have hne : g ≠ gc := by omega
      have hyf : y * fac ≤ 18446744073709551615 := by omega
      have hxy : x + y * fac ≤ 18446744073709551615 := by omega
      clear hI2 hx hyy hb1
      go_wp2_with fail
      refine HAT.out.mono ?_
      rintro e w1 ⟨rfl, rfl⟩
      go_wp2_with fail
      refine HCA.out.mono ?_
      rintro e w1 ⟨rfl, rfl⟩
      go_wp2_with fail
      exact ⟨⟨i + 1, _, _, by omega, by go_num, HI2.out, HS2.out⟩, by simp [intOf]; omega⟩
    · obtain rfl : i = n := by omega
      have hcy0 := HI.out.2.2.1
      have hcy1 := HI.out.2.2.2.1
      have HCA := Lib.hid (carry_any gc 0 cy wr HS.out.2.1 (by omega) hcy0 (by omega))
      rw [Int.zero_add, Int.emod_eq_of_lt hcy0 hcy1] at HCA
      have HF := Lib.hid (show AddPost g off i fac ys L0 w (.returned (.int .u32 cy)) (wr.setCell ⟨gc, 0, none⟩ (.int .u64 (cy / 4294967296))) from
        ⟨cy, L, rfl, HS.out.1.far (p := ⟨gc, 0, none⟩) (by show g ≠ gc; omega) _, grown_far HS.out.2.2.2 (g := gc) (j := 0) (by rw [HGC.out]; exact Nat.le_refl _), HI.out⟩)
      go_wp2_with fail
      refine HCA.out.mono ?_
      rintro e w1 ⟨rfl, rfl⟩
      go_wp2_with fail
      go_ret
      exact HF.out

/-! ### subtractTimes -/
def SubI (off : Nat) (f : Int) (ys L0 : List Int) (i : Nat) (cy bo : Int) (L : List Int) : Prop :=
  L.length = L0.length ∧ Dig 4294967296 L ∧ cy = f * dv 4294967296 (ys.take i) / 4294967296 ^ i ∧ 0 ≤ bo ∧ bo ≤ 1 ∧ dv 4294967296 L = dv 4294967296 L0 - 4294967296 ^ off * (f * dv 4294967296 (ys.take i)) + 4294967296 ^ (off + i) * (cy + bo) ∧ ∀ j, j < off ∨ off + i ≤ j → L[j]?.getD 0 = L0[j]?.getD 0
theorem SubI.start {off : Nat} {f : Int} {ys L : List Int} (hd : Dig 4294967296 L) : SubI off f ys L 0 0 0 L := by
  refine ⟨rfl, hd, ?_, by omega, by omega, ?_, fun _ _ => rfl⟩
  · rw [List.take_zero, show dv 4294967296 [] = 0 from rfl]; simp
  · rw [List.take_zero, show dv 4294967296 [] = 0 from rfl]; simp
theorem SubI.carry {off i : Nat} {f cy bo : Int} {ys L0 L : List Int} (h : SubI off f ys L0 i cy bo L) (hf : 0 ≤ f ∧ f < 4294967296) (hy : Dig 4294967296 ys) : 0 ≤ cy ∧ cy < 4294967296 := by
  have h3 := h.2.2.1
  have hp := pow_pos' (show (0 : Int) < 4294967296 by omega) i
  have h0 := dv_nonneg (show (0 : Int) < 4294967296 by omega) (hy.take i)
  have h1 := dv_lt (show (0 : Int) < 4294967296 by omega) (hy.take i)
  have h2 := pow_mono' (show (0 : Int) < 4294967296 by omega) (show (ys.take i).length ≤ i by rw [List.length_take]; omega)
  have hm := Int.mul_nonneg hf.1 h0
  refine ⟨by rw [h3]; exact Int.ediv_nonneg hm (by omega), ?_⟩
  rw [h3]
  refine Int.ediv_lt_of_lt_mul hp ?_
  rcases Int.lt_or_eq_of_le h0 with h4 | h4
  · exact Int.lt_trans (Int.mul_lt_mul_of_pos_right hf.2 h4) (Int.mul_lt_mul_of_pos_left (by omega) (by omega))
  · rw [← h4, Int.mul_zero]; exact Int.mul_pos (by omega) hp
theorem SubI.step {off i : Nat} {f cy bo : Int} {ys L0 L : List Int} (h : SubI off f ys L0 i cy bo L) (hf : 0 ≤ f ∧ f < 4294967296) (hy : Dig 4294967296 ys) (hi : off + i < L0.length) :
    0 ≤ ys[i]?.getD 0 * f ∧ ys[i]?.getD 0 * f + cy ≤ 18446744073709551615 ∧ 0 ≤ L[off + i]?.getD 0 ∧ L[off + i]?.getD 0 < 4294967296 ∧
    SubI off f ys L0 (i + 1) ((ys[i]?.getD 0 * f + cy) / 4294967296) (borI (L[off + i]?.getD 0) ((ys[i]?.getD 0 * f + cy) % 4294967296) bo) (L.set (off + i) ((L[off + i]?.getD 0 - (ys[i]?.getD 0 * f + cy) % 4294967296 - bo) % 4294967296)) := by
  have hc := h.carry hf hy
  obtain ⟨h1, h2, h3, h4, h5, h6, h7⟩ := h
  have hyg := hy.get (show (0 : Int) < 4294967296 by omega) i
  have hlg := h2.get (show (0 : Int) < 4294967296 by omega) (off + i)
  have hb := mul_bd (o := 0) (show (1 : Int) < 4294967296 by omega) hyg hf (by omega) hc
  rw [Int.zero_add] at hb
  have hm := Int.mul_nonneg hyg.1 hf.1
  have htk := dv_take 4294967296 ys i
  obtain ⟨y, hye⟩ : ∃ y, y = ys[i]?.getD 0 := ⟨_, rfl⟩
  obtain ⟨x, hxe⟩ : ∃ x, x = L[off + i]?.getD 0 := ⟨_, rfl⟩
  obtain ⟨p, hp⟩ : ∃ p, p = y * f + cy := ⟨_, rfl⟩
  rw [← hye] at hb hm htk hyg ⊢
  rw [← hxe] at hlg ⊢
  rw [← hp] at hb ⊢
  have hbo : 0 ≤ borI x (p % 4294967296) bo ∧ borI x (p % 4294967296) bo ≤ 1 := by unfold borI; split <;> omega
  have hdg : (x - p % 4294967296 - bo) % 4294967296 = x - p % 4294967296 - bo + 4294967296 * borI x (p % 4294967296) bo := by unfold borI; split <;> omega
  refine ⟨hm, by omega, hlg.1, hlg.2, by rw [List.length_set]; exact h1, h2.set _ (by omega), ?_, hbo.1, hbo.2, ?_, fun j hj => by rw [set_getD' _ _ _ _ (by omega)]; exact h7 j (by omega)⟩
  · rw [htk, Int.pow_succ, ← Int.ediv_ediv_of_nonneg (Int.le_of_lt (pow_pos' (by omega) i))]
    rw [Int.mul_add, ← Int.mul_assoc, Int.mul_comm f (4294967296 ^ i), Int.mul_assoc, Int.add_mul_ediv_left _ _ (by have := pow_pos' (show (0 : Int) < 4294967296 by omega) i; omega), ← h3, hp, Int.mul_comm f y, Int.add_comm]
  · rw [dv_set _ _ _ _ (by omega), ← hxe, h6, htk, hdg, ← Nat.add_assoc, Int.pow_succ, Int.pow_add]
    have hpd := Int.mul_ediv_add_emod p 4294967296
    obtain ⟨u, hu⟩ : ∃ u, u = p / 4294967296 := ⟨_, rfl⟩
    obtain ⟨v, hv⟩ : ∃ v, v = p % 4294967296 := ⟨_, rfl⟩
    rw [← hu, ← hv] at hpd
    rw [← hu, ← hv]
    generalize borI x v bo = b2
    generalize (4294967296 : Int) ^ off = P
    generalize (4294967296 : Int) ^ i = Q
    generalize dv 4294967296 (ys.take i) = D
    grind
/-- what subtractTimes leaves -/
def SubPost (g off n : Nat) (f : Int) (ys L0 : List Int) (w : World) (e : Ending) (w' : World) : Prop :=
  ∃ cy bo L, e = .returned (.bool (decide ((0 - cy - bo) % 4294967296 ≠ 0))) ∧ RowW .u32 w' g 91 L ∧ w.grownBy w' (some g) ∧ SubI off f ys L0 n cy bo L
def LessS (w : World) (g gc gb : Nat) (E : Option Addr) (m : Nat) (ys L : List Int) (cy bo : Int) (wr : World) : Prop :=
  RowW .u32 wr g 91 L ∧ Box1 wr gc 22 (.int .u64 cy) ∧ Box1 wr gb 22 (.int .u64 bo) ∧ Sl .u32 wr g E m ys ∧ w.grownBy wr (some g)
theorem grown_own {w wr : World} {g o : Nat} {u : Value} (h : w.grownBy wr (some g)) : w.grownBy (wr.setCell ⟨g, o, none⟩ u) (some g) :=
  ⟨h.os, h.tape, h.output, by simpa [World.setCell] using h.size, fun k hk hne => (Below.heap_setCell _ ⟨g, o, none⟩ _ k (fun e => hne (by rw [e]))).trans (h.block k hk hne)⟩
set_option maxRecDepth 100000 in
set_option maxHeartbeats 4000000 in
theorem subTimes_any (g off n c : Nat) (E : Option Addr) (m f : Nat) (fac : Int) (ys L0 : List Int) (w : World) (hL : RowW .u32 w g 91 L0) (hn : off + n ≤ L0.length) (h : Sl .u32 w g E m ys) (hn2 : n ≤ 100000) (hm : m ≤ 100000) (hy : Dig 4294967296 ys) (hd : Dig 4294967296 L0) (hf : 0 ≤ fac ∧ fac < 4294967296) :
    Calls Tryz.prog 83 #[.slice (some ⟨g, off, none⟩) n c, .slice E m f, .int .u32 fac] w (SubPost g off n fac ys L0 w) := by
  have hg := hL.lt
  obtain ⟨W1, hW1⟩ : ∃ W1, W1 = w.alloc (.cells #[.int .u64 0] 22) := ⟨_, rfl⟩
  obtain ⟨W2, hW2⟩ : ∃ W2, W2 = W1.alloc (.cells #[.int .u64 0] 22) := ⟨_, rfl⟩
  have hs1 : W1.heap.size = w.heap.size + 1 := by rw [hW1, World.size_alloc]
  have hb1 : Box1 W1 w.heap.size 22 (.int .u64 0) := by rw [hW1]; exact Box1.new _ _ _
  have hb2 : Box1 W2 (w.heap.size + 1) 22 (.int .u64 0) := by rw [hW2, ← hs1]; exact Box1.new _ _ _
  have ha1 : Below W1.heap.size W1 W2 := by rw [hW2]; exact (Below.refl _ _).alloc (Nat.le_refl _) _
  have ha0 : Below w.heap.size w W1 := by rw [hW1]; exact (Below.refl _ _).alloc (Nat.le_refl _) _
  have ha : Below w.heap.size w W2 := ha0.trans (ha1.mono (by omega))
  have HS0 := Lib.hid (show LessS w g w.heap.size (w.heap.size + 1) E m ys L0 0 0 W2 from ⟨hL.below ha hg, hb1.below ha1 (by omega), hb2, h.below (ha.mono (by omega)), ⟨ha.os, ha.tape, ha.output, ha.size, fun k hk _ => ha.block k hk⟩⟩)
  have HI0 := Lib.hid (SubI.start (off := off) (f := fac) (ys := ys) hd)
  have HY := Lib.hid hy
  have HNL := Lib.hid hn
  have HW1 := Lib.hid hW1
  have HW2 := Lib.hid hW2
  have HS1 := Lib.hid hs1
  have hf0 := hf.1
  have hf1 := hf.2
  clear hL h hy hd hf hb1 hb2 ha1 ha0 ha hW1 hW2 hs1 hn
  go_enter Tryz.func83, Tryz.ntmps83
  go_wp2_with fail
  refine (carrier_any w).mono ?_
  rintro e w1 ⟨rfl, rfl⟩
  rw [← HW1.out]
  go_wp2_with fail
  refine (borrower_any W1).mono ?_
  rintro e w1 ⟨rfl, rfl⟩
  rw [← HW2.out, HS1.out]
  go_wp2_with fail
  obtain ⟨gc, hgc⟩ : ∃ gc, gc = w.heap.size := ⟨_, rfl⟩
  obtain ⟨gb, hgb⟩ : ∃ gb, gb = w.heap.size + 1 := ⟨_, rfl⟩
  rw [← hgb] at HS0 ⊢
  rw [← hgc] at HS0 ⊢
  have hgl : g < gc := by omega
  have hgl2 : gc < gb := by omega
  have HGC := Lib.hid hgc
  clear hgc hgb hg HS1 HW1 HW2
  go_loopw [15] (fun iv wr => ∃ (i : Nat) (cy bo : Int) (L : List Int), i ≤ n ∧ iv = .int .i64 i ∧ Hid (SubI off fac ys L0 i cy bo L) ∧ Hid (LessS w g gc gb E m ys L cy bo wr)) (fun iv _ => n - (intOf iv).toNat)
  case atStart => exact ⟨0, 0, 0, L0, Nat.zero_le _, rfl, HI0.out, HS0.out⟩
  case round =>
    clear HI0 HS0
    obtain ⟨i, cy, bo, L, hin, rfl, HI, HS⟩ := hrel
    have hne1 : g ≠ gc := by omega
    have hne2 : g ≠ gb := by omega
    have hne3 : gc ≠ gb := by omega
    by_cases hlt : i < n
    · obtain ⟨p0, p1, p2, p3, hI2⟩ := HI.out.step ⟨hf0, hf1⟩ HY.out (by have := HNL.out; omega)
      obtain ⟨cy0, cy1⟩ := HI.out.carry ⟨hf0, hf1⟩ HY.out
      have bo0 := HI.out.2.2.2.1
      have bo1 := HI.out.2.2.2.2.1
      have hrc := HS.out.1.cell (off + i) (by rw [HI.out.1]; have := HNL.out; omega)
      have hrf := HS.out.1.free (off + i)
      have HAT := Lib.hid (nat_at E m f i ys wr (HS.out.2.2.2.1.more (by have := HS.out.1.lt; omega)) HY.out (by omega) (by omega))
      obtain ⟨x, hx⟩ : ∃ x, x = L[off + i]?.getD 0 := ⟨_, rfl⟩
      obtain ⟨y, hyy⟩ : ∃ y, y = ys[i]?.getD 0 := ⟨_, rfl⟩
      rw [← hx] at hrc p2 p3 hI2
      rw [← hyy] at HAT p0 p1 hI2
      have hy01 := HY.out.get (show (0 : Int) < 4294967296 by omega) i
      rw [← hyy] at hy01
      obtain ⟨hy0, hy1⟩ := hy01
      have HI2 := Lib.hid hI2
      have HCA := Lib.hid (carry_any gc (y * fac) cy wr HS.out.2.1 (by omega) cy0 (by omega))
      obtain ⟨q, hq⟩ : ∃ q, q = (y * fac + cy) % 4294967296 := ⟨_, rfl⟩
      obtain ⟨c2, hc2⟩ : ∃ c2, c2 = (y * fac + cy) / 4294967296 := ⟨_, rfl⟩
      rw [← hq, ← hc2] at HCA HI2
      have q0 : 0 ≤ q := by omega
      have q1 : q ≤ 4294967295 := by omega
      have HBO := Lib.hid (borrow_any gb x q bo (wr.setCell ⟨gc, 0, none⟩ (.int .u64 c2)) (HS.out.2.2.1.far (p := ⟨gc, 0, none⟩) (Ne.symm hne3) _) ⟨p2, by omega⟩ ⟨q0, q1⟩ ⟨bo0, bo1⟩)
      obtain ⟨d, hd⟩ : ∃ d, d = (x - q - bo) % 4294967296 := ⟨_, rfl⟩
      obtain ⟨b2, hb2⟩ : ∃ b2, b2 = borI x q bo := ⟨_, rfl⟩
      rw [← hd, ← hb2] at HBO HI2
      have HS2 := Lib.hid (show LessS w g gc gb E m ys (L.set (off + i) d) c2 b2 (((wr.setCell ⟨gc, 0, none⟩ (.int .u64 c2)).setCell ⟨gb, 0, none⟩ (.int .u64 b2)).setCell ⟨g, off + i, none⟩ (.int .u32 d)) from by
        refine ⟨((HS.out.1.far (p := ⟨gc, 0, none⟩) hne1 _).far (p := ⟨gb, 0, none⟩) hne2 _).set_ (off + i) (by rw [HI.out.1]; have := HNL.out; omega) _, ((HS.out.2.1.set_ _).far (p := ⟨gb, 0, none⟩) hne3 _).far (p := ⟨g, off + i, none⟩) (Ne.symm hne1) _, ((HS.out.2.2.1.far (p := ⟨gc, 0, none⟩) (Ne.symm hne3) _).set_ _).far (p := ⟨g, off + i, none⟩) (Ne.symm hne2) _, ?_, ?_⟩
        · exact HS.out.2.2.2.1.below ((((Below.refl _ _).setCell (p := ⟨gc, 0, none⟩) (by show g ≤ gc; omega) _).setCell (p := ⟨gb, 0, none⟩) (by show g ≤ gb; omega) _).setCell (p := ⟨g, off + i, none⟩) (Nat.le_refl _) _)
        · exact grown_own (grown_far (grown_far HS.out.2.2.2.2 (g := gc) (j := 0) (by rw [HGC.out]; exact Nat.le_refl _)) (g := gb) (j := 0) (by have := HGC.out; omega)))
      clear hI2 hx hyy hq hc2 hd hb2
      go_wp2_with fail
      refine HAT.out.mono ?_
      rintro e w1 ⟨rfl, rfl⟩
      go_wp2_with fail
      refine HCA.out.mono ?_
      rintro e w1 ⟨rfl, rfl⟩
      go_wp2_with fail
      refine HBO.out.mono ?_
      rintro e w1 ⟨rfl, rfl⟩
      go_wp2_with fail
      exact ⟨⟨i + 1, _, _, _, by omega, by go_num, HI2.out, HS2.out⟩, by simp [intOf]; omega⟩
    · obtain rfl : i = n := by omega
      obtain ⟨cy0, cy1⟩ := HI.out.carry ⟨hf0, hf1⟩ HY.out
      have bo0 := HI.out.2.2.2.1
      have bo1 := HI.out.2.2.2.2.1
      have HCA := Lib.hid (carry_any gc 0 cy wr HS.out.2.1 (by omega) cy0 (by omega))
      rw [Int.zero_add, Int.emod_eq_of_lt cy0 cy1] at HCA
      have HBO := Lib.hid (borrow_any gb 0 cy bo (wr.setCell ⟨gc, 0, none⟩ (.int .u64 (cy / 4294967296))) (HS.out.2.2.1.far (p := ⟨gc, 0, none⟩) (Ne.symm hne3) _) ⟨by omega, by omega⟩ ⟨cy0, by omega⟩ ⟨bo0, bo1⟩)
      obtain ⟨d, hd⟩ : ∃ d, d = (0 - cy - bo) % 4294967296 := ⟨_, rfl⟩
      obtain ⟨b2, hb2⟩ : ∃ b2, b2 = borI 0 cy bo := ⟨_, rfl⟩
      obtain ⟨c2, hc2⟩ : ∃ c2, c2 = cy / 4294967296 := ⟨_, rfl⟩
      rw [← hd, ← hb2] at HBO
      rw [← hc2] at HBO HCA
      have HF := Lib.hid (show SubPost g off i fac ys L0 w (.returned (.bool (decide (d ≠ 0)))) ((wr.setCell ⟨gc, 0, none⟩ (.int .u64 c2)).setCell ⟨gb, 0, none⟩ (.int .u64 b2)) from
        ⟨cy, bo, L, by rw [hd], (HS.out.1.far (p := ⟨gc, 0, none⟩) hne1 _).far (p := ⟨gb, 0, none⟩) hne2 _, grown_far (grown_far HS.out.2.2.2.2 (g := gc) (j := 0) (by rw [HGC.out]; exact Nat.le_refl _)) (g := gb) (j := 0) (by have := HGC.out; omega), HI.out⟩)
      have hdd : (d != 0) = decide (d ≠ 0) := by by_cases h : d = 0 <;> simp [h]
      have HDD := Lib.hid hdd
      clear hd hb2 hc2 hdd
      go_wp2_with fail
      refine HCA.out.mono ?_
      rintro e w1 ⟨rfl, rfl⟩
      go_wp2_with fail
      refine HBO.out.mono ?_
      rintro e w1 ⟨rfl, rfl⟩
      go_wp2_with fail
      go_ret
      have h := HF.out
      rw [← HDD.out] at h
      exact h
end Go.Proofs.YtgfhniiidejmoaaGreatDoor
namespace Go.Proofs.YtgfhniiidejmoaaGreatDoor
open Go.RowKit
set_option linter.unusedVariables false

theorem or_add {r x : Int} (h0 : 0 ≤ r) (h1 : r < 4294967296) (h2 : 0 ≤ x) (h3 : x < 4294967296) : bits .or .u64 (r * 4294967296) x = r * 4294967296 + x := by
  rw [u64_or _ _ (by omega) (by omega) h2 (by omega)]
  have h := Nat.two_pow_add_eq_or_of_lt (i := 32) (b := x.toNat) (by omega) r.toNat
  have e : (r * 4294967296).toNat = 2 ^ 32 * r.toNat := by omega
  rw [e, ← h]
  omega
/-- a division by one digit under way: the places from k on are done -/
def QuoI (d : Int) (L0 : List Int) (k : Nat) (r : Int) (L : List Int) : Prop :=
  L.length = L0.length ∧ Dig 4294967296 L ∧ 0 ≤ r ∧ r < d ∧ dv 4294967296 (L.drop k) * d + r = dv 4294967296 (L0.drop k) ∧ ∀ j, j < k → L[j]?.getD 0 = L0[j]?.getD 0
theorem QuoI.start {d : Int} {L : List Int} (hd : Dig 4294967296 L) (h0 : 0 < d) : QuoI d L L.length 0 L := by
  refine ⟨rfl, hd, by omega, h0, ?_, fun _ _ => rfl⟩
  rw [List.drop_of_length_le (Nat.le_refl _)]; simp [dv]
theorem QuoI.step {d r : Int} {L0 L : List Int} {k : Nat} (h : QuoI d L0 (k + 1) r L) (hk : k < L0.length) (h0 : 0 < d) :
    0 ≤ L[k]?.getD 0 ∧ L[k]?.getD 0 < 4294967296 ∧ (r * 4294967296 + L[k]?.getD 0) / d < 4294967296 ∧ QuoI d L0 k ((r * 4294967296 + L[k]?.getD 0) % d) (L.set k ((r * 4294967296 + L[k]?.getD 0) / d)) := by
  obtain ⟨h1, h2, h3, h4, h5, h6⟩ := h
  have hg := h2.get (show (0 : Int) < 4294967296 by omega) k
  have he := h6 k (by omega)
  obtain ⟨x, hx⟩ : ∃ x, x = L[k]?.getD 0 := ⟨_, rfl⟩
  rw [← hx] at hg he ⊢
  have hq0 : 0 ≤ (r * 4294967296 + x) / d := Int.ediv_nonneg (by omega) (by omega)
  have hq1 : (r * 4294967296 + x) / d < 4294967296 := Int.ediv_lt_of_lt_mul h0 (by omega)
  have hm := Int.mul_ediv_add_emod (r * 4294967296 + x) d
  refine ⟨hg.1, hg.2, hq1, by rw [List.length_set]; exact h1, h2.set _ ⟨hq0, hq1⟩, Int.emod_nonneg _ (by omega), Int.emod_lt_of_pos _ h0, ?_, fun j hj => by rw [set_getD' _ _ _ _ (by omega)]; exact h6 j (by omega)⟩
  have e1 : L0.drop k = x :: L0.drop (k + 1) := by rw [List.drop_eq_getElem_cons hk, he, List.getElem?_eq_getElem hk]; rfl
  have e2 : (L.set k ((r * 4294967296 + x) / d)).drop k = (r * 4294967296 + x) / d :: L.drop (k + 1) := by
    rw [List.drop_eq_getElem_cons (by rw [List.length_set]; omega), List.getElem_set_self, List.drop_set_of_lt (by omega)]
  rw [e1, e2, dv, dv, ← h5]
  grind
def QuoPost (g : Nat) (d : Int) (L0 : List Int) (w : World) (e : Ending) (w' : World) : Prop :=
  ∃ r L, e = .returned (.int .u32 r) ∧ RowW .u32 w' g 91 L ∧ w.grownBy w' (some g) ∧ QuoI d L0 0 r L
set_option maxRecDepth 100000 in
set_option maxHeartbeats 4000000 in
theorem divideBy_any (g n c : Nat) (d : Int) (L0 : List Int) (w : World) (hL : RowW .u32 w g 91 L0) (hn : L0.length = n) (hn2 : n ≤ 100000) (hd : Dig 4294967296 L0) (h0 : 0 < d) (h1 : d < 4294967296) :
    Calls Tryz.prog 65 #[.slice (some ⟨g, 0, none⟩) n c, .int .u32 d] w (QuoPost g d L0 w) := by
  have HL := Lib.hid hL
  have HI0 := Lib.hid (QuoI.start hd h0)
  rw [hn] at HI0
  have HN := Lib.hid hn
  clear hL hd hn
  go_enter Tryz.func65, Tryz.ntmps65
  go_wp2_with fail
  go_loopw [5, 6] (fun rv iv wr => ∃ (k : Nat) (r : Int) (L : List Int), k ≤ n ∧ iv = .int .i64 ((k : Int) - 1) ∧ rv = .int .u64 r ∧ Hid (QuoI d L0 k r L) ∧ Hid (RowW .u32 wr g 91 L) ∧ Hid (w.grownBy wr (some g))) (fun _ iv _ => (intOf iv + 1).toNat)
  case atStart => exact ⟨n, 0, L0, Nat.le_refl _, rfl, rfl, HI0.out, HL.out, World.grownBy.refl _ _⟩
  case round =>
    clear HI0 HL
    obtain ⟨k, r, L, hk, rfl, rfl, HI, HL, HG⟩ := hrel
    have r0 := HI.out.2.2.1
    have r1 := HI.out.2.2.2.1
    rcases Nat.eq_zero_or_pos k with rfl | hk0
    · have HF := Lib.hid (show QuoPost g d L0 w (.returned (.int .u32 r)) wr from ⟨r, L, rfl, HL.out, HG.out, HI.out⟩)
      go_wp2_with fail
      go_ret
      exact HF.out
    · obtain ⟨j, rfl⟩ : ∃ j, k = j + 1 := ⟨k - 1, by omega⟩
      rw [show (((j + 1 : Nat) : Int) - 1) = (j : Int) by omega]
      obtain ⟨x0, x1, q1, hI2⟩ := HI.out.step (by rw [HN.out]; omega) h0
      have hc := HL.out.cell j (by rw [HI.out.1, HN.out]; omega)
      have hf := HL.out.free j
      obtain ⟨x, hx⟩ : ∃ x, x = L[j]?.getD 0 := ⟨_, rfl⟩
      rw [← hx] at x0 x1 q1 hI2 hc
      have HI2 := Lib.hid hI2
      have HL2 := Lib.hid (fun (v : Int) => HL.out.set_ j (by rw [HI.out.1, HN.out]; omega) v)
      have HG2 := Lib.hid (fun (v : Value) => grown_own (o := j) (u := v) HG.out)
      have hor := or_add r0 (by omega) x0 x1
      obtain ⟨V, hV⟩ : ∃ V, V = r * 4294967296 + x := ⟨_, rfl⟩
      rw [← hV] at hor q1 HI2
      have v0 : 0 ≤ V := by omega
      have v1 : V ≤ 18446744073709551615 := by omega
      have hq0 : 0 ≤ V / d := Int.ediv_nonneg v0 (by omega)
      have htd : V.tdiv d = V / d := Int.tdiv_eq_ediv_of_nonneg v0
      have htm : V.tmod d = V % d := Int.tmod_eq_emod_of_nonneg v0
      obtain ⟨Q, hQ⟩ : ∃ Q, Q = V / d := ⟨_, rfl⟩
      rw [← hQ] at hq0 htd q1 HI2
      have hw : IntKind.u64.wrap Q = Q := IntWalk.u64_in _ (by omega)
      have hm : Q % 4294967296 = Q := by omega
      have hd0 : (d == 0) = false := by simp; omega
      clear hI2 hx hV hQ
      go_wp2_with fail
      exact ⟨⟨j, V % d, L.set j Q, by omega, rfl, rfl, HI2.out, HL2.out _, HG2.out _⟩, by simp [intOf]⟩
end Go.Proofs.YtgfhniiidejmoaaGreatDoor
namespace Go.Proofs.YtgfhniiidejmoaaGreatDoor
open Go.RowKit
set_option linter.unusedVariables false

/-- a call that leaves the world alone, where the order has been drawn -/
theorem quiet_more {P : Program} {f : FuncId} {args : Array Value} {w : World} {a n : Nat} {v : Value} (h : ∀ W : World, Calls P f args W fun e w' => e = .returned v ∧ W = w') :
    Calls P f args (w.drewN (a + n)) fun e w'' => e = .returned v ∧ ∃ m, w'' = w.drewN (a + m) := (h _).mono fun _ _ ⟨he, hm⟩ => ⟨he, n, hm.symm⟩
theorem quiet_once {P : Program} {f : FuncId} {args : Array Value} {w : World} {n : Nat} {v : Value} (h : ∀ W : World, Calls P f args W fun e w' => e = .returned v ∧ W = w') :
    Calls P f args (w.drewN n) fun e w'' => e = .returned v ∧ ∃ m, w'' = w.drewN m := (h _).mono fun _ _ ⟨he, hm⟩ => ⟨he, n, hm.symm⟩
/-- a new number of package wide -/
def NewU (x : Int) (w : World) (e : Ending) (w' : World) : Prop := ∃ A n c zs, e = .returned (.slice A n c) ∧ NatR w' w'.heap.size x A n c zs ∧ Below w.heap.size w w'
theorem TrimPost.new {B c : Nat} {A : Option Addr} {zs : List Int} {w0 w : World} {e : Ending} {w' : World} (h : TrimPost B A c zs w e w') (hB : B ≤ w.heap.size) (hb : Below w0.heap.size w0 w) {x : Int} (hx : dv 4294967296 zs = x) : NewU x w0 e w' := by
  obtain ⟨k, rfl, hk, hr, rfl⟩ := h
  rw [hx] at hr
  exact ⟨A, k, c, _, rfl, hr.more hB, hb⟩
set_option maxHeartbeats 1000000 in
theorem fromWord_any (x : Int) (w : World) (h0 : 0 ≤ x) (h1 : x ≤ 18446744073709551615) :
    Calls Tryz.prog 55 #[.int .u64 x] w (NewU x w) := by
  have hal : Below w.heap.size w (w.alloc (.cells #[.int .u32 (x % 4294967296), .int .u32 (x / 4294967296)] 91)) := (Below.refl _ _).alloc (Nat.le_refl _) _
  have HT := Lib.hid (trimmed_any (some ⟨w.heap.size, 0, none⟩) 2 2 _ [x % 4294967296, x / 4294967296] (w.alloc (.cells #[.int .u32 (x % 4294967296), .int .u32 (x / 4294967296)] 91)) (two_cells .u32 w 91 (x % 4294967296) (x / 4294967296)) (Nat.le_refl _) (by unfold maxLen; omega) (by intro h; cases h) (Dig.cons (by omega) (Dig.cons (by omega) Dig.nil)))
  have HAL := Lib.hid hal
  have HX := Lib.hid (show dv 4294967296 [x % 4294967296, x / 4294967296] = x by simp [dv]; omega)
  have hm : x / 4294967296 % 4294967296 = x / 4294967296 := by omega
  clear hal
  go_enter Tryz.func55, Tryz.ntmps55
  go_wp2_with fail
  refine HT.out.mono ?_
  rintro e w1 h
  have hn := h.new (Nat.le_refl _) HAL.out HX.out
  obtain ⟨A, n, c, zs, rfl, hr, hb⟩ := hn
  have HF := Lib.hid (show NewU x w (.returned (.slice A n c)) w1 from ⟨A, n, c, zs, rfl, hr, hb⟩)
  clear h hr hb
  go_wp2_with fail
  go_ret
  exact HF.out
set_option maxHeartbeats 1000000 in
theorem word_any (A : Option Addr) (n c : Nat) (zs : List Int) (w : World) (h : Sl .u32 w w.heap.size A n zs) (hd : Dig 4294967296 zs) (hn : n ≤ 1000000) :
    Calls Tryz.prog 102 #[.slice A n c] w fun e w' => e = .returned (.int .u64 (zs[0]?.getD 0 + 4294967296 * zs[1]?.getD 0)) ∧ w = w' := by
  have H0 := Lib.hid (nat_at A n c 0 zs w h hd hn (by omega))
  have H1 := Lib.hid (nat_at A n c 1 zs w h hd hn (by omega))
  have b0 := hd.get (by omega) 0
  have b1 := hd.get (by omega) 1
  obtain ⟨x, hx⟩ : ∃ x, x = zs[0]?.getD 0 := ⟨_, rfl⟩
  obtain ⟨y, hy⟩ : ∃ y, y = zs[1]?.getD 0 := ⟨_, rfl⟩
  rw [← hx] at H0 b0 ⊢
  rw [← hy] at H1 b1 ⊢
  obtain ⟨x0, x1⟩ := b0
  obtain ⟨y0, y1⟩ := b1
  have hor : bits .or .u64 x (y * 4294967296) = x + 4294967296 * y := by
    rw [u64_or _ _ x0 (by omega) (by omega) (by omega)]
    have h := Nat.two_pow_add_eq_or_of_lt (i := 32) (b := x.toNat) (by omega) y.toNat
    have e : (y * 4294967296).toNat = 2 ^ 32 * y.toNat := by omega
    rw [e, Nat.or_comm, ← h]
    omega
  have HO := Lib.hid hor
  clear h hd hx hy
  go_enter Tryz.func102, Tryz.ntmps102
  go_wp2_with fail
  refine H0.out.mono ?_
  rintro e w1 ⟨rfl, rfl⟩
  go_wp2_with fail
  refine H1.out.mono ?_
  rintro e w1 ⟨rfl, rfl⟩
  go_wp2_with fail
  go_ret
  exact ⟨rfl, rfl⟩
def cmpI' (x y : Int) : Int := if x < y then -1 else if y < x then 1 else 0
theorem cmp_int (a b : Int) (w : World) : Calls Tryz.prog 66 #[.int .i64 a, .int .i64 b] w fun e w' => e = .returned (.int .i64 (cmpI' a b)) ∧ w = w' := by
  by_cases h1 : a < b
  · obtain ⟨r, hr⟩ : ∃ r, r = cmpI' a b := ⟨_, rfl⟩
    rw [← hr]
    obtain rfl : r = -1 := by rw [hr]; exact if_pos h1
    clear hr
    go_enter Tryz.func66, Tryz.ntmps66
    go_wp2
    go_ret
    exact ⟨rfl, rfl⟩
  · by_cases h2 : b < a
    · obtain ⟨r, hr⟩ : ∃ r, r = cmpI' a b := ⟨_, rfl⟩
      rw [← hr]
      obtain rfl : r = 1 := by rw [hr]; unfold cmpI'; rw [if_neg h1, if_pos h2]
      clear hr
      go_enter Tryz.func66, Tryz.ntmps66
      go_wp2
      go_ret
      exact ⟨rfl, rfl⟩
    · obtain ⟨r, hr⟩ : ∃ r, r = cmpI' a b := ⟨_, rfl⟩
      rw [← hr]
      obtain rfl : r = 0 := by rw [hr]; unfold cmpI'; rw [if_neg h1, if_neg h2]
      clear hr
      go_enter Tryz.func66, Tryz.ntmps66
      go_wp2
      go_ret
      exact ⟨rfl, rfl⟩
theorem cmp_u32 (a b : Int) (w : World) : Calls Tryz.prog 67 #[.int .u32 a, .int .u32 b] w fun e w' => e = .returned (.int .i64 (cmpI' a b)) ∧ w = w' := by
  by_cases h1 : a < b
  · obtain ⟨r, hr⟩ : ∃ r, r = cmpI' a b := ⟨_, rfl⟩
    rw [← hr]
    obtain rfl : r = -1 := by rw [hr]; exact if_pos h1
    clear hr
    go_enter Tryz.func67, Tryz.ntmps67
    go_wp2
    go_ret
    exact ⟨rfl, rfl⟩
  · by_cases h2 : b < a
    · obtain ⟨r, hr⟩ : ∃ r, r = cmpI' a b := ⟨_, rfl⟩
      rw [← hr]
      obtain rfl : r = 1 := by rw [hr]; unfold cmpI'; rw [if_neg h1, if_pos h2]
      clear hr
      go_enter Tryz.func67, Tryz.ntmps67
      go_wp2
      go_ret
      exact ⟨rfl, rfl⟩
    · obtain ⟨r, hr⟩ : ∃ r, r = cmpI' a b := ⟨_, rfl⟩
      rw [← hr]
      obtain rfl : r = 0 := by rw [hr]; unfold cmpI'; rw [if_neg h1, if_neg h2]
      clear hr
      go_enter Tryz.func67, Tryz.ntmps67
      go_wp2
      go_ret
      exact ⟨rfl, rfl⟩
set_option maxRecDepth 100000 in
set_option maxHeartbeats 4000000 in
theorem ncompare_any (x y : Int) (A E : Option Addr) (n c m f : Nat) (zs ys : List Int) (w : World) (h : NatR w w.heap.size x A n c zs) (k : NatR w w.heap.size y E m f ys) (hn : n ≤ 100000) (hm : m ≤ 100000) :
    Calls Tryz.prog 38 #[.slice A n c, .slice E m f] w fun e w' => e = .returned (.int .i64 (cmpI' x y)) ∧ ∃ q, w' = w.drewN q := by
  obtain ⟨hs, hnc, hc, hA, hz, tz, rfl⟩ := h
  obtain ⟨ks, kmf, kf, kE, hy, ty, rfl⟩ := k
  have HLN := Lib.hid hs.len
  have HLM := Lib.hid ks.len
  have HS := Lib.hid hs
  have HK := Lib.hid ks
  have HZ := Lib.hid hz
  have HY := Lib.hid hy
  have L1 := Lib.hid (fun (hlt : n < m) => len_lt (show (1 : Int) < 4294967296 by omega) hz hy ty (by rw [hs.len, ks.len]; exact hlt))
  have L2 := Lib.hid (fun (hlt : m < n) => len_lt (show (1 : Int) < 4294967296 by omega) hy hz tz (by rw [hs.len, ks.len]; exact hlt))
  obtain ⟨R, hR⟩ : ∃ R, R = cmpI' (dv 4294967296 zs) (dv 4294967296 ys) := ⟨_, rfl⟩
  rw [← hR]
  have HR := Lib.hid hR
  clear hs ks hz hy tz ty hR hA kE
  rcases Nat.lt_trichotomy n m with hlt | rfl | hgt
  · obtain rfl : R = -1 := by rw [HR.out, cmpI', if_pos (L1.out hlt)]
    have hne : ((n : Int) != (m : Int)) = true := by rw [bne_iff_ne]; omega
    have HC := Lib.hid (cmp_int n m w)
    rw [show cmpI' (n : Int) (m : Int) = -1 from if_pos (by omega)] at HC
    go_enter Tryz.func38, Tryz.ntmps38
    go_wp2_with fail
    refine HC.out.mono ?_
    rintro e w1 ⟨rfl, rfl⟩
    go_wp2_with fail
    go_ret
    exact ⟨rfl, 0, rfl⟩
  · go_enter Tryz.func38, Tryz.ntmps38
    go_wp2_with fail
    go_loopw [5] (fun i wr => ∃ k q : Nat, k ≤ n ∧ i = .int .i64 ((k : Int) - 1) ∧ Hid (zs.drop k = ys.drop k) ∧ wr = w.drewN q) (fun i _ => (intOf i + 1).toNat)
    case atStart => exact ⟨n, 0, Nat.le_refl _, rfl, by show zs.drop n = ys.drop n; rw [List.drop_of_length_le (by rw [HLN.out]; omega), List.drop_of_length_le (by rw [HLM.out]; omega)], rfl⟩
    case round =>
      obtain ⟨k, q, hk, rfl, HD, rfl⟩ := hrel
      rcases Nat.eq_zero_or_pos k with rfl | hk0
      · obtain rfl : R = 0 := by
          have e : zs = ys := HD
          rw [HR.out, e, cmpI', if_neg (by omega), if_neg (by omega)]
        go_wp2_with fail
        go_ret
        exact ⟨rfl, _, rfl⟩
      · obtain ⟨j, rfl⟩ : ∃ j, k = j + 1 := ⟨k - 1, by omega⟩
        rw [show (((j + 1 : Nat) : Int) - 1) = (j : Int) by omega]
        obtain ⟨b1, o1, rfl, _, hc1⟩ := HS.out.at_ (by omega)
        obtain ⟨b2, o2, rfl, _, hc2⟩ := HK.out.at_ (by omega)
        have c1 := hc1 j (by omega)
        have c2 := hc2 j (by omega)
        have hj1 : j < zs.length := by rw [HLN.out]; omega
        have hj2 : j < ys.length := by rw [HLM.out]; omega
        have hx : zs[j]?.getD 0 = zs[j] := by rw [List.getElem?_eq_getElem hj1]; rfl
        have hy : ys[j]?.getD 0 = ys[j] := by rw [List.getElem?_eq_getElem hj2]; rfl
        have D1 := Lib.hid (fun (hd : zs[j]?.getD 0 < ys[j]?.getD 0) => diff_lt (show (1 : Int) < 4294967296 by omega) HZ.out HY.out j hj1 hj2 HD (by rw [← hx, ← hy]; exact hd))
        have D2 := Lib.hid (fun (hd : ys[j]?.getD 0 < zs[j]?.getD 0) => diff_lt (show (1 : Int) < 4294967296 by omega) HY.out HZ.out j hj2 hj1 (show ys.drop (j + 1) = zs.drop (j + 1) from Eq.symm HD) (by rw [← hx, ← hy]; exact hd))
        have D3 := Lib.hid (fun (hd : zs[j]?.getD 0 = ys[j]?.getD 0) => show zs.drop j = ys.drop j by
          rw [List.drop_eq_getElem_cons hj1, List.drop_eq_getElem_cons hj2, ← hx, ← hy, hd, show zs.drop (j + 1) = ys.drop (j + 1) from HD])
        obtain ⟨x, hxe⟩ : ∃ x, x = zs[j]?.getD 0 := ⟨_, rfl⟩
        obtain ⟨y, hye⟩ : ∃ y, y = ys[j]?.getD 0 := ⟨_, rfl⟩
        rw [← hxe] at c1 D1 D2 D3
        rw [← hye] at c2 D1 D2 D3
        have HC := Lib.hid (cmp_u32 x y)
        clear hc1 hc2 hx hy hxe hye
        by_cases hxy : x = y
        · have HQ := Lib.hid (D3.out hxy)
          subst hxy
          clear hj1 hj2
          go_wp2
          go_quiet (fail)
          go_wp2
          go_roundw
          case rel => exact ⟨j, _, by omega, by go_num, HQ.out, rfl⟩
          case measure => simp [intOf]
        · have hne : (x != y) = true := by rw [bne_iff_ne]; exact hxy
          obtain ⟨r, hr⟩ : ∃ r, r = cmpI' x y := ⟨_, rfl⟩
          rw [← hr] at HC
          obtain rfl : R = r := by
            rw [HR.out, hr]
            unfold cmpI'
            rcases Int.lt_or_gt_of_ne hxy with h | h
            · rw [if_pos (D1.out h), if_pos h]
            · rw [if_neg (by have := D2.out h; omega), if_pos (D2.out h), if_neg (by omega), if_pos h]
          clear hj1 hj2 hr HR
          go_wp2
          go_quiet (fail)
          go_wp2_with fail
          go_quiet ((go_at_call 67; first | exact quiet_more HC.out | exact quiet_once HC.out))
          go_wp2
          go_ret
          exact ⟨rfl, _, (by rw [World.drewN_drewN, World.drewN_drewN])⟩
  · obtain rfl : R = 1 := by rw [HR.out, cmpI', if_neg (by have := L2.out hgt; omega), if_pos (L2.out hgt)]
    have hne : ((n : Int) != (m : Int)) = true := by rw [bne_iff_ne]; omega
    have HC := Lib.hid (cmp_int n m w)
    rw [show cmpI' (n : Int) (m : Int) = 1 by unfold cmpI'; rw [if_neg (by omega), if_pos (by omega)]] at HC
    go_enter Tryz.func38, Tryz.ntmps38
    go_wp2_with fail
    refine HC.out.mono ?_
    rintro e w1 ⟨rfl, rfl⟩
    go_wp2_with fail
    go_ret
    exact ⟨rfl, 0, rfl⟩
end Go.Proofs.YtgfhniiidejmoaaGreatDoor
