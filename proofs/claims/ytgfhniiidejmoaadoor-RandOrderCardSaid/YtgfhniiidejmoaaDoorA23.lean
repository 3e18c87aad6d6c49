/- Contracts of the reference of wide: divided. -/
import Derived.Test.YtgfhniiidejmoaaDoorA22
import Derived.Deep.DeepCutAuto
namespace Go.Proofs.YtgfhniiidejmoaaDoor
open Go.RowKit
set_option linter.unusedVariables false

def DivI (n : Nat) (zs ys : List Int) (i : Nat) (L l : List Int) : Prop :=
  L.length = n ∧ Dig 10000 L ∧ (∀ j, j < i → L[j]?.getD 0 = 0) ∧ Dig 10000 l ∧ Top l ∧ dv 10000 l < dv 10000 ys ∧ dv 10000 (zs.drop i) = dv 10000 (L.drop i) * dv 10000 ys + dv 10000 l
theorem DivI.start {n m F : Nat} {zs ys l : List Int} (hz : Dig 10000 zs) (hy : Dig 10000 ys) (ty : Top ys) (hn : zs.length = n) (hm : ys.length = m) (hm1 : 1 ≤ m) (hF : F ≤ n) (hFm : n + 1 ≤ F + m) (hl : Dig 10000 l) (tl : Top l) (hv : dv 10000 l = dv 10000 (zs.drop F)) : DivI n zs ys F (List.replicate n 0) l := by
  refine ⟨by simp, fun d hd => by rw [List.eq_of_mem_replicate hd]; omega, fun j _ => by rw [List.getElem?_replicate]; split <;> rfl, hl, tl, ?_, ?_⟩
  · rw [hv]
    have h1 := dv_lt (show (0 : Int) < 10000 by omega) (hz.drop F)
    rw [List.length_drop] at h1
    have h2 := pow_mono' (show (0 : Int) < 10000 by omega) (show zs.length - F ≤ m - 1 by omega)
    have h3 := top_ge (show (1 : Int) < 10000 by omega) hy ty (fun e => by rw [e] at hm; simp at hm; omega)
    rw [hm] at h3
    omega
  · rw [List.drop_replicate, dv_zeros, hv]; simp
theorem DivI.bd {n j : Nat} {zs ys L l : List Int} (h : DivI n zs ys (j + 1) L l) (hz : Dig 10000 zs) : 0 ≤ zs[j]?.getD 0 + 10000 * dv 10000 l ∧ zs[j]?.getD 0 + 10000 * dv 10000 l < 10000 * dv 10000 ys := by
  have h1 := hz.get (show (0 : Int) < 10000 by omega) j
  have h2 := dv_nonneg (show (0 : Int) < 10000 by omega) h.2.2.2.1
  have h3 := h.2.2.2.2.2.1
  omega
theorem DivI.step {n j : Nat} {zs ys L l l' : List Int} {q : Int} (h : DivI n zs ys (j + 1) L l) (hz : Dig 10000 zs) (hn : zs.length = n) (hj : j < n) (hq : q = (zs[j]?.getD 0 + 10000 * dv 10000 l) / dv 10000 ys) (hl : Dig 10000 l') (tl : Top l') (hv : dv 10000 l' = zs[j]?.getD 0 + 10000 * dv 10000 l - dv 10000 ys * q) : DivI n zs ys j (L.set j q) l' := by
  have hb := h.bd hz
  obtain ⟨h1, h2, h3, h4, h5, h6, h7⟩ := h
  have hp : 0 < dv 10000 ys := by
    have := dv_nonneg (show (0 : Int) < 10000 by omega) h4
    omega
  have hq0 : 0 ≤ q := by rw [hq]; exact Int.ediv_nonneg hb.1 (by omega)
  have hq1 : q < 10000 := by rw [hq]; exact Int.ediv_lt_of_lt_mul hp hb.2
  have hm := Int.mul_ediv_add_emod (zs[j]?.getD 0 + 10000 * dv 10000 l) (dv 10000 ys)
  have hm2 := Int.emod_lt_of_pos (zs[j]?.getD 0 + 10000 * dv 10000 l) hp
  rw [← hq] at hm
  refine ⟨by rw [List.length_set]; exact h1, h2.set _ ⟨hq0, hq1⟩, fun i hi => by rw [set_getD _ _ _ _ (by omega)]; exact h3 i (by omega), hl, tl, by omega, ?_⟩
  have e1 : zs.drop j = zs[j]?.getD 0 :: zs.drop (j + 1) := by rw [List.drop_eq_getElem_cons (by omega), List.getElem?_eq_getElem (by omega)]; rfl
  have e2 : (L.set j q).drop j = q :: L.drop (j + 1) := by
    rw [List.drop_eq_getElem_cons (by rw [List.length_set]; omega), List.getElem_set_self, List.drop_set_of_lt (by omega)]
  rw [e1, e2, dv, dv, h7, hv]
  grind
/-- what a quotient of the reference holds while it is made -/
def DivM (w : World) (G : Nat) (A : Option Addr) (n : Nat) (E : Option Addr) (m : Nat) (zs ys L : List Int) (wr : World) : Prop :=
  RowW .i64 wr G 3 L ∧ Sl .i64 wr w.heap.size A n zs ∧ Sl .i64 wr w.heap.size E m ys ∧ Below w.heap.size w wr ∧ w.heap.size ≤ G
section
variable {w wr : World} {A E : Option Addr} {n m G : Nat} {zs ys L : List Int}
theorem DivM.below {w' : World} (h : DivM w G A n E m zs ys L wr) (hb : Below wr.heap.size wr w') : DivM w G A n E m zs ys L w' :=
  have hs := h.2.2.2.1.size
  ⟨h.1.below hb h.1.lt, h.2.1.below (hb.mono hs), h.2.2.1.below (hb.mono hs), h.2.2.2.1.trans (hb.mono hs), h.2.2.2.2⟩
theorem DivM.set_ (h : DivM w G A n E m zs ys L wr) {j : Nat} (hj : j < L.length) (v : Int) : DivM w G A n E m zs ys (L.set j v) (wr.setCell ⟨G, j, none⟩ (.int .i64 v)) :=
  have hb : Below w.heap.size wr (wr.setCell ⟨G, j, none⟩ (.int .i64 v)) := (Below.refl _ _).setCell (p := ⟨G, j, none⟩) h.2.2.2.2 _
  ⟨h.1.set_ j hj v, h.2.1.below hb, h.2.2.1.below hb, h.2.2.2.1.trans hb, h.2.2.2.2⟩
theorem DivM.sl1 (h : DivM w G A n E m zs ys L wr) : Sl .i64 wr wr.heap.size A n zs := h.2.1.more h.2.2.2.1.size
theorem DivM.sl2 (h : DivM w G A n E m zs ys L wr) : Sl .i64 wr wr.heap.size E m ys := h.2.2.1.more h.2.2.2.1.size
end
/-- a slice from k on, as the walk writes it -/
theorem Sl.cut {k : IntKind} {w : World} {B n : Nat} {A : Option Addr} {zs : List Int} (h : Sl k w B A n zs) (j : Nat) (hj : j ≤ n) : Sl k w B (Option.map (fun x => x.add j) A) (n - j) (zs.drop j) := by
  refine ⟨by rw [List.length_drop, h.1], ?_⟩
  rcases h.2 with h0 | ⟨b, off, rfl, hlt, hc⟩
  · exact .inl (by omega)
  · by_cases h1 : n - j = 0
    · exact .inl h1
    · refine .inr ⟨b, off + j, by simp [add_lit], hlt, fun i hi => ?_⟩
      rw [Nat.add_assoc, hc (j + i) (by omega), List.getElem?_drop]
theorem Sl.cut0 {k : IntKind} {w : World} {B n : Nat} {A E : Option Addr} {zs : List Int} (h : Sl k w B A n zs) : Sl k w B E 0 (zs.drop n) :=
  ⟨by rw [List.length_drop, h.1]; omega, .inl rfl⟩
theorem Sl.news {k : IntKind} {w : World} {B n : Nat} {ad : Addr} {zs : List Int} (h : Sl k w B (some ad) n zs) : (zs.map (Value.int k)).length = n * 1 ∧ ∀ j u, (zs.map (Value.int k))[j]? = some u → w.cell? (ad.add j) = some u := by
  refine ⟨by simp [h.1], fun j u hu => ?_⟩
  rw [List.getElem?_map] at hu
  rcases Nat.lt_or_ge j zs.length with h1 | h1
  · rw [List.getElem?_eq_getElem h1] at hu
    simp at hu
    subst hu
    obtain ⟨b, off, e, _, hc⟩ := h.at_ (by rw [← h.1]; omega)
    cases e
    rw [add_lit, hc j (by rw [← h.1]; exact h1), List.getElem?_eq_getElem h1]
    rfl
  · rw [List.getElem?_eq_none h1] at hu
    cases hu

/-- digits of the reference that make X -/
def NRes (X : Int) (A : Option Addr) (n c : Nat) (l : List Int) (w : World) : Prop := Sl .i64 w w.heap.size A n l ∧ n ≤ c ∧ c ≤ maxLen ∧ (A = none → c = 0) ∧ Dig 10000 l ∧ Top l ∧ dv 10000 l = X
theorem NRes.below {X : Int} {A : Option Addr} {n c : Nat} {l : List Int} {w w' : World} (h : NRes X A n c l w) (hb : Below w.heap.size w w') : NRes X A n c l w' := ⟨(h.1.below hb).more hb.size, h.2⟩
theorem NRes.off {X : Int} {A : Option Addr} {n c G j : Nat} {l : List Int} {w : World} {u : Value} (h : NRes X A n c l w) (hA : ∀ ad, A = some ad → ad.block ≠ G) : NRes X A n c l (w.setCell ⟨G, j, none⟩ u) := by
  refine ⟨⟨h.1.1, ?_⟩, h.2⟩
  rcases h.1.2 with h0 | ⟨b, off, rfl, hlt, hc⟩
  · exact .inl h0
  · exact .inr ⟨b, off, rfl, by simpa [World.setCell] using hlt, fun i hi => (World.cell?_of_block (w := w) (a := ⟨b, off + i, none⟩) (Below.heap_setCell _ _ _ _ (hA _ rfl))).trans (hc i hi)⟩
theorem NRes.of_normA {X : Int} {B c : Nat} {A : Option Addr} {w w' : World} {e : Ending} (h : NormA B A c X w e w') (hB : B ≤ w.heap.size) (hX : 0 ≤ X) : ∃ n l, e = .returned (.agg #[.bool false, .slice A n c]) ∧ NRes X A n c l w' ∧ Below w.heap.size w w' := by
  obtain ⟨d, k, rfl, ⟨A', n', c', l', e2, h1, h2, h3, h4, h5, h6, h7⟩, hb⟩ := h
  rw [decide_eq_false (by omega)] at e2
  cases e2
  exact ⟨_, l', rfl, ⟨h1.more (Nat.le_trans hB hb.size), h2, h3, h4, h5, h6, by omega⟩, hb⟩
theorem NRes.of_rep {X : Int} {B : Nat} {v : Value} {w : World} (h : RepN w B X v) (hB : B ≤ w.heap.size) (hX : 0 ≤ X) : ∃ A n c l, v = .agg #[.bool false, .slice A n c] ∧ NRes X A n c l w := by
  obtain ⟨A, n, c, l, rfl, h1, h2, h3, h4, h5, h6, h7⟩ := h
  exact ⟨A, n, c, l, by rw [decide_eq_false (by omega)], h1.more hB, h2, h3, h4, h5, h6, by omega⟩
theorem bits_dv {l : List Int} (hd : Dig 10000 l) (hl : l.length ≤ 5000) : Bits 70000 (dv 10000 l) := by
  have h0 := dv_nonneg (show (0 : Int) < 10000 by omega) hd
  have h1 := dv_lt (show (0 : Int) < 10000 by omega) hd
  have h2 : ∀ k : Nat, (10000 : Int) ^ k ≤ 2 ^ (14 * k) := by
    intro k
    induction k with
    | zero => simp
    | succ k ih =>
      have e14 : (2 : Int) ^ 14 = 16384 := by decide
      rw [Nat.mul_succ, Int.pow_succ, Int.pow_add 2 (14 * k) 14, e14]
      have h0 := pow_pos' (show (0 : Int) < 10000 by omega) k
      have h4 : (10000 : Int) ^ k * 10000 ≤ 2 ^ (14 * k) * 10000 := Int.mul_le_mul_of_nonneg_right ih (by omega)
      have h5 : (0 : Int) < 2 ^ (14 * k) := pow_pos' (by omega) _
      omega
  have h3 := h2 l.length
  have h4 : Bits (14 * l.length) (dv 10000 l) := by
    unfold Bits
    generalize (2 : Int) ^ (14 * l.length) = P at *
    generalize (10000 : Int) ^ l.length = Q at *
    omega
  exact h4.mono (by omega)
theorem len_of_lt {l : List Int} {k : Nat} (hd : Dig 10000 l) (ht : Top l) (h : dv 10000 l < 10000 ^ k) : l.length ≤ k := by
  rcases Nat.lt_or_ge k l.length with h1 | h1
  · have h2 := top_ge (show (1 : Int) < 10000 by omega) hd ht (fun e => by rw [e] at h1; simp at h1)
    have h3 := pow_mono' (show (0 : Int) < 10000 by omega) (show k ≤ l.length - 1 by omega)
    omega
  · exact h1
theorem small_len {ys l : List Int} {m : Nat} {d : Int} (hy : Dig 10000 ys) (hm : ys.length = m) (hd : Dig 10000 l) (ht : Top l) (h0 : 0 ≤ d) (h1 : d ≤ 9999) (hv : dv 10000 l = dv 10000 ys * d) : l.length ≤ m + 1 := by
  refine len_of_lt hd ht ?_
  have h2 := dv_lt (show (0 : Int) < 10000 by omega) hy
  have h3 := dv_nonneg (show (0 : Int) < 10000 by omega) hy
  have h4 := Int.mul_le_mul_of_nonneg_left h1 h3
  rw [hv, ← hm, Int.pow_succ]
  omega
theorem cmp_le {b d X q : Int} (hb : 0 < b) (hq : q = X / b) : (cmpI (b * d) X ≤ 0 ↔ d ≤ q) := by
  rw [hq, quo_le hb, Int.mul_comm d b]
  unfold cmpI
  split
  · omega
  · split <;> omega
def DivPost (n : Nat) (x y : Int) (w : World) (e : Ending) (w' : World) : Prop :=
  ∃ A1 n1 c1 L A2 n2 c2 l, e = .returned (.tuple #[.slice A1 n1 c1, .slice A2 n2 c2]) ∧ Sl .i64 w' w'.heap.size A1 n1 L ∧ n1 ≤ c1 ∧ c1 ≤ maxLen ∧ (A1 = none → c1 = 0) ∧ Sl .i64 w' w'.heap.size A2 n2 l ∧ n2 ≤ c2 ∧ c2 ≤ maxLen ∧ (A2 = none → c2 = 0) ∧
    Dig 10000 L ∧ Dig 10000 l ∧ Top l ∧ L.length = n ∧ x = dv 10000 L * y + dv 10000 l ∧ dv 10000 l < y ∧ Below w.heap.size w w'

set_option maxRecDepth 100000 in
set_option maxHeartbeats 8000000 in
theorem divided_any (A E : Option Addr) (n c m f : Nat) (zs ys : List Int) (w : World) (h : Sl .i64 w w.heap.size A n zs) (k : Sl .i64 w w.heap.size E m ys) (hn : n ≤ 5000) (hm : m ≤ 5000) (hz : Dig 10000 zs) (hy : Dig 10000 ys) (ty : Top ys) (hm1 : 1 ≤ m) (hnc : n ≤ c) (hcm : c ≤ maxLen) (hA : A = none → c = 0) (hmf : m ≤ f) (hfm : f ≤ maxLen) (hE : E = none → f = 0) :
    Calls Tryd.prog 83 #[.slice A n c, .slice E m f] w (DivPost n (dv 10000 zs) (dv 10000 ys) w) := by
  obtain ⟨i0, hi, hz0, hz1, hz2⟩ := info_parts int_info
  have HLN := Lib.hid h.len
  have HLM := Lib.hid k.len
  have HH := Lib.hid h
  have HK := Lib.hid k
  have HZ := Lib.hid hz
  have HY := Lib.hid hy
  have TY := Lib.hid ty
  have HA := Lib.hid hA
  have HE := Lib.hid hE
  have HCM := Lib.hid hcm
  have HFM := Lib.hid hfm
  clear h k hz hy ty hA hE hfm
  unfold maxLen at hcm
  obtain ⟨F, hF⟩ : ∃ F : Nat, (n + 1 ≤ m ∧ F = 0) ∨ (m = 1 ∧ F = n) ∨ (m ≤ n ∧ 2 ≤ m ∧ F = n - m + 1) := by
    by_cases h1 : n + 1 ≤ m
    · exact ⟨0, .inl ⟨h1, rfl⟩⟩
    · by_cases h2 : m = 1
      · exact ⟨n, .inr (.inl ⟨h2, rfl⟩)⟩
      · exact ⟨n - m + 1, .inr (.inr ⟨by omega, by omega, rfl⟩)⟩
  have hF1 : F ≤ n := by omega
  have hF2 : n + 1 ≤ F + m := by omega
  have HF := Lib.hid hF
  clear hF
  go_enter Tryd.func83, Tryd.ntmps83
  go_upto_region 2 with (at_make; refine wpList_make_full _ rfl _ _ _ rfl w.heap.size 3 i0 _ 1 Tryd.underlying30 hi hz0 hz1 _ _ _ _ n rfl rfl rfl rfl (by rw [hz2]; omega) (by unfold maxLen; omega) (Nat.le_refl _) ?_; intro w4 hown4 hg4)
  have hB4 : Below w.heap.size w w4 := (Below.refl _ _).grown hg4 (Nat.le_refl _) (fun k hk => by cases hk)
  have HM4 := Lib.hid (show DivM w w.heap.size A n E m zs ys (List.replicate n 0) w4 from ⟨row_made hown4, HH.out.below hB4, HK.out.below hB4, hB4, Nat.le_refl _⟩)
  obtain ⟨G, hG⟩ : ∃ G, G = w.heap.size := ⟨_, rfl⟩
  rw [← hG] at HM4 ⊢
  clear hown4 hg4 hB4 hG HH HK
  go_cut [7] (fun v wx => v = .int .i64 F ∧ wx = w4)
  case first =>
    rcases HF.out with ⟨h1, rfl⟩ | ⟨rfl, rfl⟩ | ⟨h1, h2, h3⟩
    · have t1 : (n : Int) - (m : Int) + 1 ≤ 0 := by omega
      go_wp2
      all_goals first | (exfalso; omega) | (go_meet; case rel => exact ⟨rfl, rfl⟩)
    · go_wp2
      all_goals first | (exfalso; omega) | (go_meet; case rel => exact ⟨by first | rfl | (congr 1; omega), rfl⟩)
    · have t1 : 0 < (n : Int) - (m : Int) + 1 := by omega
      have t2 : (n : Int) - (m : Int) + 1 < (n : Int) := by omega
      go_wp2
      all_goals first | (exfalso; omega) | (go_meet; case rel => exact ⟨by congr 1; omega, rfl⟩)
  case rest =>
    obtain ⟨rfl, rfl⟩ := hcut
    clear HF
    go_upto_region 3 with (fail)
    go_cut [8] (fun p wx => ∃ (g : Nat) (A1 : Option Addr) (n1 c1 : Nat) (l1 : List Int), p = .pointer (some ⟨g, 0, none⟩) ∧ Hid (NRes (dv 10000 (zs.drop F)) A1 n1 c1 l1 wx) ∧ Hid (Blk2 wx g 69 (.bool false) (.slice A1 n1 c1)) ∧ Hid (DivM w G A n E m zs ys (List.replicate n 0) wx))
    case first =>
      by_cases hcF : c = F
      · obtain rfl : n = F := by omega
        subst hcF
        have HC := Lib.hid (normal_any false A 0 0 wc.heap.size (zs.drop c) wc (by have := HM4.out.sl1.cut0 (E := A); exact this) (Nat.le_refl _) (by omega) (by omega) (fun _ => rfl) (HZ.out.drop c))
        go_wp2_with fail
        refine HC.out.mono ?_
        rintro e w5 h5
        obtain ⟨v5, rfl, r5, b5⟩ := h5
        obtain ⟨A5, n5, c5, l5, rfl, s5⟩ := NRes.of_rep r5 b5.size (dv_nonneg (by omega) (HZ.out.drop c))
        have HM5 := Lib.hid (HM4.out.below b5)
        have S5 := Lib.hid s5
        clear s5 r5 b5
        go_wp2_with fail
        go_meet
        case rel => exact ⟨w5.heap.size, A5, n5, c5, l5, rfl, S5.out.below ((Below.refl _ _).alloc (Nat.le_refl _) _), Blk2.new _ _ _ _, HM5.out.below ((Below.refl _ _).alloc (Nat.le_refl _) _)⟩
      · have HC := Lib.hid (normal_any false (Option.map (fun x => x.add F) A) (n - F) (c - F) wc.heap.size (zs.drop F) wc (HM4.out.sl1.cut F hF1) (Nat.le_refl _) (by omega) (by have := HCM.out; omega) (by intro h; have := HA.out (by simpa using h); omega) (HZ.out.drop F))
        go_wp2_with fail
        refine HC.out.mono ?_
        rintro e w5 h5
        obtain ⟨v5, rfl, r5, b5⟩ := h5
        obtain ⟨A5, n5, c5, l5, rfl, s5⟩ := NRes.of_rep r5 b5.size (dv_nonneg (by omega) (HZ.out.drop F))
        have HM5 := Lib.hid (HM4.out.below b5)
        have S5 := Lib.hid s5
        clear s5 r5 b5
        go_wp2_with fail
        go_meet
        case rel => exact ⟨w5.heap.size, A5, n5, c5, l5, rfl, S5.out.below ((Below.refl _ _).alloc (Nat.le_refl _) _), Blk2.new _ _ _ _, HM5.out.below ((Below.refl _ _).alloc (Nat.le_refl _) _)⟩
    case rest =>
      obtain ⟨g, A1, n1, c1, l1, rfl, HN1, HK1, HM1⟩ := hcut
      have k0 := HK1.out.c1
      have HI0 := Lib.hid (DivI.start HZ.out HY.out TY.out HLN.out HLM.out hm1 hF1 hF2 HN1.out.2.2.2.2.1 HN1.out.2.2.2.2.2.1 HN1.out.2.2.2.2.2.2)
      go_wp2_with fail
      clear k0
      go_loopw [9, 10] (fun rv iv wr => ∃ (i : Nat) (L : List Int) (A1 : Option Addr) (n1 c1 : Nat) (l1 : List Int), i ≤ F ∧ iv = .int .i64 ((i : Int) - 1) ∧ rv = .slice A1 n1 c1 ∧ Hid (DivI n zs ys i L l1) ∧ Hid (NRes (dv 10000 l1) A1 n1 c1 l1 wr) ∧ Hid (DivM w G A n E m zs ys L wr)) (fun _ iv _ => (intOf iv + 1).toNat)
      case atStart => exact ⟨F, List.replicate n 0, A1, n1, c1, l1, Nat.le_refl _, rfl, rfl, HI0.out, ⟨HN1.out.1, HN1.out.2.1, HN1.out.2.2.1, HN1.out.2.2.2.1, HN1.out.2.2.2.2.1, HN1.out.2.2.2.2.2.1, rfl⟩, HM1.out⟩
      case round =>
        clear HI0 HN1 HK1 HM1 HM4
        obtain ⟨i, L, A1, n1, c1, l1, hiF, rfl, rfl, HI, HN, HM⟩ := hrel
        rcases Nat.eq_zero_or_pos i with rfl | hi0
        · have HP := Lib.hid (show DivPost n (dv 10000 zs) (dv 10000 ys) w (.returned (.tuple #[.slice (some ⟨G, 0, none⟩) n n, .slice A1 n1 c1])) wr from by
            have e := HI.out.2.2.2.2.2.2
            rw [List.drop_zero, List.drop_zero] at e
            have hL := HI.out.1
            have hs := HM.out.1.sl 0 n wr.heap.size (by omega) HM.out.1.lt
            rw [List.drop_zero, List.take_of_length_le (by omega)] at hs
            exact ⟨_, n, n, L, A1, n1, c1, l1, rfl, hs, Nat.le_refl _, by unfold maxLen; omega, (by intro h; cases h), HN.out.1, HN.out.2.1, HN.out.2.2.1, HN.out.2.2.2.1, HI.out.2.1, HI.out.2.2.2.1, HI.out.2.2.2.2.1, hL, e, HI.out.2.2.2.2.2.1, HM.out.2.2.2.1⟩)
          go_wp2_with fail
          go_ret2
          exact HP.out
        · obtain ⟨j, rfl⟩ : ∃ j, i = j + 1 := ⟨i - 1, by omega⟩
          rw [show (((j + 1 : Nat) : Int) - 1) = (j : Int) by omega]
          have hjn : j < n := by omega
          obtain ⟨ba, oa, rfl, hba, hca⟩ := HM.out.sl1.at_ (by omega)
          have ca := hca j hjn
          clear hca
          obtain ⟨hx0, hx1⟩ := HI.out.bd HZ.out
          obtain ⟨d, hd⟩ : ∃ d, d = zs[j]?.getD 0 := ⟨_, rfl⟩
          rw [← hd] at ca hx0 hx1
          have HD := Lib.hid hd
          have hd2 := HZ.out.get (show (0 : Int) < 10000 by omega) j
          rw [← hd] at hd2
          obtain ⟨hd0, hd1⟩ := hd2
          have HX0 := Lib.hid hx0
          have HX1 := Lib.hid hx1
          have hn1m : n1 ≤ m := by
            rcases Nat.lt_or_ge m n1 with h1 | h1
            · have h2 := len_lt (show (1 : Int) < 10000 by omega) HY.out HI.out.2.2.2.1 HI.out.2.2.2.2.1 (by rw [HN.out.1.len, HLM.out]; exact h1)
              have h3 := HI.out.2.2.2.2.2.1
              omega
            · exact h1
          clear hd hx0 hx1
          go_upto_region 8 with (fail)
          go_cut [11] (fun p wx => ∃ (g : Nat) (A2 : Option Addr) (n2 c2 : Nat) (l2 : List Int), p = .pointer (some ⟨g, 0, none⟩) ∧ Hid (NRes (d + 10000 * dv 10000 l1) A2 n2 c2 l2 wx) ∧ Hid (Blk2 wx g 69 (.bool false) (.slice A2 n2 c2)) ∧ Hid (DivM w G (some ⟨ba, oa, none⟩) n E m zs ys L wx))
          case first =>
            have hal : Below wr.heap.size wr (wr.alloc (.cells #[.int .i64 d] 3)) := (Below.refl _ _).alloc (Nat.le_refl _) _
            have HMA := Lib.hid (HM.out.below hal)
            have HNA := Lib.hid (HN.out.below hal)
            clear hal
            cases A1 with
            | none =>
              have h0 := HN.out.2.2.2.1 rfl
              subst h0
              obtain rfl : n1 = 0 := by have := HN.out.2.1; omega
              have hl0 : l1 = [] := List.eq_nil_of_length_eq_zero HN.out.1.len
              have HVX : Hid (dv 10000 [d] = d + 10000 * dv 10000 l1) := by show dv 10000 [d] = d + 10000 * dv 10000 l1; rw [hl0]; simp [dv]
              have HMC := HMA
              have HC := Lib.hid (normal_any false (some ⟨wr.heap.size, 0, none⟩) 1 1 (wr.alloc (.cells #[.int .i64 d] 3)).heap.size [d] _ (one_cell .i64 wr 3 d) (Nat.le_refl _) (Nat.le_refl _) (by unfold maxLen; omega) (by intro h; cases h) (Dig.cons ⟨hd0, hd1⟩ Dig.nil))
              clear hl0
              go_wp2_with fail
              refine HC.out.mono ?_
              rintro e w5 h5
              obtain ⟨v5, rfl, r5, b5⟩ := h5
              obtain ⟨A5, n5, c5, l5, rfl, s5⟩ := NRes.of_rep r5 b5.size (by rw [HVX.out]; exact HX0.out)
              rw [HVX.out] at s5
              have HM5 := Lib.hid (HMC.out.below b5)
              have S5 := Lib.hid s5
              clear s5 r5 b5
              go_wp2_with fail
              go_meet
              case rel => exact ⟨w5.heap.size, A5, n5, c5, l5, rfl, S5.out.below ((Below.refl _ _).alloc (Nat.le_refl _) _), Blk2.new _ _ _ _, HM5.out.below ((Below.refl _ _).alloc (Nat.le_refl _) _)⟩
            | some ad =>
              have hnews := HNA.out.1.news
              obtain ⟨hnews1, hnews2⟩ := hnews
              have HW1 := Lib.hid hnews1
              have HW2 := Lib.hid hnews2
              have HVX : Hid (dv 10000 (d :: l1) = d + 10000 * dv 10000 l1) := rfl
              have HOW := Lib.hid (show (wr.alloc (.cells #[.int .i64 d] 3)).ownsRow wr.heap.size 3 1 (.slice (some ⟨wr.heap.size, 0, none⟩) 1 1) 1 [.int .i64 d] from World.ownsRow_lit wr #[.int .i64 d] 1 (Nat.le_refl _) (by unfold maxLen; omega) rfl)
              clear hnews1 hnews2
              go_wp2_with (at_builtin; refine wpList_append_own _ rfl _ _ _ rfl wr.heap.size 3 i0 _ 1 8 Tryd.underlying30 hi hz0 hz1 hz2 rfl (by omega) _ 1 [.int .i64 d] rfl HOW.out ad n1 c1 (l1.map (Value.int .i64)) rfl HW1.out HW2.out (ints_oneCell _ _) (by unfold maxLen; omega) (by omega) (by simp) ?_; intro v4 w4 hown4 hg4 hnil4)
              have hg4' : Below wr.heap.size wr w4 := ((Below.refl _ _).alloc (Nat.le_refl _) _).grown hg4 (by simp) (fun k hk => Nat.le_of_eq (Option.some.inj hk))
              obtain ⟨A4, c4, rfl, s1, s2, s3, s4⟩ := own_parts (k := .i64) (zs := d :: l1) (by exact hown4)
              have HMC := Lib.hid (HM.out.below hg4')
              have HC := Lib.hid (normal_any false A4 (1 + n1) c4 w4.heap.size (d :: l1) w4 s3 (Nat.le_refl _) s1 s2 s4 (Dig.cons ⟨hd0, hd1⟩ HI.out.2.2.2.1))
              clear hown4 hg4 hg4' hnil4 s1 s2 s3 s4
              go_wp2_with fail
              refine HC.out.mono ?_
              rintro e w5 h5
              obtain ⟨v5, rfl, r5, b5⟩ := h5
              obtain ⟨A5, n5, c5, l5, rfl, s5⟩ := NRes.of_rep r5 b5.size (by rw [HVX.out]; exact HX0.out)
              rw [HVX.out] at s5
              have HM5 := Lib.hid (HMC.out.below b5)
              have S5 := Lib.hid s5
              clear s5 r5 b5
              go_wp2_with fail
              go_meet
              case rel => exact ⟨w5.heap.size, A5, n5, c5, l5, rfl, S5.out.below ((Below.refl _ _).alloc (Nat.le_refl _) _), Blk2.new _ _ _ _, HM5.out.below ((Below.refl _ _).alloc (Nat.le_refl _) _)⟩
          case rest =>
            clear HN HM
            obtain ⟨g2, A2, n2, c2, l2, rfl, HN, HK2, HM⟩ := hcut
            have k2 := HK2.out.c1
            have hn2m : n2 ≤ m + 1 := by
              rcases Nat.lt_or_ge (m + 1) n2 with h1 | h1
              · have h2 := len_lt (show (1 : Int) < 10000 by omega) (Dig.cons (B := 10000) (d := 0) (t := ys) (by omega) HY.out) HN.out.2.2.2.2.1 HN.out.2.2.2.2.2.1 (by rw [List.length_cons, HN.out.1.len, HLM.out]; exact h1)
                rw [HN.out.2.2.2.2.2.2, dv] at h2
                have := HX1.out
                omega
              · exact h1
            have HDG := Lib.hid (digit_any A2 E n2 c2 m f l2 ys wc HN.out.1 HM.out.sl2 hn2m (by omega) hm1 HN.out.2.2.2.2.1 HY.out TY.out (by rw [HN.out.2.2.2.2.2.2]; exact HX1.out))
            rw [HN.out.2.2.2.2.2.2] at HDG
            obtain ⟨q, hq⟩ : ∃ q, q = (d + 10000 * dv 10000 l1) / dv 10000 ys := ⟨_, rfl⟩
            rw [← hq] at HDG
            have HQ := Lib.hid hq
            clear hq
            go_wp2_with fail
            refine HDG.out.mono ?_
            rintro e w6 h6
            obtain ⟨lo0, hi0, rfl, ha, hb, hc, hd, kk, rfl⟩ := h6
            clear k2
            have HN6 := Lib.hid (show NRes (d + 10000 * dv 10000 l1) A2 n2 c2 l2 (wc.drewN kk) from HN.out)
            have HM6 := Lib.hid (show DivM w G (some ⟨ba, oa, none⟩) n E m zs ys L (wc.drewN kk) from HM.out.below (below_drewN (Below.refl _ _) kk))
            obtain ⟨W6, hW6⟩ : ∃ W6, W6 = wc.drewN kk := ⟨_, rfl⟩
            rw [← hW6] at HN6 HM6 ⊢
            clear hW6 HN HM HK2 HDG
            have hbp : 0 < dv 10000 ys := by have h1 := HX0.out; have h2 := HX1.out; omega
            obtain ⟨X, hX⟩ : ∃ X, X = d + 10000 * dv 10000 l1 := ⟨_, rfl⟩
            rw [← hX] at HQ HN6 HX0 HX1
            have HXX := Lib.hid hX
            obtain ⟨b, hb0⟩ : ∃ b, b = dv 10000 ys := ⟨_, rfl⟩
            rw [← hb0] at HQ HX1 hbp
            have HBY := Lib.hid hb0
            have HLE := Lib.hid (fun (dd : Int) => cmp_le (d := dd) hbp HQ.out)
            clear hX hb0 hbp
            go_wp2_with fail
            go_loopw [12, 13] (fun lv hv wi => ∃ lo hi : Int, lv = .int .i64 lo ∧ hv = .int .i64 hi ∧ 0 ≤ lo ∧ lo ≤ q ∧ q ≤ hi ∧ hi ≤ 9999 ∧ Hid (NRes X A2 n2 c2 l2 wi) ∧ Hid (DivM w G (some ⟨ba, oa, none⟩) n E m zs ys L wi)) (fun lv hv _ => (intOf hv - intOf lv).toNat)
            case atStart => exact ⟨lo0, hi0, rfl, rfl, ha, hb, hc, hd, HN6, HM6⟩
            case round =>
              clear HN6 HM6 ha hb hc hd
              rename World => wi
              obtain ⟨lo, hi', rfl, rfl, ha, hb, hc, hd, HN, HM⟩ := hrel
              by_cases hlt : lo < hi'
              · obtain ⟨mid, hmid⟩ : ∃ mid, mid = (lo + hi' + 1) / 2 := ⟨_, rfl⟩
                have hm0 : lo < mid := by omega
                have hm1' : mid ≤ hi' := by omega
                have htd : (lo + hi' + 1).tdiv 2 = mid := by rw [Int.tdiv_eq_ediv_of_nonneg (by omega)]; exact hmid.symm
                have hed : (lo + hi' + 1) / 2 = mid := hmid.symm
                have HS := Lib.hid (small_any E m f mid ys wi HM.out.sl2 hmf HFM.out HE.out HY.out TY.out ((bits_dv HY.out (by rw [HLM.out]; exact hm)).mono (by omega)) (by omega) (by omega))
                clear hmid
                go_wp2_with fail
                refine HS.out.mono ?_
                rintro e w7 h7
                obtain ⟨A3, n3, c3, l3, rfl, s3, t1, t2, t3, b3, t4, t5, t6⟩ := h7
                have hn3 : n3 ≤ m + 1 := by have h1 := small_len HY.out HLM.out t4 t5 (by omega) (by omega) t6; rw [s3.len] at h1; exact h1
                have HN7 := Lib.hid (HN.out.below b3)
                have HM7 := Lib.hid (HM.out.below b3)
                have HC := Lib.hid (compared_any A3 A2 n3 c3 n2 c2 l3 l2 w7 s3 HN7.out.1 (by omega) (by omega) t4 HN7.out.2.2.2.2.1 t5 HN7.out.2.2.2.2.2.1)
                rw [t6, HN7.out.2.2.2.2.2.2, ← HBY.out] at HC
                have HLC := Lib.hid (HLE.out mid)
                obtain ⟨C, hC⟩ : ∃ C, C = cmpI (b * mid) X := ⟨_, rfl⟩
                rw [← hC] at HC HLC
                clear hC s3 t1 t2 t3 b3 t4 t5 t6 hed htd HS HN HM
                go_wp2_with fail
                refine HC.out.mono ?_
                rintro e w8 h8
                obtain ⟨rfl, k8, rfl⟩ := h8
                have HN8 := Lib.hid (show NRes X A2 n2 c2 l2 (w7.drewN k8) from HN7.out)
                have HM8 := Lib.hid (show DivM w G (some ⟨ba, oa, none⟩) n E m zs ys L (w7.drewN k8) from HM7.out.below (below_drewN (Below.refl _ _) k8))
                by_cases hq : mid ≤ q
                · have hC : C ≤ 0 := HLC.out.2 hq
                  go_wp2_with fail
                  exact ⟨⟨mid, hi', rfl, rfl, by omega, by omega, by omega, by omega, HN8.out, HM8.out⟩, by simp [intOf]; omega⟩
                · have hC : ¬ C ≤ 0 := fun h => hq (HLC.out.1 h)
                  go_wp2_with fail
                  exact ⟨⟨lo, mid - 1, rfl, rfl, by omega, by omega, by omega, by omega, HN8.out, HM8.out⟩, by simp [intOf]; omega⟩
              · obtain rfl : lo = q := by omega
                have HS := Lib.hid (small_any E m f lo ys wi HM.out.sl2 hmf HFM.out HE.out HY.out TY.out ((bits_dv HY.out (by rw [HLM.out]; exact hm)).mono (by omega)) (by omega) (by omega))
                go_wp2_with fail
                refine HS.out.mono ?_
                rintro e w7 h7
                obtain ⟨A3, n3, c3, l3, rfl, s3, t1, t2, t3, b3, t4, t5, t6⟩ := h7
                have HN7 := Lib.hid (HN.out.below b3)
                have HM7 := Lib.hid (HM.out.below b3)
                have hle : dv 10000 l3 ≤ X := by
                  have h1 := (HLE.out lo).2 (Int.le_refl _)
                  rw [t6, ← HBY.out]
                  unfold cmpI at h1
                  split at h1
                  · omega
                  · split at h1 <;> omega
                have hn32 : n3 ≤ n2 := by
                  rcases Nat.lt_or_ge n2 n3 with h1 | h1
                  · have h2 := len_lt (show (1 : Int) < 10000 by omega) HN7.out.2.2.2.2.1 t4 t5 (by rw [HN7.out.1.len, s3.len]; exact h1)
                    rw [HN7.out.2.2.2.2.2.2] at h2
                    omega
                  · exact h1
                have HC := Lib.hid (minus_any A2 A3 n2 c2 n3 c3 l2 l3 w7 HN7.out.1 s3 hn32 (by omega) HN7.out.2.2.2.2.1 t4 (by rw [HN7.out.2.2.2.2.2.2]; exact hle))
                rw [t6, HN7.out.2.2.2.2.2.2, ← HBY.out] at HC
                clear s3 t1 t2 t3 b3 t4 t5 t6 hle HS HN HM
                go_wp2_with fail
                refine (HC.out.mono (fun _ _ h => NewD.of_own h)).mono ?_
                rintro e w8 ⟨A4, c4, l4, rfl, s4, t1, t2, t3, b4, t4, t5, t6, t7⟩
                have hGlt := HM7.out.1.lt
                have hne : ∀ ad, A4 = some ad → ad.block ≠ G := fun ad h => by have := t7 ad h; omega
                have HNE := Lib.hid hne
                have HN8 := Lib.hid (HN7.out.below b4)
                have HM8 := Lib.hid (HM7.out.below b4)
                have HD8 := Lib.hid (normal_at false A4 l4.length c4 w8.heap.size l4 w8 s4 (Nat.le_refl _) t1 t2 t3 t4)
                rw [t5] at HD8
                have hy0 : 0 ≤ X - b * lo := by rw [← t5]; exact dv_nonneg (by omega) t4
                clear s4 t1 t2 t3 b4 t4 t5 t6 t7 HN7 HM7 HC hGlt hne
                go_wp2_with fail
                refine HD8.out.mono ?_
                rintro e w9 h9
                obtain ⟨n9, l9, rfl, s9, b9⟩ := NRes.of_normA h9 (Nat.le_refl _) hy0
                have hal : Below w9.heap.size w9 (w9.alloc (.cells #[.bool false, .slice A4 n9 c4] 69)) := (Below.refl _ _).alloc (Nat.le_refl _) _
                have HM9 := Lib.hid ((HM8.out.below b9).below hal)
                have hGlt := (HM8.out.below b9).1.lt
                have hk9 := Blk2.new w9 69 (.bool false) (.slice A4 n9 c4)
                have hLn := HI.out.1
                have hG9 := HM9.out.1.free j
                have hGc := HM9.out.1.cell j (by omega)
                have HM10 := Lib.hid (HM9.out.set_ (j := j) (by omega) lo)
                have HN10 := Lib.hid ((s9.below hal).off (j := j) (u := .int .i64 lo) HNE.out)
                have hk10 : Blk2 ((w9.alloc (.cells #[.bool false, .slice A4 n9 c4] 69)).setCell ⟨G, j, none⟩ (.int .i64 lo)) w9.heap.size 69 (.bool false) (.slice A4 n9 c4) := (Below.heap_setCell _ ⟨G, j, none⟩ _ w9.heap.size (by show w9.heap.size ≠ G; omega)).trans hk9
                have hc10 := hk10.c1
                have HIS := Lib.hid (HI.out.step (q := lo) HZ.out HLN.out hjn (by rw [← HD.out, ← HXX.out, ← HBY.out]; exact HQ.out) s9.2.2.2.2.1 s9.2.2.2.2.2.1 (by rw [s9.2.2.2.2.2.2, ← HD.out, ← HXX.out, ← HBY.out]; rfl))
                have HNX := Lib.hid (show NRes (dv 10000 l9) A4 n9 c4 l9 _ from ⟨HN10.out.1, HN10.out.2.1, HN10.out.2.2.1, HN10.out.2.2.2.1, HN10.out.2.2.2.2.1, HN10.out.2.2.2.2.2.1, rfl⟩)
                clear h9 b9 s9 hal hLn hGlt HD8 HN8 HM8 hk9 hk10
                go_wp2_with fail
                exact ⟨⟨j, L.set j lo, A4, n9, c4, l9, by omega, by go_num, rfl, HIS.out, HNX.out, HM10.out⟩, by simp [intOf]⟩
end Go.Proofs.YtgfhniiidejmoaaDoor
