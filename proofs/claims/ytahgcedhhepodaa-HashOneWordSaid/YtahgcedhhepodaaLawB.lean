/- The laws HashOneWord, HashOneGroup, HashOneLabel, HashGroups: their walks. -/
import Derived.Test.YtahgcedhhepodaaLawA
import Derived.Test.YtahgcedhhepodaaRow
import Derived.Deep.RegionHeld3
namespace Go.Proofs.Ytahgcedhhepodaa
open Go.RowKit
set_option linter.unusedVariables false

/-- what is kept over a region that draws its order: two slices, and all that lay before -/
def TwoSl (k : IntKind) (w0 : World) (A B : Option Addr) (n m : Nat) (xs ys : List Int) (w : World) : Prop :=
  Sl k w w.heap.size A n xs ∧ Sl k w w.heap.size B m ys ∧ Below w0.heap.size w0 w
theorem TwoSl.drew {k : IntKind} {w0 : World} {A B : Option Addr} {n m : Nat} {xs ys : List Int} {w : World} (h : TwoSl k w0 A B n m xs ys w) : TwoSl k w0 A B n m xs ys w.drew :=
  ⟨h.1, h.2.1, h.2.2.drew⟩
theorem TwoSl.below {k : IntKind} {w0 : World} {A B : Option Addr} {n m : Nat} {xs ys : List Int} {w w' : World} (h : TwoSl k w0 A B n m xs ys w) (hb : Below w.heap.size w w') : TwoSl k w0 A B n m xs ys w' :=
  ⟨(h.1.below hb).more hb.size, (h.2.1.below hb).more hb.size, h.2.2.trans (hb.mono h.2.2.size)⟩
theorem cell_lt {w : World} {b o : Nat} {v : Value} (h : w.cell? ⟨b, o, none⟩ = some v) : b < w.heap.size := by
  rcases Nat.lt_or_ge b w.heap.size with hlt | hge
  · exact hlt
  · simp [World.cell?, Array.getElem?_eq_none hge] at h
theorem cell_below {w w' : World} {b o : Nat} {v : Value} (h : w.cell? ⟨b, o, none⟩ = some v) (hb : Below w.heap.size w w') : w'.cell? ⟨b, o, none⟩ = some v :=
  (hb.cell (p := ⟨b, o, none⟩) (cell_lt h)).trans h

theorem held_c {a : Addr} {v : Value} {w : World} {P : Prop} (h : w.cell? a = some v ∧ P) : w.cell? a = some v := h.1
theorem held_t {P : Prop} {k : IntKind} {w0 : World} {A B : Option Addr} {n m : Nat} {xs ys : List Int} {w : World} (h : P ∧ TwoSl k w0 A B n m xs ys w) : TwoSl k w0 A B n m xs ys w := h.2
theorem held_1 {P : Prop} {k : IntKind} {w0 : World} {A B : Option Addr} {n m : Nat} {xs ys : List Int} {w : World} (h : P ∧ TwoSl k w0 A B n m xs ys w) : Sl k w w.heap.size A n xs := h.2.1
theorem held_2 {P : Prop} {k : IntKind} {w0 : World} {A B : Option Addr} {n m : Nat} {xs ys : List Int} {w : World} (h : P ∧ TwoSl k w0 A B n m xs ys w) : Sl k w w.heap.size B m ys := h.2.2.1

set_option maxHeartbeats 1000000 in
theorem hashOneWord_law (s : ByteArray) (A : Option Addr) (n c : Nat) (zs : List Int) (at_ v : Int) (w : World) (hs : s.size ≤ maxLen) (hn : n ≤ c) (hc : c ≤ maxLen) (h : Sl .i64 w w.heap.size A n zs) (hA : A = none → n = 0 ∧ c = 0)
    (hz : ∀ x ∈ zs, -9223372036854775808 ≤ x ∧ x ≤ 9223372036854775807) (hat : -9223372036854775808 ≤ at_ ∧ at_ ≤ 9223372036854775807) (hv : -9223372036854775808 ≤ v ∧ v ≤ 9223372036854775807) :
    Calls Try.prog 5 #[.string s, .slice A n c, .int .i64 at_, .int .i64 v] w fun e w' => e = .returned (.bool true) ∧ Below w.heap.size w w' := by
  have HS := Lib.hid h
  have HZ := Lib.hid hz
  have HV := Lib.hid hv
  have HLEN := Lib.hid h.len
  clear h hz hv
  have hss := shortB_size s 20
  obtain ⟨i0, hi, hz0, hz1, hz2⟩ := info_parts int_info
  go_enter Try.func5, Try.ntmps5
  go_wp2_with fail
  refine (short_any s 20 _ hs).mono ?_
  rintro e w' ⟨rfl, rfl⟩
  obtain ⟨t, ht⟩ : ∃ t, t = shortB s 20 := ⟨_, rfl⟩
  rw [← ht] at hss ⊢
  clear ht
  go_wp2_with fail
  refine (ints_any A n c 9 zs _ (by omega) hn hc HS.out hA).mono ?_
  rintro e w1 ⟨v1, rfl, hown, hb1⟩
  obtain ⟨k, hk⟩ : ∃ k, k = min n 9 := ⟨_, rfl⟩
  have hk9 : k ≤ 9 := by omega
  rw [← hk] at hown
  have HK := Lib.hid hk
  have HB1 := Lib.hid hb1
  clear hk hb1
  have e1 : (zs.take 9).map (Value.int .i64) ++ [Value.int .i64 7] = (zs.take 9 ++ [7]).map (Value.int .i64) := by rw [List.map_append]; rfl
  have E1 := Lib.hid e1
  clear e1
  go_wp2_with (at_builtin; refine wpList_append_own _ rfl _ _ _ rfl w.heap.size 3 i0 _ 1 8 Try.underlying22 hi hz0 hz1 hz2 rfl (by omega) _ k ((zs.take 9).map (Value.int .i64)) rfl (hown.alloc _) ⟨w1.heap.size, 0, none⟩ 1 1 [Value.int .i64 7] rfl rfl (cell_one_new _ _ _) (by simp [Value.oneCell']) (by unfold maxLen; omega) (by omega) (by have := HB1.out.size; simp; omega) ?_; intro v2 w2 hown2 hg2 hnil2; rw [E1.out] at hown2; have HB2 := Lib.hid ((HB1.out.alloc HB1.out.size _).trans (below_of_grown hg2 (by have := HB1.out.size; simp; omega) (fun g hg' => (hown.lt g hg').1))); obtain ⟨A2, c2, rfl, hn2, hc2, hsl2⟩ := Sl.of_own hown2; have S2 := Lib.hid hsl2; have hA2 : A2 = none → k + 1 = 0 ∧ c2 = 0 := (by intro hA2; obtain ⟨b, off, hb, _⟩ := hsl2.at_ (by omega); rw [hA2] at hb; cases hb); clear hown hown2 hg2 hnil2 hsl2)
  obtain ⟨xs, hxs⟩ : ∃ xs, xs = zs.take 9 ++ [7] := ⟨_, rfl⟩
  rw [← hxs] at S2
  have hxl : xs.length = k + 1 := S2.out.len
  have hxb : ∀ x ∈ xs, -9223372036854775808 ≤ x ∧ x ≤ 9223372036854775807 := by
    intro x hx
    rw [hxs] at hx
    rcases List.mem_append.1 hx with h | h
    · exact HZ.out x (List.mem_of_mem_take h)
    · have : x = 7 := by simpa using h
      omega
  have HXL := Lib.hid hxl
  have HXB := Lib.hid hxb
  clear hxs hxl hxb
  refine (ints_any A2 (k + 1) c2 10 xs _ (by omega) hn2 hc2 S2.out hA2).mono ?_
  rintro e w3 ⟨v3, rfl, hown3, hb3⟩
  rw [List.take_of_length_le (by rw [HXL.out]; omega), show min (k + 1) 10 = k + 1 from by omega] at hown3
  obtain ⟨g3, c3, rfl, hg3, hg3'⟩ := own_slice hown3 (by omega)
  have H3 := Lib.hid hown3
  have HB3 := Lib.hid (HB2.out.trans (hb3.mono HB2.out.size))
  have S23 := Lib.hid (S2.out.below hb3)
  clear hown3 hb3
  go_wp2_with fail
  refine (around_any at_ _ _ hat.1 hat.2 (by omega) (by omega)).mono ?_
  rintro e w' ⟨rfl, rfl⟩
  obtain ⟨q, hq, hq1⟩ : ∃ q : Nat, aroundI at_ ((k : Int) + 1) = (q : Int) ∧ q < k + 1 := by
    have := aroundI_bd at_ ((k : Int) + 1) (by omega)
    exact ⟨(aroundI at_ ((k : Int) + 1)).toNat, by omega, by omega⟩
  rw [hq]
  clear hq
  have hcell : w3.cell? ⟨g3, q, none⟩ = some (.int .i64 (xs[q]?.getD 0)) := by
    rw [H3.out.cellAt q (by omega), List.getElem?_map, List.getElem?_eq_getElem (by rw [HXL.out]; omega)]; rfl
  have hfz : w3.frozen? ⟨g3, q, none⟩ = false := H3.out.frozenAt q
  go_wp2_with fail
  have hst := H3.out.stored q (.int .i64 v)
  rw [← List.map_set] at hst
  obtain ⟨A4, c4, hv4, _, _, hsl4⟩ := Sl.of_own hst.1
  cases hv4
  obtain ⟨b2, o2, hA2e, hb2lt, hc2c⟩ := S2.out.at_ (by omega)
  subst hA2e
  have hbw : Below w2.heap.size w3 (w3.setCell ⟨g3, q, none⟩ (.int .i64 v)) := (Below.refl _ w3).setCell (p := ⟨g3, q, none⟩) hg3 _
  have hT0 : TwoSl .i64 w (some ⟨b2, o2, none⟩) (some ⟨g3, 0, none⟩) (k + 1) (k + 1) xs (xs.set q v) (w3.setCell ⟨g3, q, none⟩ (.int .i64 v)) :=
    ⟨(S23.out.below hbw).more (by have := S23.out; have := hbw.size; omega), hsl4, HB3.out.trans (hbw.mono HB2.out.size)⟩
  have hld0 : w3.cell? ⟨b2, o2 + q, none⟩ = some (.int .i64 (xs[q]?.getD 0)) := (S23.out.at_ (by omega)).elim (fun b h => by obtain ⟨o, h1, _, h3⟩ := h; cases h1; exact h3 q hq1)
  have hld : (w3.setCell ⟨g3, q, none⟩ (.int .i64 v)).cell? ⟨b2, o2 + q, none⟩ = some (.int .i64 (xs[q]?.getD 0)) := (hbw.cell (p := ⟨b2, o2 + q, none⟩) hb2lt).trans hld0
  have hdec : ∃ b : Bool, (sumI (sB t) xs == sumI (sB t) (xs.set q v)) = b ∧ (xs[q]?.getD 0 == v) = b := by
    have hiff := sumI_set (sB t) xs q (by rw [HXL.out]; omega) v HXB.out HV.out
    by_cases he : xs[q]?.getD 0 = v
    · exact ⟨true, by simpa using hiff.2 he, by simpa using he⟩
    · refine ⟨false, ?_, by simpa using he⟩
      simp only [beq_eq_false_iff_ne]; exact fun e => he (hiff.1 e)
  obtain ⟨W, hW⟩ : ∃ W, W = w3.setCell ⟨g3, q, none⟩ (.int .i64 v) := ⟨_, rfl⟩
  rw [← hW] at hT0 hld ⊢
  clear hst hsl4 hbw hW hld0 hcell hfz hc2c
  obtain ⟨bb, hd1, hd2⟩ := hdec
  obtain ⟨V1, hV1⟩ : ∃ V, V = sumI (sB t) xs := ⟨_, rfl⟩
  obtain ⟨ys, hys⟩ : ∃ ys, ys = xs.set q v := ⟨_, rfl⟩
  rw [← hys] at hT0 hd1
  clear hys hV1
  have hq0 : (0 : Int) ≤ (q : Int) := Int.natCast_nonneg _
  have hq2 : (q : Int) < (k : Int) + 1 := by omega
  cases bb <;>
  · go_region_held3 (fun w' => w'.cell? ⟨b2, o2 + q, none⟩ = some (.int .i64 (xs[q]?.getD 0)) ∧ TwoSl .i64 w (some ⟨b2, o2, none⟩) (some ⟨g3, 0, none⟩) (k + 1) (k + 1) xs ys w')
      (exact ⟨by first | assumption | (simp only [World.cell?_drew]; assumption), by first | assumption | (exact TwoSl.drew (by assumption))⟩)
      (first
        | (go_at_call 13; refine (hash_sum t _ (k + 1) _ _ _ (by omega) (by omega) (by first | exact held_1 (by assumption) | exact held_2 (by assumption))).mono ?_
           rintro e wn ⟨rfl, hbn⟩
           have hcn := cell_below (held_c (by assumption)) hbn
           have htn := (held_t (by assumption)).below hbn)
        | (go_at_call 15; refine (lives_any _).mono ?_
           rintro e wn ⟨rfl, hbn⟩
           have hcn := cell_below (held_c (by assumption)) hbn
           have htn := (held_t (by assumption)).below hbn))
    go_wp2
    go_ret
    exact ⟨rfl, (held_t (by assumption)).2.2⟩
end Go.Proofs.Ytahgcedhhepodaa
