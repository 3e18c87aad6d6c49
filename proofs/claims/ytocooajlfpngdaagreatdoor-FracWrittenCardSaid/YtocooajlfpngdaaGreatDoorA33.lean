/- Contracts of package frac: Compare. -/
import Derived.Test.YtocooajlfpngdaaGreatDoorA32
import Derived.BigRegion
import Derived.Deep.LoopGhost
namespace Go.Proofs.YtocooajlfpngdaaGreatDoor
open Go.RowKit
set_option linter.unusedVariables false

def cmp_reg1_ops : Array Oper := #[
  { dst := some 17, op := .fieldAddr 36 (.tmp 2) 0, type := 0, pos := "frac.go:106", after := #[], guard := none },
  { dst := some 18, op := .load 34 (.tmp 17), type := 34, pos := "frac.go:106", after := #[⟨0, .data⟩], guard := none },
  { dst := some 19, op := .load 36 (.tmp 2), type := 36, pos := "frac.go:106", after := #[], guard := none },
  { dst := some 20, op := .call { callee := .value (.func 48), args := #[.tmp 19], argTypes := #[36] }, type := 34, pos := "frac.go:106", after := #[⟨2, .data⟩], guard := none },
  { dst := some 21, op := .fieldAddr 36 (.tmp 3) 0, type := 0, pos := "frac.go:106", after := #[⟨13, .gcOnly .lateStores⟩], guard := none },
  { dst := some 22, op := .load 34 (.tmp 21), type := 34, pos := "frac.go:106", after := #[⟨4, .data⟩, ⟨13, .gcOnly .lateStores⟩], guard := none },
  { dst := some 23, op := .load 36 (.tmp 3), type := 36, pos := "frac.go:106", after := #[], guard := none },
  { dst := some 24, op := .call { callee := .value (.func 48), args := #[.tmp 23], argTypes := #[36] }, type := 34, pos := "frac.go:106", after := #[⟨6, .data⟩, ⟨3, .chain⟩], guard := none },
  { dst := some 5, op := .alloc 34, type := 0, pos := "frac.go:106", after := #[], guard := none },
  { dst := some 6, op := .alloc 34, type := 0, pos := "frac.go:106", after := #[], guard := none },
  { dst := some 7, op := .alloc 34, type := 0, pos := "frac.go:106", after := #[], guard := none },
  { dst := some 8, op := .alloc 34, type := 0, pos := "frac.go:106", after := #[], guard := none },
  { dst := none, op := .store 34 (.tmp 5) (.tmp 18), type := 0, pos := "frac.go:106", after := #[⟨8, .data⟩, ⟨1, .data⟩, ⟨7, .chain⟩, ⟨0, .phase⟩, ⟨1, .phase⟩, ⟨2, .textOnly .lateStores⟩, ⟨3, .textOnly .lateStoresUnsure⟩, ⟨4, .textOnly .lateStores⟩, ⟨5, .textOnly .lateStores⟩, ⟨6, .textOnly .lateStores⟩, ⟨7, .textOnly .lateStoresUnsure⟩, ⟨8, .phase⟩, ⟨9, .phase⟩, ⟨10, .phase⟩, ⟨11, .phase⟩], guard := none },
  { dst := none, op := .store 34 (.tmp 6) (.tmp 20), type := 0, pos := "frac.go:106", after := #[⟨9, .data⟩, ⟨3, .data⟩, ⟨12, .chain⟩, ⟨0, .phase⟩, ⟨1, .phase⟩, ⟨2, .phase⟩, ⟨3, .phase⟩, ⟨4, .textOnly .lateStores⟩, ⟨5, .textOnly .lateStores⟩, ⟨6, .textOnly .lateStores⟩, ⟨7, .textOnly .lateStoresUnsure⟩, ⟨8, .phase⟩, ⟨9, .phase⟩, ⟨10, .phase⟩, ⟨11, .phase⟩, ⟨12, .phase⟩], guard := none },
  { dst := none, op := .store 34 (.tmp 7) (.tmp 22), type := 0, pos := "frac.go:106", after := #[⟨10, .data⟩, ⟨5, .data⟩, ⟨13, .chain⟩, ⟨0, .phase⟩, ⟨1, .phase⟩, ⟨2, .phase⟩, ⟨3, .phase⟩, ⟨4, .phase⟩, ⟨5, .phase⟩, ⟨6, .textOnly .lateStores⟩, ⟨7, .textOnly .lateStoresUnsure⟩, ⟨8, .phase⟩, ⟨9, .phase⟩, ⟨10, .phase⟩, ⟨11, .phase⟩, ⟨12, .phase⟩, ⟨13, .phase⟩], guard := none },
  { dst := none, op := .store 34 (.tmp 8) (.tmp 24), type := 0, pos := "frac.go:106", after := #[⟨11, .data⟩, ⟨7, .data⟩, ⟨14, .chain⟩, ⟨0, .phase⟩, ⟨1, .phase⟩, ⟨2, .phase⟩, ⟨3, .phase⟩, ⟨4, .phase⟩, ⟨5, .phase⟩, ⟨6, .phase⟩, ⟨7, .phase⟩, ⟨8, .phase⟩, ⟨9, .phase⟩, ⟨10, .phase⟩, ⟨11, .phase⟩, ⟨12, .phase⟩, ⟨13, .phase⟩, ⟨14, .phase⟩], guard := none }]
set_option maxRecDepth 100000 in
set_option maxHeartbeats 1000000 in
theorem cmp_reg1 {Q : Exit → Act → World → Prop} {a0 : Act} {w0 : World} {p2 p3 : Nat} {a b : Rat} {da ea db eb : Bool} {Aa Ea Ab Eb : Option Addr} {na ca ma fa nb cb mb fb : Nat} (hN : a0.tmps.size = 66) (t2 : a0.tmps[2]? = some (.pointer (some ⟨p2, 0, none⟩))) (t3 : a0.tmps[3]? = some (.pointer (some ⟨p3, 0, none⟩))) (Ha : HoldQ w0 p2 a da Aa na ca ea Ea ma fa) (Hb : HoldQ w0 p3 b db Ab nb cb eb Eb mb fb) (ia : InF a) (ib : InF b)
    (hQ : ∀ (w : World) (v17 v18 v19 v20 v21 v22 v23 v24 : Value) (g5 g6 g7 g8 : Nat) (e5 : Bool) (A5 : Option Addr) (n5 c5 : Nat) (e6 : Bool) (A6 : Option Addr) (n6 c6 : Nat) (e7 : Bool) (A7 : Option Addr) (n7 c7 : Nat) (e8 : Bool) (A8 : Option Addr) (n8 c8 : Nat), Below w0.heap.size w0 w → HoldI w g5 (a.num) e5 A5 n5 c5 → HoldI w g6 ((a.den : Int)) e6 A6 n6 c6 → HoldI w g7 (b.num) e7 A7 n7 c7 → HoldI w g8 ((b.den : Int)) e8 A8 n8 c8 → g5 ≠ g6 → g5 ≠ g7 → g6 ≠ g7 → g5 ≠ g8 → g6 ≠ g8 → g7 ≠ g8 → w0.heap.size ≤ g5 → w0.heap.size ≤ g6 → w0.heap.size ≤ g7 → w0.heap.size ≤ g8 → Q .normal ⟨([(17, v17), (18, v18), (19, v19), (20, v20), (21, v21), (22, v22), (23, v23), (24, v24), (5, .pointer (some ⟨g5, 0, none⟩)), (6, .pointer (some ⟨g6, 0, none⟩)), (7, .pointer (some ⟨g7, 0, none⟩)), (8, .pointer (some ⟨g8, 0, none⟩))] : List (Nat × Value)).foldl (fun ts p => ts.setIfInBounds p.1 p.2) a0.tmps, a0.defers⟩ w) :
    (Code.region 1 cmp_reg1_ops true).wp Tryz.prog Q a0 w0 := by
  refine wp_region_boxes' (ty := 34) (cl := [.val 17 (Is (.pointer (some ⟨p2, 0, none⟩))), .val 18 (IsI (a.num)), .val 19 (Is (.agg #[.bool da, .slice Aa na ca, .bool ea, .slice Ea ma fa])), .val 20 (IsI ((a.den : Int))), .val 21 (Is (.pointer (some ⟨p3, 0, none⟩))), .val 22 (IsI (b.num)), .val 23 (Is (.agg #[.bool db, .slice Ab nb cb, .bool eb, .slice Eb mb fb])), .val 24 (IsI ((b.den : Int))), .new 5, .new 6, .new 7, .new 8, .put 5 (IsI (a.num)), .put 6 (IsI ((a.den : Int))), .put 7 (IsI (b.num)), .put 8 (IsI ((b.den : Int)))]) 66 (by kernel_rfl) hN (by kernel_rfl) ?_ ?_ ?_
  · exact ⟨Is.stb _ _, IsI.stb _ _, Is.stb _ _, IsI.stb _ _, Is.stb _ _, IsI.stb _ _, Is.stb _ _, IsI.stb _ _, trivial, trivial, trivial, trivial, IsI.stb _ _, IsI.stb _ _, IsI.stb _ _, IsI.stb _ _, trivial⟩
  · refine ⟨?_, ?_, ?_, ?_, ?_, ?_, ?_, ?_, ?_, ?_, ?_, ?_, ?_, ?_, ?_, ?_, trivial⟩
    · intro l ac w h hd K hK
      exact op_field0 rfl ((h.same 2 (not_dst (by kernel_rfl))).trans t2) (hK _ _ rfl (Below.refl _ _))
    · intro l ac w h hd K hK
      obtain ⟨v, hv, rfl⟩ := h.fact 0 _ rfl (dep hd 0 (by kernel_rfl))
      exact op_load2 rfl hv (Ha.below h.below).c0 (Ha.below h.below).c1 (hK _ _ (Ha.below h.below).2.num (Below.refl _ _))
    · intro l ac w h hd K hK
      exact op_load4 rfl ((h.same 2 (not_dst (by kernel_rfl))).trans t2) (Ha.below h.below).c0 (Ha.below h.below).c1 (Ha.below h.below).c2 (Ha.below h.below).c3 (hK _ _ rfl (Below.refl _ _))
    · intro l ac w h hd K hK
      obtain ⟨v, hv, rfl⟩ := h.fact 2 _ rfl (dep hd 2 (by kernel_rfl))
      exact op_call1 rfl hv (enters_of Tryz.func48 (by kernel_rfl) rfl) ((den_any a _ _ (Ha.below h.below).2 ia).mono fun e w' ⟨v, he, h1, h2⟩ => ⟨v, he, hK _ _ h1 h2⟩)
    · intro l ac w h hd K hK
      exact op_field0 rfl ((h.same 3 (not_dst (by kernel_rfl))).trans t3) (hK _ _ rfl (Below.refl _ _))
    · intro l ac w h hd K hK
      obtain ⟨v, hv, rfl⟩ := h.fact 4 _ rfl (dep hd 4 (by kernel_rfl))
      exact op_load2 rfl hv (Hb.below h.below).c0 (Hb.below h.below).c1 (hK _ _ (Hb.below h.below).2.num (Below.refl _ _))
    · intro l ac w h hd K hK
      exact op_load4 rfl ((h.same 3 (not_dst (by kernel_rfl))).trans t3) (Hb.below h.below).c0 (Hb.below h.below).c1 (Hb.below h.below).c2 (Hb.below h.below).c3 (hK _ _ rfl (Below.refl _ _))
    · intro l ac w h hd K hK
      obtain ⟨v, hv, rfl⟩ := h.fact 6 _ rfl (dep hd 6 (by kernel_rfl))
      exact op_call1 rfl hv (enters_of Tryz.func48 (by kernel_rfl) rfl) ((den_any b _ _ (Hb.below h.below).2 ib).mono fun e w' ⟨v, he, h1, h2⟩ => ⟨v, he, hK _ _ h1 h2⟩)
    · intro ac w K hK
      exact op_new rfl hK
    · intro ac w K hK
      exact op_new rfl hK
    · intro ac w K hK
      exact op_new rfl hK
    · intro ac w K hK
      exact op_new rfl hK
    · refine ⟨⟨8, rfl⟩, fun l ac w h hd => ?_⟩
      obtain ⟨g, hg, hlt, e, A, n, c, hB⟩ := h.fact 8 _ rfl (dep hd 8 (by kernel_rfl))
      obtain ⟨v, hv, hF⟩ := h.fact 1 _ rfl (dep hd 1 (by kernel_rfl))
      obtain ⟨e', A', n', c', rfl⟩ := RepI.shape hF
      exact ⟨g, e', A', n', c', e, A, n, c, hg, hlt, hB, hF, fun K hK => op_store2 rfl hg hv hB hK⟩
    · refine ⟨⟨9, rfl⟩, fun l ac w h hd => ?_⟩
      obtain ⟨g, hg, hlt, e, A, n, c, hB⟩ := h.fact 9 _ rfl (dep hd 9 (by kernel_rfl))
      obtain ⟨v, hv, hF⟩ := h.fact 3 _ rfl (dep hd 3 (by kernel_rfl))
      obtain ⟨e', A', n', c', rfl⟩ := RepI.shape hF
      exact ⟨g, e', A', n', c', e, A, n, c, hg, hlt, hB, hF, fun K hK => op_store2 rfl hg hv hB hK⟩
    · refine ⟨⟨10, rfl⟩, fun l ac w h hd => ?_⟩
      obtain ⟨g, hg, hlt, e, A, n, c, hB⟩ := h.fact 10 _ rfl (dep hd 10 (by kernel_rfl))
      obtain ⟨v, hv, hF⟩ := h.fact 5 _ rfl (dep hd 5 (by kernel_rfl))
      obtain ⟨e', A', n', c', rfl⟩ := RepI.shape hF
      exact ⟨g, e', A', n', c', e, A, n, c, hg, hlt, hB, hF, fun K hK => op_store2 rfl hg hv hB hK⟩
    · refine ⟨⟨11, rfl⟩, fun l ac w h hd => ?_⟩
      obtain ⟨g, hg, hlt, e, A, n, c, hB⟩ := h.fact 11 _ rfl (dep hd 11 (by kernel_rfl))
      obtain ⟨v, hv, hF⟩ := h.fact 7 _ rfl (dep hd 7 (by kernel_rfl))
      obtain ⟨e', A', n', c', rfl⟩ := RepI.shape hF
      exact ⟨g, e', A', n', c', e, A, n, c, hg, hlt, hB, hF, fun K hK => op_store2 rfl hg hv hB hK⟩
  · intro l ac w h hall
    obtain ⟨v17, q17, _⟩ := h.fact 0 _ rfl (hall 0 (of_decide_eq_true (by kernel_rfl)))
    obtain ⟨v18, q18, _⟩ := h.fact 1 _ rfl (hall 1 (of_decide_eq_true (by kernel_rfl)))
    obtain ⟨v19, q19, _⟩ := h.fact 2 _ rfl (hall 2 (of_decide_eq_true (by kernel_rfl)))
    obtain ⟨v20, q20, _⟩ := h.fact 3 _ rfl (hall 3 (of_decide_eq_true (by kernel_rfl)))
    obtain ⟨v21, q21, _⟩ := h.fact 4 _ rfl (hall 4 (of_decide_eq_true (by kernel_rfl)))
    obtain ⟨v22, q22, _⟩ := h.fact 5 _ rfl (hall 5 (of_decide_eq_true (by kernel_rfl)))
    obtain ⟨v23, q23, _⟩ := h.fact 6 _ rfl (hall 6 (of_decide_eq_true (by kernel_rfl)))
    obtain ⟨v24, q24, _⟩ := h.fact 7 _ rfl (hall 7 (of_decide_eq_true (by kernel_rfl)))
    obtain ⟨g5, q5, l5, e5, A5, n5, c5, B5, F5⟩ := h.fact 12 _ rfl (hall 12 (of_decide_eq_true (by kernel_rfl)))
    obtain ⟨g6, q6, l6, e6, A6, n6, c6, B6, F6⟩ := h.fact 13 _ rfl (hall 13 (of_decide_eq_true (by kernel_rfl)))
    obtain ⟨g7, q7, l7, e7, A7, n7, c7, B7, F7⟩ := h.fact 14 _ rfl (hall 14 (of_decide_eq_true (by kernel_rfl)))
    obtain ⟨g8, q8, l8, e8, A8, n8, c8, B8, F8⟩ := h.fact 15 _ rfl (hall 15 (of_decide_eq_true (by kernel_rfl)))
    have d5_6 : g5 ≠ g6 := fun e => h.apart 8 9 5 6 g5 (by decide) rfl rfl (hall 8 (of_decide_eq_true (by kernel_rfl))) (hall 9 (of_decide_eq_true (by kernel_rfl))) q5 (e ▸ q6)
    have d5_7 : g5 ≠ g7 := fun e => h.apart 8 10 5 7 g5 (by decide) rfl rfl (hall 8 (of_decide_eq_true (by kernel_rfl))) (hall 10 (of_decide_eq_true (by kernel_rfl))) q5 (e ▸ q7)
    have d6_7 : g6 ≠ g7 := fun e => h.apart 9 10 6 7 g6 (by decide) rfl rfl (hall 9 (of_decide_eq_true (by kernel_rfl))) (hall 10 (of_decide_eq_true (by kernel_rfl))) q6 (e ▸ q7)
    have d5_8 : g5 ≠ g8 := fun e => h.apart 8 11 5 8 g5 (by decide) rfl rfl (hall 8 (of_decide_eq_true (by kernel_rfl))) (hall 11 (of_decide_eq_true (by kernel_rfl))) q5 (e ▸ q8)
    have d6_8 : g6 ≠ g8 := fun e => h.apart 9 11 6 8 g6 (by decide) rfl rfl (hall 9 (of_decide_eq_true (by kernel_rfl))) (hall 11 (of_decide_eq_true (by kernel_rfl))) q6 (e ▸ q8)
    have d7_8 : g7 ≠ g8 := fun e => h.apart 10 11 7 8 g7 (by decide) rfl rfl (hall 10 (of_decide_eq_true (by kernel_rfl))) (hall 11 (of_decide_eq_true (by kernel_rfl))) q7 (e ▸ q8)
    have ha := act_of [(17, v17), (18, v18), (19, v19), (20, v20), (21, v21), (22, v22), (23, v23), (24, v24), (5, .pointer (some ⟨g5, 0, none⟩)), (6, .pointer (some ⟨g6, 0, none⟩)), (7, .pointer (some ⟨g7, 0, none⟩)), (8, .pointer (some ⟨g8, 0, none⟩))] h.defers h.size (List.forall_mem_cons.2 ⟨q17, List.forall_mem_cons.2 ⟨q18, List.forall_mem_cons.2 ⟨q19, List.forall_mem_cons.2 ⟨q20, List.forall_mem_cons.2 ⟨q21, List.forall_mem_cons.2 ⟨q22, List.forall_mem_cons.2 ⟨q23, List.forall_mem_cons.2 ⟨q24, List.forall_mem_cons.2 ⟨q5, List.forall_mem_cons.2 ⟨q6, List.forall_mem_cons.2 ⟨q7, List.forall_mem_cons.2 ⟨q8, fun _ h => by cases h⟩⟩⟩⟩⟩⟩⟩⟩⟩⟩⟩⟩) (fun t ht => h.same t (fun hm => ht (in_dst (F := [17, 18, 19, 20, 21, 22, 23, 24, 5, 6, 7, 8]) (by kernel_rfl) hm)))
    rw [ha]
    exact hQ w _ _ _ _ _ _ _ _ _ _ _ _ _ _ _ _ _ _ _ _ _ _ _ _ _ _ _ _ h.below ⟨B5, F5⟩ ⟨B6, F6⟩ ⟨B7, F7⟩ ⟨B8, F8⟩ d5_6 d5_7 d6_7 d5_8 d6_8 d7_8 l5 l6 l7 l8
set_option maxRecDepth 100000 in
set_option maxHeartbeats 4000000 in
theorem fcompare_any (a b : Rat) (u v : Value) (w : World) (ha : RepF w w.heap.size a u) (hb : RepF w w.heap.size b v) (ia : InF a) (ib : InF b) (r : Int) (hr : cmpI' (a.num * (b.den : Int)) (b.num * (a.den : Int)) = r) :
    Calls Tryz.prog 44 #[u, v] w fun e w' => e = .returned (.int .i64 r) ∧ Below w.heap.size w w' := by
  replace ia := Lib.hid ia
  replace ib := Lib.hid ib
  replace hr := Lib.hid hr
  have HB := Lib.hid (Below.refl w.heap.size w)
  obtain ⟨da, Aa, na, ca, ea, Ea, ma, fa, rfl⟩ := ha.shape
  have Va := Lib.hid ha
  clear ha
  obtain ⟨db, Ab, nb, cb, eb, Eb, mb, fb, rfl⟩ := hb.shape
  have Vb := Lib.hid hb
  clear hb
  go_enter Tryz.func44, Tryz.ntmps44
  have h := HoldQ.new Va.out
  have b := al_below w (.cells #[.bool da, .slice Aa na ca, .bool ea, .slice Ea ma fa] 36)
  replace HB := Lib.hid (bstep HB.out b)
  replace Vb := Lib.hid (Vb.out.step b)
  clear b
  have Ha := Lib.hid h
  clear h Va
  have h := HoldQ.new Vb.out
  simp only [World.size_alloc] at h
  have b := al_below (w.alloc (.cells #[.bool da, .slice Aa na ca, .bool ea, .slice Ea ma fa] 36)) (.cells #[.bool db, .slice Ab nb cb, .bool eb, .slice Eb mb fb] 36)
  replace HB := Lib.hid (bstep HB.out b)
  replace Ha := Lib.hid (Ha.out.below b)
  clear b
  have Hb := Lib.hid h
  clear h Vb
  go_wp2_with fail
  refine cmp_reg1 rfl rfl rfl Ha.out Hb.out ia.out ib.out ?_
  intro w51 u17 u18 u19 u20 u21 u22 u23 u24 g5 g6 g7 g8 d5 A5 n5 c5 d6 A6 n6 c6 d7 A7 n7 c7 d8 A8 n8 c8 b h5 h6 h7 h8 x5_6 x5_7 x6_7 x5_8 x6_8 x7_8 l5 l6 l7 l8
  simp only [List.foldl_cons, List.foldl_nil, List.setIfInBounds_toArray, List.set_cons_zero, List.set_cons_succ]
  simp only [World.size_alloc] at l5 l6 l7 l8
  have z51 := b.size
  simp only [World.size_alloc] at z51
  replace z51 := Lib.hid z51
  replace HB := Lib.hid (bstep HB.out b)
  replace Ha := Lib.hid (Ha.out.below b)
  replace Hb := Lib.hid (Hb.out.below b)
  have H5 := Lib.hid h5
  have L5 := Lib.hid l5
  clear h5 l5
  have H6 := Lib.hid h6
  have L6 := Lib.hid l6
  clear h6 l6
  have H7 := Lib.hid h7
  have L7 := Lib.hid l7
  clear h7 l7
  have H8 := Lib.hid h8
  have L8 := Lib.hid l8
  clear h8 l8
  replace x5_6 := Lib.hid x5_6
  replace x5_7 := Lib.hid x5_7
  replace x6_7 := Lib.hid x6_7
  replace x5_8 := Lib.hid x5_8
  replace x6_8 := Lib.hid x6_8
  replace x7_8 := Lib.hid x7_8
  clear b
  go_wp2_with fail
  have HI := Lib.hid (show InL a.num ∧ InL (a.den : Int) ∧ InL b.num ∧ InL (b.den : Int) ∧ 0 < (a.den : Int) ∧ 0 < (b.den : Int) ∧ 1 * cmpI' (a.num * (b.den : Int)) (b.num * (a.den : Int)) = r from ⟨ia.out.1, den_lim ia.out, ib.out.1, den_lim ib.out, den_pos' a, den_pos' b, by rw [Int.one_mul]; exact hr.out⟩)
  clear Ha Hb hr ia ib
  go_loopg [9] ((a.den : Int)).toNat (fun gk ov wr => ∃ (P Q R S o : Int) (d5 : Bool) (A5 : Option Addr) (n5 c5 : Nat) (d6 : Bool) (A6 : Option Addr) (n6 c6 : Nat) (d7 : Bool) (A7 : Option Addr) (n7 c7 : Nat) (d8 : Bool) (A8 : Option Addr) (n8 c8 : Nat), gk = Q.toNat ∧ ov = .int .i64 o ∧ (o = 1 ∨ o = -1) ∧ Hid (HoldI wr g5 P d5 A5 n5 c5) ∧ Hid (HoldI wr g6 Q d6 A6 n6 c6) ∧ Hid (HoldI wr g7 R d7 A7 n7 c7) ∧ Hid (HoldI wr g8 S d8 A8 n8 c8) ∧ Hid (InL P ∧ InL Q ∧ InL R ∧ InL S ∧ 0 < Q ∧ 0 < S ∧ o * cmpI' (P * S) (R * Q) = r) ∧ Hid (Below w.heap.size w wr))
  case atStart => exact ⟨a.num, _, b.num, _, 1, _, _, _, _, _, _, _, _, _, _, _, _, _, _, _, _, rfl, rfl, .inl rfl, H5, H6, H7, H8, HI, HB⟩
  case round =>
    clear H5 H6 H7 H8 HI HB
    obtain ⟨P, Q, R, S, o, d5, A5, n5, c5, d6, A6, n6, c6, d7, A7, n7, c7, d8, A8, n8, c8, hgk, rfl, ho, H5, H6, H7, H8, HI, HB⟩ := hrel
    subst hgk
    have HL5 := Lib.hid (show g5 < wr.heap.size from H5.out.lt)
    have HL6 := Lib.hid (show g6 < wr.heap.size from H6.out.lt)
    have HL7 := Lib.hid (show g7 < wr.heap.size from H7.out.lt)
    have HL8 := Lib.hid (show g8 < wr.heap.size from H8.out.lt)
    rcases ho with ho | ho
    · subst ho
      have IPQ := Lib.hid (show InL (P / Q) from ediv_ltl HI.out.1 Q)
      have IRS := Lib.hid (show InL (R / S) from ediv_ltl HI.out.2.2.1 S)
      have IL := Lib.hid (show InL (P % Q) from emod_ltl HI.out.2.1 (by have := HI.out.2.2.2.2.1; omega))
      have IT := Lib.hid (show InL (R % S) from emod_ltl HI.out.2.2.2.1 (by have := HI.out.2.2.2.2.2.1; omega))
      have ML := Lib.hid (mod_bd (p := P) HI.out.2.2.2.2.1)
      have MT := Lib.hid (mod_bd (p := R) HI.out.2.2.2.2.2.1)
      have gH50 := H5.out.c0
      have gH51 := H5.out.c1
      have gH60 := H6.out.c0
      have gH61 := H6.out.c1
      go_wp2_with fail
      refine (idiv_any P Q _ _ _ H5.out.2 H6.out.2 HI.out.1 HI.out.2.1 (by have := HI.out.2.2.2.2.1; omega)).mono ?_
      rintro e w52 ⟨u, v, rfl, h, h', b⟩
      obtain ⟨d52, A52, n52, c52, rfl⟩ := h.shape
      obtain ⟨d53, A53, n53, c53, rfl⟩ := h'.shape
      clear gH50 gH51 gH60 gH61
      have z52 := b.size
      replace z52 := Lib.hid z52
      replace H5 := Lib.hid (H5.out.below b)
      replace H6 := Lib.hid (H6.out.below b)
      replace H7 := Lib.hid (H7.out.below b)
      replace H8 := Lib.hid (H8.out.below b)
      replace HB := Lib.hid (bstep HB.out b)
      have V52 := Lib.hid h
      have V53 := Lib.hid h'
      clear h h' b
      have h := HoldI.new V52.out
      have b := al_below w52 (.cells #[.bool d52, .slice A52 n52 c52] 34)
      replace H5 := Lib.hid (H5.out.below b)
      replace H6 := Lib.hid (H6.out.below b)
      replace H7 := Lib.hid (H7.out.below b)
      replace H8 := Lib.hid (H8.out.below b)
      replace HB := Lib.hid (bstep HB.out b)
      replace V53 := Lib.hid (V53.out.step b)
      clear b
      have H52 := Lib.hid h
      clear h V52
      have h := HoldI.new V53.out
      simp only [World.size_alloc] at h
      have b := al_below (w52.alloc (.cells #[.bool d52, .slice A52 n52 c52] 34)) (.cells #[.bool d53, .slice A53 n53 c53] 34)
      replace H5 := Lib.hid (H5.out.below b)
      replace H6 := Lib.hid (H6.out.below b)
      replace H7 := Lib.hid (H7.out.below b)
      replace H8 := Lib.hid (H8.out.below b)
      replace HB := Lib.hid (bstep HB.out b)
      replace H52 := Lib.hid (H52.out.below b)
      clear b
      have H53 := Lib.hid h
      clear h V53
      have gH70 := H7.out.c0
      have gH71 := H7.out.c1
      have gH80 := H8.out.c0
      have gH81 := H8.out.c1
      go_wp2_with fail
      refine (idiv_any R S _ _ _ H7.out.2 H8.out.2 HI.out.2.2.1 HI.out.2.2.2.1 (by have := HI.out.2.2.2.2.2.1; omega)).mono ?_
      rintro e w54 ⟨u, v, rfl, h, h', b⟩
      obtain ⟨d54, A54, n54, c54, rfl⟩ := h.shape
      obtain ⟨d55, A55, n55, c55, rfl⟩ := h'.shape
      clear gH70 gH71 gH80 gH81
      have z54 := b.size
      simp only [World.size_alloc] at z54
      replace z54 := Lib.hid z54
      replace H5 := Lib.hid (H5.out.below b)
      replace H6 := Lib.hid (H6.out.below b)
      replace H7 := Lib.hid (H7.out.below b)
      replace H8 := Lib.hid (H8.out.below b)
      replace HB := Lib.hid (bstep HB.out b)
      replace H52 := Lib.hid (H52.out.below b)
      replace H53 := Lib.hid (H53.out.below b)
      have V54 := Lib.hid h
      have V55 := Lib.hid h'
      clear h h' b
      have h := HoldI.new V54.out
      have b := al_below w54 (.cells #[.bool d54, .slice A54 n54 c54] 34)
      replace H5 := Lib.hid (H5.out.below b)
      replace H6 := Lib.hid (H6.out.below b)
      replace H7 := Lib.hid (H7.out.below b)
      replace H8 := Lib.hid (H8.out.below b)
      replace HB := Lib.hid (bstep HB.out b)
      replace H52 := Lib.hid (H52.out.below b)
      replace H53 := Lib.hid (H53.out.below b)
      replace V55 := Lib.hid (V55.out.step b)
      clear b
      have H54 := Lib.hid h
      clear h V54
      have h := HoldI.new V55.out
      simp only [World.size_alloc] at h
      have b := al_below (w54.alloc (.cells #[.bool d54, .slice A54 n54 c54] 34)) (.cells #[.bool d55, .slice A55 n55 c55] 34)
      replace H5 := Lib.hid (H5.out.below b)
      replace H6 := Lib.hid (H6.out.below b)
      replace H7 := Lib.hid (H7.out.below b)
      replace H8 := Lib.hid (H8.out.below b)
      replace HB := Lib.hid (bstep HB.out b)
      replace H52 := Lib.hid (H52.out.below b)
      replace H53 := Lib.hid (H53.out.below b)
      replace H54 := Lib.hid (H54.out.below b)
      clear b
      have H55 := Lib.hid h
      clear h V55
      rcases Int.lt_trichotomy (P / Q) (R / S) with hw | hw | hw
      · have HC := Lib.hid (show cmpI' (P / Q) (R / S) = -1 from by unfold cmpI'; rw [if_pos hw])
        have HNE := Lib.hid (show P / Q ≠ R / S from by omega)
        clear hw
        have gH520 := H52.out.c0
        have gH521 := H52.out.c1
        have gH540 := H54.out.c0
        have gH541 := H54.out.c1
        go_wp2_with fail
        refine (icompare_lim (P / Q) (R / S) _ _ _ H52.out.2 H54.out.2 IPQ.out IRS.out (-1) (HC.out)).mono ?_
        rintro e w56 ⟨rfl, b⟩
        clear gH520 gH521 gH540 gH541
        have z56 := b.size
        simp only [World.size_alloc] at z56
        replace z56 := Lib.hid z56
        replace H5 := Lib.hid (H5.out.below b)
        replace H6 := Lib.hid (H6.out.below b)
        replace H7 := Lib.hid (H7.out.below b)
        replace H8 := Lib.hid (H8.out.below b)
        replace HB := Lib.hid (bstep HB.out b)
        replace H52 := Lib.hid (H52.out.below b)
        replace H53 := Lib.hid (H53.out.below b)
        replace H54 := Lib.hid (H54.out.below b)
        replace H55 := Lib.hid (H55.out.below b)
        clear b
        have HF := HB.out
        have HRR := Lib.hid (show (1 * -1 : Int) = r from by have h := HI.out.2.2.2.2.2.2; rw [cf_diff HI.out.2.2.2.2.1 HI.out.2.2.2.2.2.1 HNE.out, HC.out] at h; exact h)
        clear IPQ IRS IL IT ML MT HI HC HNE
        clear H5 H6 H7 H8 HB H52 H53 H54 H55
        clear HL5 HL6 HL7 HL8
        go_wp2_with fail
        go_ret
        exact ⟨ret_int (by rw [← HRR.out]; rfl), HF⟩
      · have HE := Lib.hid hw
        have HC := Lib.hid (show cmpI' (P / Q) (R / S) = 0 from by rw [hw]; unfold cmpI'; rw [if_neg (by omega), if_neg (by omega)])
        clear hw
        have gH520 := H52.out.c0
        have gH521 := H52.out.c1
        have gH540 := H54.out.c0
        have gH541 := H54.out.c1
        go_wp2_with fail
        refine (icompare_lim (P / Q) (R / S) _ _ _ H52.out.2 H54.out.2 IPQ.out IRS.out (0) (HC.out)).mono ?_
        rintro e w56 ⟨rfl, b⟩
        clear gH520 gH521 gH540 gH541
        have z56 := b.size
        simp only [World.size_alloc] at z56
        replace z56 := Lib.hid z56
        replace H5 := Lib.hid (H5.out.below b)
        replace H6 := Lib.hid (H6.out.below b)
        replace H7 := Lib.hid (H7.out.below b)
        replace H8 := Lib.hid (H8.out.below b)
        replace HB := Lib.hid (bstep HB.out b)
        replace H52 := Lib.hid (H52.out.below b)
        replace H53 := Lib.hid (H53.out.below b)
        replace H54 := Lib.hid (H54.out.below b)
        replace H55 := Lib.hid (H55.out.below b)
        clear b
        by_cases hz : P % Q = 0
        · have HZ := Lib.hid hz
          have HSG := Lib.hid (show cmpI' (P % Q) 0 = 0 from by rw [hz]; decide)
          clear hz
          have gH530 := H53.out.c0
          have gH531 := H53.out.c1
          go_wp2_with fail
          refine (isign_lim (P % Q) _ _ H53.out.2 IL.out 0 HSG.out).mono ?_
          rintro e w57 ⟨rfl, b⟩
          clear gH530 gH531
          have z57 := b.size
          replace z57 := Lib.hid z57
          replace H5 := Lib.hid (H5.out.below b)
          replace H6 := Lib.hid (H6.out.below b)
          replace H7 := Lib.hid (H7.out.below b)
          replace H8 := Lib.hid (H8.out.below b)
          replace HB := Lib.hid (bstep HB.out b)
          replace H52 := Lib.hid (H52.out.below b)
          replace H53 := Lib.hid (H53.out.below b)
          replace H54 := Lib.hid (H54.out.below b)
          replace H55 := Lib.hid (H55.out.below b)
          clear b
          clear HSG
          rcases Int.lt_trichotomy (P % Q) (R % S) with hv | hv | hv
          · have HV := Lib.hid (show cmpI' (P % Q) (R % S) = -1 from by unfold cmpI'; rw [if_pos hv])
            clear hv
            have gH530 := H53.out.c0
            have gH531 := H53.out.c1
            have gH550 := H55.out.c0
            have gH551 := H55.out.c1
            go_wp2_with fail
            refine (icompare_lim (P % Q) (R % S) _ _ _ H53.out.2 H55.out.2 IL.out IT.out (-1) HV.out).mono ?_
            rintro e w58 ⟨rfl, b⟩
            clear gH530 gH531 gH550 gH551
            have z58 := b.size
            replace z58 := Lib.hid z58
            replace H5 := Lib.hid (H5.out.below b)
            replace H6 := Lib.hid (H6.out.below b)
            replace H7 := Lib.hid (H7.out.below b)
            replace H8 := Lib.hid (H8.out.below b)
            replace HB := Lib.hid (bstep HB.out b)
            replace H52 := Lib.hid (H52.out.below b)
            replace H53 := Lib.hid (H53.out.below b)
            replace H54 := Lib.hid (H54.out.below b)
            replace H55 := Lib.hid (H55.out.below b)
            clear b
            have HF := HB.out
            have HRR := Lib.hid (show (1 * -1 : Int) = r from by have h := HI.out.2.2.2.2.2.2; rw [cf_zero HI.out.2.2.2.2.1 HI.out.2.2.2.2.2.1 HE.out (.inl HZ.out), HV.out] at h; exact h)
            clear IPQ IRS IL IT ML MT HI HC HE HV HZ
            clear H5 H6 H7 H8 HB H52 H53 H54 H55
            clear HL5 HL6 HL7 HL8
            go_wp2_with fail
            go_ret
            exact ⟨ret_int (by rw [← HRR.out]; rfl), HF⟩
          · have HV := Lib.hid (show cmpI' (P % Q) (R % S) = 0 from by unfold cmpI'; rw [if_neg (by omega), if_neg (by omega)])
            clear hv
            have gH530 := H53.out.c0
            have gH531 := H53.out.c1
            have gH550 := H55.out.c0
            have gH551 := H55.out.c1
            go_wp2_with fail
            refine (icompare_lim (P % Q) (R % S) _ _ _ H53.out.2 H55.out.2 IL.out IT.out (0) HV.out).mono ?_
            rintro e w58 ⟨rfl, b⟩
            clear gH530 gH531 gH550 gH551
            have z58 := b.size
            replace z58 := Lib.hid z58
            replace H5 := Lib.hid (H5.out.below b)
            replace H6 := Lib.hid (H6.out.below b)
            replace H7 := Lib.hid (H7.out.below b)
            replace H8 := Lib.hid (H8.out.below b)
            replace HB := Lib.hid (bstep HB.out b)
            replace H52 := Lib.hid (H52.out.below b)
            replace H53 := Lib.hid (H53.out.below b)
            replace H54 := Lib.hid (H54.out.below b)
            replace H55 := Lib.hid (H55.out.below b)
            clear b
            have HF := HB.out
            have HRR := Lib.hid (show (1 * 0 : Int) = r from by have h := HI.out.2.2.2.2.2.2; rw [cf_zero HI.out.2.2.2.2.1 HI.out.2.2.2.2.2.1 HE.out (.inl HZ.out), HV.out] at h; exact h)
            clear IPQ IRS IL IT ML MT HI HC HE HV HZ
            clear H5 H6 H7 H8 HB H52 H53 H54 H55
            clear HL5 HL6 HL7 HL8
            go_wp2_with fail
            go_ret
            exact ⟨ret_int (by rw [← HRR.out]; rfl), HF⟩
          · have HV := Lib.hid (show cmpI' (P % Q) (R % S) = 1 from by unfold cmpI'; rw [if_neg (by omega), if_pos hv])
            clear hv
            have gH530 := H53.out.c0
            have gH531 := H53.out.c1
            have gH550 := H55.out.c0
            have gH551 := H55.out.c1
            go_wp2_with fail
            refine (icompare_lim (P % Q) (R % S) _ _ _ H53.out.2 H55.out.2 IL.out IT.out (1) HV.out).mono ?_
            rintro e w58 ⟨rfl, b⟩
            clear gH530 gH531 gH550 gH551
            have z58 := b.size
            replace z58 := Lib.hid z58
            replace H5 := Lib.hid (H5.out.below b)
            replace H6 := Lib.hid (H6.out.below b)
            replace H7 := Lib.hid (H7.out.below b)
            replace H8 := Lib.hid (H8.out.below b)
            replace HB := Lib.hid (bstep HB.out b)
            replace H52 := Lib.hid (H52.out.below b)
            replace H53 := Lib.hid (H53.out.below b)
            replace H54 := Lib.hid (H54.out.below b)
            replace H55 := Lib.hid (H55.out.below b)
            clear b
            have HF := HB.out
            have HRR := Lib.hid (show (1 * 1 : Int) = r from by have h := HI.out.2.2.2.2.2.2; rw [cf_zero HI.out.2.2.2.2.1 HI.out.2.2.2.2.2.1 HE.out (.inl HZ.out), HV.out] at h; exact h)
            clear IPQ IRS IL IT ML MT HI HC HE HV HZ
            clear H5 H6 H7 H8 HB H52 H53 H54 H55
            clear HL5 HL6 HL7 HL8
            go_wp2_with fail
            go_ret
            exact ⟨ret_int (by rw [← HRR.out]; rfl), HF⟩
        · have HZL := Lib.hid hz
          have HSG := Lib.hid (show cmpI' (P % Q) 0 = 1 from by have := ML.out.1; unfold cmpI'; rw [if_neg (by omega), if_pos (by omega)])
          clear hz
          by_cases hz2 : R % S = 0
          · have HZ := Lib.hid hz2
            clear hz2
            have gH530 := H53.out.c0
            have gH531 := H53.out.c1
            go_wp2_with fail
            refine (isign_lim (P % Q) _ _ H53.out.2 IL.out 1 HSG.out).mono ?_
            rintro e w57 ⟨rfl, b⟩
            clear gH530 gH531
            have z57 := b.size
            replace z57 := Lib.hid z57
            replace H5 := Lib.hid (H5.out.below b)
            replace H6 := Lib.hid (H6.out.below b)
            replace H7 := Lib.hid (H7.out.below b)
            replace H8 := Lib.hid (H8.out.below b)
            replace HB := Lib.hid (bstep HB.out b)
            replace H52 := Lib.hid (H52.out.below b)
            replace H53 := Lib.hid (H53.out.below b)
            replace H54 := Lib.hid (H54.out.below b)
            replace H55 := Lib.hid (H55.out.below b)
            clear b
            clear HSG
            have HSG := Lib.hid (show cmpI' (R % S) 0 = 0 from by rw [HZ.out]; decide)
            have gH550 := H55.out.c0
            have gH551 := H55.out.c1
            go_wp2_with fail
            refine (isign_lim (R % S) _ _ H55.out.2 IT.out 0 HSG.out).mono ?_
            rintro e w58 ⟨rfl, b⟩
            clear gH550 gH551
            have z58 := b.size
            replace z58 := Lib.hid z58
            replace H5 := Lib.hid (H5.out.below b)
            replace H6 := Lib.hid (H6.out.below b)
            replace H7 := Lib.hid (H7.out.below b)
            replace H8 := Lib.hid (H8.out.below b)
            replace HB := Lib.hid (bstep HB.out b)
            replace H52 := Lib.hid (H52.out.below b)
            replace H53 := Lib.hid (H53.out.below b)
            replace H54 := Lib.hid (H54.out.below b)
            replace H55 := Lib.hid (H55.out.below b)
            clear b
            clear HSG
            rcases Int.lt_trichotomy (P % Q) (R % S) with hv | hv | hv
            · have HV := Lib.hid (show cmpI' (P % Q) (R % S) = -1 from by unfold cmpI'; rw [if_pos hv])
              clear hv
              have gH530 := H53.out.c0
              have gH531 := H53.out.c1
              have gH550 := H55.out.c0
              have gH551 := H55.out.c1
              go_wp2_with fail
              refine (icompare_lim (P % Q) (R % S) _ _ _ H53.out.2 H55.out.2 IL.out IT.out (-1) HV.out).mono ?_
              rintro e w59 ⟨rfl, b⟩
              clear gH530 gH531 gH550 gH551
              have z59 := b.size
              replace z59 := Lib.hid z59
              replace H5 := Lib.hid (H5.out.below b)
              replace H6 := Lib.hid (H6.out.below b)
              replace H7 := Lib.hid (H7.out.below b)
              replace H8 := Lib.hid (H8.out.below b)
              replace HB := Lib.hid (bstep HB.out b)
              replace H52 := Lib.hid (H52.out.below b)
              replace H53 := Lib.hid (H53.out.below b)
              replace H54 := Lib.hid (H54.out.below b)
              replace H55 := Lib.hid (H55.out.below b)
              clear b
              have HF := HB.out
              have HRR := Lib.hid (show (1 * -1 : Int) = r from by have h := HI.out.2.2.2.2.2.2; rw [cf_zero HI.out.2.2.2.2.1 HI.out.2.2.2.2.2.1 HE.out (.inr HZ.out), HV.out] at h; exact h)
              clear IPQ IRS IL IT ML MT HI HC HE HZL HV HZ
              clear H5 H6 H7 H8 HB H52 H53 H54 H55
              clear HL5 HL6 HL7 HL8
              go_wp2_with fail
              go_ret
              exact ⟨ret_int (by rw [← HRR.out]; rfl), HF⟩
            · have HV := Lib.hid (show cmpI' (P % Q) (R % S) = 0 from by unfold cmpI'; rw [if_neg (by omega), if_neg (by omega)])
              clear hv
              have gH530 := H53.out.c0
              have gH531 := H53.out.c1
              have gH550 := H55.out.c0
              have gH551 := H55.out.c1
              go_wp2_with fail
              refine (icompare_lim (P % Q) (R % S) _ _ _ H53.out.2 H55.out.2 IL.out IT.out (0) HV.out).mono ?_
              rintro e w59 ⟨rfl, b⟩
              clear gH530 gH531 gH550 gH551
              have z59 := b.size
              replace z59 := Lib.hid z59
              replace H5 := Lib.hid (H5.out.below b)
              replace H6 := Lib.hid (H6.out.below b)
              replace H7 := Lib.hid (H7.out.below b)
              replace H8 := Lib.hid (H8.out.below b)
              replace HB := Lib.hid (bstep HB.out b)
              replace H52 := Lib.hid (H52.out.below b)
              replace H53 := Lib.hid (H53.out.below b)
              replace H54 := Lib.hid (H54.out.below b)
              replace H55 := Lib.hid (H55.out.below b)
              clear b
              have HF := HB.out
              have HRR := Lib.hid (show (1 * 0 : Int) = r from by have h := HI.out.2.2.2.2.2.2; rw [cf_zero HI.out.2.2.2.2.1 HI.out.2.2.2.2.2.1 HE.out (.inr HZ.out), HV.out] at h; exact h)
              clear IPQ IRS IL IT ML MT HI HC HE HZL HV HZ
              clear H5 H6 H7 H8 HB H52 H53 H54 H55
              clear HL5 HL6 HL7 HL8
              go_wp2_with fail
              go_ret
              exact ⟨ret_int (by rw [← HRR.out]; rfl), HF⟩
            · have HV := Lib.hid (show cmpI' (P % Q) (R % S) = 1 from by unfold cmpI'; rw [if_neg (by omega), if_pos hv])
              clear hv
              have gH530 := H53.out.c0
              have gH531 := H53.out.c1
              have gH550 := H55.out.c0
              have gH551 := H55.out.c1
              go_wp2_with fail
              refine (icompare_lim (P % Q) (R % S) _ _ _ H53.out.2 H55.out.2 IL.out IT.out (1) HV.out).mono ?_
              rintro e w59 ⟨rfl, b⟩
              clear gH530 gH531 gH550 gH551
              have z59 := b.size
              replace z59 := Lib.hid z59
              replace H5 := Lib.hid (H5.out.below b)
              replace H6 := Lib.hid (H6.out.below b)
              replace H7 := Lib.hid (H7.out.below b)
              replace H8 := Lib.hid (H8.out.below b)
              replace HB := Lib.hid (bstep HB.out b)
              replace H52 := Lib.hid (H52.out.below b)
              replace H53 := Lib.hid (H53.out.below b)
              replace H54 := Lib.hid (H54.out.below b)
              replace H55 := Lib.hid (H55.out.below b)
              clear b
              have HF := HB.out
              have HRR := Lib.hid (show (1 * 1 : Int) = r from by have h := HI.out.2.2.2.2.2.2; rw [cf_zero HI.out.2.2.2.2.1 HI.out.2.2.2.2.2.1 HE.out (.inr HZ.out), HV.out] at h; exact h)
              clear IPQ IRS IL IT ML MT HI HC HE HZL HV HZ
              clear H5 H6 H7 H8 HB H52 H53 H54 H55
              clear HL5 HL6 HL7 HL8
              go_wp2_with fail
              go_ret
              exact ⟨ret_int (by rw [← HRR.out]; rfl), HF⟩
          · have HZ := Lib.hid hz2
            clear hz2
            have gH530 := H53.out.c0
            have gH531 := H53.out.c1
            go_wp2_with fail
            refine (isign_lim (P % Q) _ _ H53.out.2 IL.out 1 HSG.out).mono ?_
            rintro e w57 ⟨rfl, b⟩
            clear gH530 gH531
            have z57 := b.size
            replace z57 := Lib.hid z57
            replace H5 := Lib.hid (H5.out.below b)
            replace H6 := Lib.hid (H6.out.below b)
            replace H7 := Lib.hid (H7.out.below b)
            replace H8 := Lib.hid (H8.out.below b)
            replace HB := Lib.hid (bstep HB.out b)
            replace H52 := Lib.hid (H52.out.below b)
            replace H53 := Lib.hid (H53.out.below b)
            replace H54 := Lib.hid (H54.out.below b)
            replace H55 := Lib.hid (H55.out.below b)
            clear b
            clear HSG
            have HSG := Lib.hid (show cmpI' (R % S) 0 = 1 from by have := MT.out.1; have := HZ.out; unfold cmpI'; rw [if_neg (by omega), if_pos (by omega)])
            have gH550 := H55.out.c0
            have gH551 := H55.out.c1
            go_wp2_with fail
            refine (isign_lim (R % S) _ _ H55.out.2 IT.out 1 HSG.out).mono ?_
            rintro e w58 ⟨rfl, b⟩
            clear gH550 gH551
            have z58 := b.size
            replace z58 := Lib.hid z58
            replace H5 := Lib.hid (H5.out.below b)
            replace H6 := Lib.hid (H6.out.below b)
            replace H7 := Lib.hid (H7.out.below b)
            replace H8 := Lib.hid (H8.out.below b)
            replace HB := Lib.hid (bstep HB.out b)
            replace H52 := Lib.hid (H52.out.below b)
            replace H53 := Lib.hid (H53.out.below b)
            replace H54 := Lib.hid (H54.out.below b)
            replace H55 := Lib.hid (H55.out.below b)
            clear b
            clear HSG
            have V6 := Lib.hid H6.out.2
            have V8 := Lib.hid H8.out.2
            have V53 := Lib.hid H53.out.2
            have V55 := Lib.hid H55.out.2
            have gH60 := H6.out.c0
            have gH61 := H6.out.c1
            have gH530 := H53.out.c0
            have gH531 := H53.out.c1
            have gH80 := H8.out.c0
            have gH81 := H8.out.c1
            have gH550 := H55.out.c0
            have gH551 := H55.out.c1
            clear H52
            clear H54
            have hl5 := HL5.out
            have hl6 := HL6.out
            have hl7 := HL7.out
            have hl8 := HL8.out
            have z52_ := z52.out
            have z54_ := z54.out
            have z56_ := z56.out
            have z57_ := z57.out
            have z58_ := z58.out
            have y56 := x5_6.out
            have y57 := x5_7.out
            have y67 := x6_7.out
            have y58 := x5_8.out
            have y68 := x6_8.out
            have y78 := x7_8.out
            have m5 := L5.out
            have m6 := L6.out
            have m7 := L7.out
            have m8 := L8.out
            have sH5a0 := H5.out.c0
            have tH5a0 := H5.out.1.f0
            have sH5a1 := H5.out.c1
            have tH5a1 := H5.out.1.f1
            have BK := Lib.hid H5.out.1
            have NB := Lib.hid (HoldI.made V6.out H5.out.1)
            replace H6 := Lib.hid (H6.out.off (u := .bool d6) (u' := .slice A6 n6 c6) BK.out (by omega))
            replace H7 := Lib.hid (H7.out.off (u := .bool d6) (u' := .slice A6 n6 c6) BK.out (by omega))
            replace H8 := Lib.hid (H8.out.off (u := .bool d6) (u' := .slice A6 n6 c6) BK.out (by omega))
            replace HB := Lib.hid (below_off (u := .bool d6) (u' := .slice A6 n6 c6) (g := g5) HB.out (by omega))
            replace H53 := Lib.hid (H53.out.off (u := .bool d6) (u' := .slice A6 n6 c6) BK.out (by omega))
            replace H55 := Lib.hid (H55.out.off (u := .bool d6) (u' := .slice A6 n6 c6) BK.out (by omega))
            replace V6 := Lib.hid (V6.out.st (u := .bool d6) (u' := .slice A6 n6 c6) BK.out)
            replace V8 := Lib.hid (V8.out.st (u := .bool d6) (u' := .slice A6 n6 c6) BK.out)
            replace V53 := Lib.hid (V53.out.st (u := .bool d6) (u' := .slice A6 n6 c6) BK.out)
            replace V55 := Lib.hid (V55.out.st (u := .bool d6) (u' := .slice A6 n6 c6) BK.out)
            clear H5 BK
            have H5 := NB
            clear NB
            have f5_53_0 := H53.out.c0
            have f5_53_1 := H53.out.c1
            have f5_8_0 := H8.out.c0
            have f5_8_1 := H8.out.c1
            have f5_55_0 := H55.out.c0
            have f5_55_1 := H55.out.c1
            have sH6a0 := H6.out.c0
            have tH6a0 := H6.out.1.f0
            have sH6a1 := H6.out.c1
            have tH6a1 := H6.out.1.f1
            have BK := Lib.hid H6.out.1
            have NB := Lib.hid (HoldI.made V53.out H6.out.1)
            replace H5 := Lib.hid (H5.out.off (u := .bool d53) (u' := .slice A53 n53 c53) BK.out (by omega))
            replace H7 := Lib.hid (H7.out.off (u := .bool d53) (u' := .slice A53 n53 c53) BK.out (by omega))
            replace H8 := Lib.hid (H8.out.off (u := .bool d53) (u' := .slice A53 n53 c53) BK.out (by omega))
            replace HB := Lib.hid (below_off (u := .bool d53) (u' := .slice A53 n53 c53) (g := g6) HB.out (by omega))
            replace H53 := Lib.hid (H53.out.off (u := .bool d53) (u' := .slice A53 n53 c53) BK.out (by omega))
            replace H55 := Lib.hid (H55.out.off (u := .bool d53) (u' := .slice A53 n53 c53) BK.out (by omega))
            replace V6 := Lib.hid (V6.out.st (u := .bool d53) (u' := .slice A53 n53 c53) BK.out)
            replace V8 := Lib.hid (V8.out.st (u := .bool d53) (u' := .slice A53 n53 c53) BK.out)
            replace V53 := Lib.hid (V53.out.st (u := .bool d53) (u' := .slice A53 n53 c53) BK.out)
            replace V55 := Lib.hid (V55.out.st (u := .bool d53) (u' := .slice A53 n53 c53) BK.out)
            clear H6 BK
            have H6 := NB
            clear NB
            have f6_8_0 := H8.out.c0
            have f6_8_1 := H8.out.c1
            have f6_55_0 := H55.out.c0
            have f6_55_1 := H55.out.c1
            have sH7a0 := H7.out.c0
            have tH7a0 := H7.out.1.f0
            have sH7a1 := H7.out.c1
            have tH7a1 := H7.out.1.f1
            have BK := Lib.hid H7.out.1
            have NB := Lib.hid (HoldI.made V8.out H7.out.1)
            replace H5 := Lib.hid (H5.out.off (u := .bool d8) (u' := .slice A8 n8 c8) BK.out (by omega))
            replace H6 := Lib.hid (H6.out.off (u := .bool d8) (u' := .slice A8 n8 c8) BK.out (by omega))
            replace H8 := Lib.hid (H8.out.off (u := .bool d8) (u' := .slice A8 n8 c8) BK.out (by omega))
            replace HB := Lib.hid (below_off (u := .bool d8) (u' := .slice A8 n8 c8) (g := g7) HB.out (by omega))
            replace H53 := Lib.hid (H53.out.off (u := .bool d8) (u' := .slice A8 n8 c8) BK.out (by omega))
            replace H55 := Lib.hid (H55.out.off (u := .bool d8) (u' := .slice A8 n8 c8) BK.out (by omega))
            replace V6 := Lib.hid (V6.out.st (u := .bool d8) (u' := .slice A8 n8 c8) BK.out)
            replace V8 := Lib.hid (V8.out.st (u := .bool d8) (u' := .slice A8 n8 c8) BK.out)
            replace V53 := Lib.hid (V53.out.st (u := .bool d8) (u' := .slice A8 n8 c8) BK.out)
            replace V55 := Lib.hid (V55.out.st (u := .bool d8) (u' := .slice A8 n8 c8) BK.out)
            clear H7 BK
            have H7 := NB
            clear NB
            have f7_55_0 := H55.out.c0
            have f7_55_1 := H55.out.c1
            have sH8a0 := H8.out.c0
            have tH8a0 := H8.out.1.f0
            have sH8a1 := H8.out.c1
            have tH8a1 := H8.out.1.f1
            have BK := Lib.hid H8.out.1
            have NB := Lib.hid (HoldI.made V55.out H8.out.1)
            replace H5 := Lib.hid (H5.out.off (u := .bool d55) (u' := .slice A55 n55 c55) BK.out (by omega))
            replace H6 := Lib.hid (H6.out.off (u := .bool d55) (u' := .slice A55 n55 c55) BK.out (by omega))
            replace H7 := Lib.hid (H7.out.off (u := .bool d55) (u' := .slice A55 n55 c55) BK.out (by omega))
            replace HB := Lib.hid (below_off (u := .bool d55) (u' := .slice A55 n55 c55) (g := g8) HB.out (by omega))
            replace H53 := Lib.hid (H53.out.off (u := .bool d55) (u' := .slice A55 n55 c55) BK.out (by omega))
            replace H55 := Lib.hid (H55.out.off (u := .bool d55) (u' := .slice A55 n55 c55) BK.out (by omega))
            replace V6 := Lib.hid (V6.out.st (u := .bool d55) (u' := .slice A55 n55 c55) BK.out)
            replace V8 := Lib.hid (V8.out.st (u := .bool d55) (u' := .slice A55 n55 c55) BK.out)
            replace V53 := Lib.hid (V53.out.st (u := .bool d55) (u' := .slice A55 n55 c55) BK.out)
            replace V55 := Lib.hid (V55.out.st (u := .bool d55) (u' := .slice A55 n55 c55) BK.out)
            clear H8 BK
            have H8 := NB
            clear NB
            have HN := Lib.hid (show InL Q ∧ InL (P % Q) ∧ InL S ∧ InL (R % S) ∧ 0 < P % Q ∧ 0 < R % S ∧ (-1) * cmpI' (Q * (R % S)) (S * (P % Q)) = r from ⟨HI.out.2.1, IL.out, HI.out.2.2.2.1, IT.out, by have := ML.out.1; have := HZL.out; omega, by have := MT.out.1; have := HZ.out; omega, by have h := HI.out.2.2.2.2.2.2; rw [cf_next HI.out.2.2.2.2.1 HI.out.2.2.2.2.2.1 HE.out] at h; omega⟩)
            have hms : (P % Q).toNat < Q.toNat := by have h1 := ML.out; omega
            clear HI IPQ IRS IL IT ML MT HC HE HZL HZ
            clear V6 V8 V53 V55
            go_wp2_with fail
            go_region
            go_wp2_with fail
            go_roundg (P % Q).toNat
            case measure => exact hms
            case rel => exact ⟨Q, P % Q, S, R % S, -1, _, _, _, _, _, _, _, _, _, _, _, _, _, _, _, _, rfl, rfl, .inr rfl, Lib.hid (H5.out.below (below_drew (Below.refl _ _))), Lib.hid (H6.out.below (below_drew (Below.refl _ _))), Lib.hid (H7.out.below (below_drew (Below.refl _ _))), Lib.hid (H8.out.below (below_drew (Below.refl _ _))), HN, Lib.hid (below_drew HB.out)⟩
      · have HC := Lib.hid (show cmpI' (P / Q) (R / S) = 1 from by unfold cmpI'; rw [if_neg (by omega), if_pos hw])
        have HNE := Lib.hid (show P / Q ≠ R / S from by omega)
        clear hw
        have gH520 := H52.out.c0
        have gH521 := H52.out.c1
        have gH540 := H54.out.c0
        have gH541 := H54.out.c1
        go_wp2_with fail
        refine (icompare_lim (P / Q) (R / S) _ _ _ H52.out.2 H54.out.2 IPQ.out IRS.out (1) (HC.out)).mono ?_
        rintro e w56 ⟨rfl, b⟩
        clear gH520 gH521 gH540 gH541
        have z56 := b.size
        simp only [World.size_alloc] at z56
        replace z56 := Lib.hid z56
        replace H5 := Lib.hid (H5.out.below b)
        replace H6 := Lib.hid (H6.out.below b)
        replace H7 := Lib.hid (H7.out.below b)
        replace H8 := Lib.hid (H8.out.below b)
        replace HB := Lib.hid (bstep HB.out b)
        replace H52 := Lib.hid (H52.out.below b)
        replace H53 := Lib.hid (H53.out.below b)
        replace H54 := Lib.hid (H54.out.below b)
        replace H55 := Lib.hid (H55.out.below b)
        clear b
        have HF := HB.out
        have HRR := Lib.hid (show (1 * 1 : Int) = r from by have h := HI.out.2.2.2.2.2.2; rw [cf_diff HI.out.2.2.2.2.1 HI.out.2.2.2.2.2.1 HNE.out, HC.out] at h; exact h)
        clear IPQ IRS IL IT ML MT HI HC HNE
        clear H5 H6 H7 H8 HB H52 H53 H54 H55
        clear HL5 HL6 HL7 HL8
        go_wp2_with fail
        go_ret
        exact ⟨ret_int (by rw [← HRR.out]; rfl), HF⟩
    · subst ho
      have IPQ := Lib.hid (show InL (P / Q) from ediv_ltl HI.out.1 Q)
      have IRS := Lib.hid (show InL (R / S) from ediv_ltl HI.out.2.2.1 S)
      have IL := Lib.hid (show InL (P % Q) from emod_ltl HI.out.2.1 (by have := HI.out.2.2.2.2.1; omega))
      have IT := Lib.hid (show InL (R % S) from emod_ltl HI.out.2.2.2.1 (by have := HI.out.2.2.2.2.2.1; omega))
      have ML := Lib.hid (mod_bd (p := P) HI.out.2.2.2.2.1)
      have MT := Lib.hid (mod_bd (p := R) HI.out.2.2.2.2.2.1)
      have gH50 := H5.out.c0
      have gH51 := H5.out.c1
      have gH60 := H6.out.c0
      have gH61 := H6.out.c1
      go_wp2_with fail
      refine (idiv_any P Q _ _ _ H5.out.2 H6.out.2 HI.out.1 HI.out.2.1 (by have := HI.out.2.2.2.2.1; omega)).mono ?_
      rintro e w52 ⟨u, v, rfl, h, h', b⟩
      obtain ⟨d52, A52, n52, c52, rfl⟩ := h.shape
      obtain ⟨d53, A53, n53, c53, rfl⟩ := h'.shape
      clear gH50 gH51 gH60 gH61
      have z52 := b.size
      replace z52 := Lib.hid z52
      replace H5 := Lib.hid (H5.out.below b)
      replace H6 := Lib.hid (H6.out.below b)
      replace H7 := Lib.hid (H7.out.below b)
      replace H8 := Lib.hid (H8.out.below b)
      replace HB := Lib.hid (bstep HB.out b)
      have V52 := Lib.hid h
      have V53 := Lib.hid h'
      clear h h' b
      have h := HoldI.new V52.out
      have b := al_below w52 (.cells #[.bool d52, .slice A52 n52 c52] 34)
      replace H5 := Lib.hid (H5.out.below b)
      replace H6 := Lib.hid (H6.out.below b)
      replace H7 := Lib.hid (H7.out.below b)
      replace H8 := Lib.hid (H8.out.below b)
      replace HB := Lib.hid (bstep HB.out b)
      replace V53 := Lib.hid (V53.out.step b)
      clear b
      have H52 := Lib.hid h
      clear h V52
      have h := HoldI.new V53.out
      simp only [World.size_alloc] at h
      have b := al_below (w52.alloc (.cells #[.bool d52, .slice A52 n52 c52] 34)) (.cells #[.bool d53, .slice A53 n53 c53] 34)
      replace H5 := Lib.hid (H5.out.below b)
      replace H6 := Lib.hid (H6.out.below b)
      replace H7 := Lib.hid (H7.out.below b)
      replace H8 := Lib.hid (H8.out.below b)
      replace HB := Lib.hid (bstep HB.out b)
      replace H52 := Lib.hid (H52.out.below b)
      clear b
      have H53 := Lib.hid h
      clear h V53
      have gH70 := H7.out.c0
      have gH71 := H7.out.c1
      have gH80 := H8.out.c0
      have gH81 := H8.out.c1
      go_wp2_with fail
      refine (idiv_any R S _ _ _ H7.out.2 H8.out.2 HI.out.2.2.1 HI.out.2.2.2.1 (by have := HI.out.2.2.2.2.2.1; omega)).mono ?_
      rintro e w54 ⟨u, v, rfl, h, h', b⟩
      obtain ⟨d54, A54, n54, c54, rfl⟩ := h.shape
      obtain ⟨d55, A55, n55, c55, rfl⟩ := h'.shape
      clear gH70 gH71 gH80 gH81
      have z54 := b.size
      simp only [World.size_alloc] at z54
      replace z54 := Lib.hid z54
      replace H5 := Lib.hid (H5.out.below b)
      replace H6 := Lib.hid (H6.out.below b)
      replace H7 := Lib.hid (H7.out.below b)
      replace H8 := Lib.hid (H8.out.below b)
      replace HB := Lib.hid (bstep HB.out b)
      replace H52 := Lib.hid (H52.out.below b)
      replace H53 := Lib.hid (H53.out.below b)
      have V54 := Lib.hid h
      have V55 := Lib.hid h'
      clear h h' b
      have h := HoldI.new V54.out
      have b := al_below w54 (.cells #[.bool d54, .slice A54 n54 c54] 34)
      replace H5 := Lib.hid (H5.out.below b)
      replace H6 := Lib.hid (H6.out.below b)
      replace H7 := Lib.hid (H7.out.below b)
      replace H8 := Lib.hid (H8.out.below b)
      replace HB := Lib.hid (bstep HB.out b)
      replace H52 := Lib.hid (H52.out.below b)
      replace H53 := Lib.hid (H53.out.below b)
      replace V55 := Lib.hid (V55.out.step b)
      clear b
      have H54 := Lib.hid h
      clear h V54
      have h := HoldI.new V55.out
      simp only [World.size_alloc] at h
      have b := al_below (w54.alloc (.cells #[.bool d54, .slice A54 n54 c54] 34)) (.cells #[.bool d55, .slice A55 n55 c55] 34)
      replace H5 := Lib.hid (H5.out.below b)
      replace H6 := Lib.hid (H6.out.below b)
      replace H7 := Lib.hid (H7.out.below b)
      replace H8 := Lib.hid (H8.out.below b)
      replace HB := Lib.hid (bstep HB.out b)
      replace H52 := Lib.hid (H52.out.below b)
      replace H53 := Lib.hid (H53.out.below b)
      replace H54 := Lib.hid (H54.out.below b)
      clear b
      have H55 := Lib.hid h
      clear h V55
      rcases Int.lt_trichotomy (P / Q) (R / S) with hw | hw | hw
      · have HC := Lib.hid (show cmpI' (P / Q) (R / S) = -1 from by unfold cmpI'; rw [if_pos hw])
        have HNE := Lib.hid (show P / Q ≠ R / S from by omega)
        clear hw
        have gH520 := H52.out.c0
        have gH521 := H52.out.c1
        have gH540 := H54.out.c0
        have gH541 := H54.out.c1
        go_wp2_with fail
        refine (icompare_lim (P / Q) (R / S) _ _ _ H52.out.2 H54.out.2 IPQ.out IRS.out (-1) (HC.out)).mono ?_
        rintro e w56 ⟨rfl, b⟩
        clear gH520 gH521 gH540 gH541
        have z56 := b.size
        simp only [World.size_alloc] at z56
        replace z56 := Lib.hid z56
        replace H5 := Lib.hid (H5.out.below b)
        replace H6 := Lib.hid (H6.out.below b)
        replace H7 := Lib.hid (H7.out.below b)
        replace H8 := Lib.hid (H8.out.below b)
        replace HB := Lib.hid (bstep HB.out b)
        replace H52 := Lib.hid (H52.out.below b)
        replace H53 := Lib.hid (H53.out.below b)
        replace H54 := Lib.hid (H54.out.below b)
        replace H55 := Lib.hid (H55.out.below b)
        clear b
        have HF := HB.out
        have HRR := Lib.hid (show (-1 * -1 : Int) = r from by have h := HI.out.2.2.2.2.2.2; rw [cf_diff HI.out.2.2.2.2.1 HI.out.2.2.2.2.2.1 HNE.out, HC.out] at h; exact h)
        clear IPQ IRS IL IT ML MT HI HC HNE
        clear H5 H6 H7 H8 HB H52 H53 H54 H55
        clear HL5 HL6 HL7 HL8
        go_wp2_with fail
        go_ret
        exact ⟨ret_int (by rw [← HRR.out]; rfl), HF⟩
      · have HE := Lib.hid hw
        have HC := Lib.hid (show cmpI' (P / Q) (R / S) = 0 from by rw [hw]; unfold cmpI'; rw [if_neg (by omega), if_neg (by omega)])
        clear hw
        have gH520 := H52.out.c0
        have gH521 := H52.out.c1
        have gH540 := H54.out.c0
        have gH541 := H54.out.c1
        go_wp2_with fail
        refine (icompare_lim (P / Q) (R / S) _ _ _ H52.out.2 H54.out.2 IPQ.out IRS.out (0) (HC.out)).mono ?_
        rintro e w56 ⟨rfl, b⟩
        clear gH520 gH521 gH540 gH541
        have z56 := b.size
        simp only [World.size_alloc] at z56
        replace z56 := Lib.hid z56
        replace H5 := Lib.hid (H5.out.below b)
        replace H6 := Lib.hid (H6.out.below b)
        replace H7 := Lib.hid (H7.out.below b)
        replace H8 := Lib.hid (H8.out.below b)
        replace HB := Lib.hid (bstep HB.out b)
        replace H52 := Lib.hid (H52.out.below b)
        replace H53 := Lib.hid (H53.out.below b)
        replace H54 := Lib.hid (H54.out.below b)
        replace H55 := Lib.hid (H55.out.below b)
        clear b
        by_cases hz : P % Q = 0
        · have HZ := Lib.hid hz
          have HSG := Lib.hid (show cmpI' (P % Q) 0 = 0 from by rw [hz]; decide)
          clear hz
          have gH530 := H53.out.c0
          have gH531 := H53.out.c1
          go_wp2_with fail
          refine (isign_lim (P % Q) _ _ H53.out.2 IL.out 0 HSG.out).mono ?_
          rintro e w57 ⟨rfl, b⟩
          clear gH530 gH531
          have z57 := b.size
          replace z57 := Lib.hid z57
          replace H5 := Lib.hid (H5.out.below b)
          replace H6 := Lib.hid (H6.out.below b)
          replace H7 := Lib.hid (H7.out.below b)
          replace H8 := Lib.hid (H8.out.below b)
          replace HB := Lib.hid (bstep HB.out b)
          replace H52 := Lib.hid (H52.out.below b)
          replace H53 := Lib.hid (H53.out.below b)
          replace H54 := Lib.hid (H54.out.below b)
          replace H55 := Lib.hid (H55.out.below b)
          clear b
          clear HSG
          rcases Int.lt_trichotomy (P % Q) (R % S) with hv | hv | hv
          · have HV := Lib.hid (show cmpI' (P % Q) (R % S) = -1 from by unfold cmpI'; rw [if_pos hv])
            clear hv
            have gH530 := H53.out.c0
            have gH531 := H53.out.c1
            have gH550 := H55.out.c0
            have gH551 := H55.out.c1
            go_wp2_with fail
            refine (icompare_lim (P % Q) (R % S) _ _ _ H53.out.2 H55.out.2 IL.out IT.out (-1) HV.out).mono ?_
            rintro e w58 ⟨rfl, b⟩
            clear gH530 gH531 gH550 gH551
            have z58 := b.size
            replace z58 := Lib.hid z58
            replace H5 := Lib.hid (H5.out.below b)
            replace H6 := Lib.hid (H6.out.below b)
            replace H7 := Lib.hid (H7.out.below b)
            replace H8 := Lib.hid (H8.out.below b)
            replace HB := Lib.hid (bstep HB.out b)
            replace H52 := Lib.hid (H52.out.below b)
            replace H53 := Lib.hid (H53.out.below b)
            replace H54 := Lib.hid (H54.out.below b)
            replace H55 := Lib.hid (H55.out.below b)
            clear b
            have HF := HB.out
            have HRR := Lib.hid (show (-1 * -1 : Int) = r from by have h := HI.out.2.2.2.2.2.2; rw [cf_zero HI.out.2.2.2.2.1 HI.out.2.2.2.2.2.1 HE.out (.inl HZ.out), HV.out] at h; exact h)
            clear IPQ IRS IL IT ML MT HI HC HE HV HZ
            clear H5 H6 H7 H8 HB H52 H53 H54 H55
            clear HL5 HL6 HL7 HL8
            go_wp2_with fail
            go_ret
            exact ⟨ret_int (by rw [← HRR.out]; rfl), HF⟩
          · have HV := Lib.hid (show cmpI' (P % Q) (R % S) = 0 from by unfold cmpI'; rw [if_neg (by omega), if_neg (by omega)])
            clear hv
            have gH530 := H53.out.c0
            have gH531 := H53.out.c1
            have gH550 := H55.out.c0
            have gH551 := H55.out.c1
            go_wp2_with fail
            refine (icompare_lim (P % Q) (R % S) _ _ _ H53.out.2 H55.out.2 IL.out IT.out (0) HV.out).mono ?_
            rintro e w58 ⟨rfl, b⟩
            clear gH530 gH531 gH550 gH551
            have z58 := b.size
            replace z58 := Lib.hid z58
            replace H5 := Lib.hid (H5.out.below b)
            replace H6 := Lib.hid (H6.out.below b)
            replace H7 := Lib.hid (H7.out.below b)
            replace H8 := Lib.hid (H8.out.below b)
            replace HB := Lib.hid (bstep HB.out b)
            replace H52 := Lib.hid (H52.out.below b)
            replace H53 := Lib.hid (H53.out.below b)
            replace H54 := Lib.hid (H54.out.below b)
            replace H55 := Lib.hid (H55.out.below b)
            clear b
            have HF := HB.out
            have HRR := Lib.hid (show (-1 * 0 : Int) = r from by have h := HI.out.2.2.2.2.2.2; rw [cf_zero HI.out.2.2.2.2.1 HI.out.2.2.2.2.2.1 HE.out (.inl HZ.out), HV.out] at h; exact h)
            clear IPQ IRS IL IT ML MT HI HC HE HV HZ
            clear H5 H6 H7 H8 HB H52 H53 H54 H55
            clear HL5 HL6 HL7 HL8
            go_wp2_with fail
            go_ret
            exact ⟨ret_int (by rw [← HRR.out]; rfl), HF⟩
          · have HV := Lib.hid (show cmpI' (P % Q) (R % S) = 1 from by unfold cmpI'; rw [if_neg (by omega), if_pos hv])
            clear hv
            have gH530 := H53.out.c0
            have gH531 := H53.out.c1
            have gH550 := H55.out.c0
            have gH551 := H55.out.c1
            go_wp2_with fail
            refine (icompare_lim (P % Q) (R % S) _ _ _ H53.out.2 H55.out.2 IL.out IT.out (1) HV.out).mono ?_
            rintro e w58 ⟨rfl, b⟩
            clear gH530 gH531 gH550 gH551
            have z58 := b.size
            replace z58 := Lib.hid z58
            replace H5 := Lib.hid (H5.out.below b)
            replace H6 := Lib.hid (H6.out.below b)
            replace H7 := Lib.hid (H7.out.below b)
            replace H8 := Lib.hid (H8.out.below b)
            replace HB := Lib.hid (bstep HB.out b)
            replace H52 := Lib.hid (H52.out.below b)
            replace H53 := Lib.hid (H53.out.below b)
            replace H54 := Lib.hid (H54.out.below b)
            replace H55 := Lib.hid (H55.out.below b)
            clear b
            have HF := HB.out
            have HRR := Lib.hid (show (-1 * 1 : Int) = r from by have h := HI.out.2.2.2.2.2.2; rw [cf_zero HI.out.2.2.2.2.1 HI.out.2.2.2.2.2.1 HE.out (.inl HZ.out), HV.out] at h; exact h)
            clear IPQ IRS IL IT ML MT HI HC HE HV HZ
            clear H5 H6 H7 H8 HB H52 H53 H54 H55
            clear HL5 HL6 HL7 HL8
            go_wp2_with fail
            go_ret
            exact ⟨ret_int (by rw [← HRR.out]; rfl), HF⟩
        · have HZL := Lib.hid hz
          have HSG := Lib.hid (show cmpI' (P % Q) 0 = 1 from by have := ML.out.1; unfold cmpI'; rw [if_neg (by omega), if_pos (by omega)])
          clear hz
          by_cases hz2 : R % S = 0
          · have HZ := Lib.hid hz2
            clear hz2
            have gH530 := H53.out.c0
            have gH531 := H53.out.c1
            go_wp2_with fail
            refine (isign_lim (P % Q) _ _ H53.out.2 IL.out 1 HSG.out).mono ?_
            rintro e w57 ⟨rfl, b⟩
            clear gH530 gH531
            have z57 := b.size
            replace z57 := Lib.hid z57
            replace H5 := Lib.hid (H5.out.below b)
            replace H6 := Lib.hid (H6.out.below b)
            replace H7 := Lib.hid (H7.out.below b)
            replace H8 := Lib.hid (H8.out.below b)
            replace HB := Lib.hid (bstep HB.out b)
            replace H52 := Lib.hid (H52.out.below b)
            replace H53 := Lib.hid (H53.out.below b)
            replace H54 := Lib.hid (H54.out.below b)
            replace H55 := Lib.hid (H55.out.below b)
            clear b
            clear HSG
            have HSG := Lib.hid (show cmpI' (R % S) 0 = 0 from by rw [HZ.out]; decide)
            have gH550 := H55.out.c0
            have gH551 := H55.out.c1
            go_wp2_with fail
            refine (isign_lim (R % S) _ _ H55.out.2 IT.out 0 HSG.out).mono ?_
            rintro e w58 ⟨rfl, b⟩
            clear gH550 gH551
            have z58 := b.size
            replace z58 := Lib.hid z58
            replace H5 := Lib.hid (H5.out.below b)
            replace H6 := Lib.hid (H6.out.below b)
            replace H7 := Lib.hid (H7.out.below b)
            replace H8 := Lib.hid (H8.out.below b)
            replace HB := Lib.hid (bstep HB.out b)
            replace H52 := Lib.hid (H52.out.below b)
            replace H53 := Lib.hid (H53.out.below b)
            replace H54 := Lib.hid (H54.out.below b)
            replace H55 := Lib.hid (H55.out.below b)
            clear b
            clear HSG
            rcases Int.lt_trichotomy (P % Q) (R % S) with hv | hv | hv
            · have HV := Lib.hid (show cmpI' (P % Q) (R % S) = -1 from by unfold cmpI'; rw [if_pos hv])
              clear hv
              have gH530 := H53.out.c0
              have gH531 := H53.out.c1
              have gH550 := H55.out.c0
              have gH551 := H55.out.c1
              go_wp2_with fail
              refine (icompare_lim (P % Q) (R % S) _ _ _ H53.out.2 H55.out.2 IL.out IT.out (-1) HV.out).mono ?_
              rintro e w59 ⟨rfl, b⟩
              clear gH530 gH531 gH550 gH551
              have z59 := b.size
              replace z59 := Lib.hid z59
              replace H5 := Lib.hid (H5.out.below b)
              replace H6 := Lib.hid (H6.out.below b)
              replace H7 := Lib.hid (H7.out.below b)
              replace H8 := Lib.hid (H8.out.below b)
              replace HB := Lib.hid (bstep HB.out b)
              replace H52 := Lib.hid (H52.out.below b)
              replace H53 := Lib.hid (H53.out.below b)
              replace H54 := Lib.hid (H54.out.below b)
              replace H55 := Lib.hid (H55.out.below b)
              clear b
              have HF := HB.out
              have HRR := Lib.hid (show (-1 * -1 : Int) = r from by have h := HI.out.2.2.2.2.2.2; rw [cf_zero HI.out.2.2.2.2.1 HI.out.2.2.2.2.2.1 HE.out (.inr HZ.out), HV.out] at h; exact h)
              clear IPQ IRS IL IT ML MT HI HC HE HZL HV HZ
              clear H5 H6 H7 H8 HB H52 H53 H54 H55
              clear HL5 HL6 HL7 HL8
              go_wp2_with fail
              go_ret
              exact ⟨ret_int (by rw [← HRR.out]; rfl), HF⟩
            · have HV := Lib.hid (show cmpI' (P % Q) (R % S) = 0 from by unfold cmpI'; rw [if_neg (by omega), if_neg (by omega)])
              clear hv
              have gH530 := H53.out.c0
              have gH531 := H53.out.c1
              have gH550 := H55.out.c0
              have gH551 := H55.out.c1
              go_wp2_with fail
              refine (icompare_lim (P % Q) (R % S) _ _ _ H53.out.2 H55.out.2 IL.out IT.out (0) HV.out).mono ?_
              rintro e w59 ⟨rfl, b⟩
              clear gH530 gH531 gH550 gH551
              have z59 := b.size
              replace z59 := Lib.hid z59
              replace H5 := Lib.hid (H5.out.below b)
              replace H6 := Lib.hid (H6.out.below b)
              replace H7 := Lib.hid (H7.out.below b)
              replace H8 := Lib.hid (H8.out.below b)
              replace HB := Lib.hid (bstep HB.out b)
              replace H52 := Lib.hid (H52.out.below b)
              replace H53 := Lib.hid (H53.out.below b)
              replace H54 := Lib.hid (H54.out.below b)
              replace H55 := Lib.hid (H55.out.below b)
              clear b
              have HF := HB.out
              have HRR := Lib.hid (show (-1 * 0 : Int) = r from by have h := HI.out.2.2.2.2.2.2; rw [cf_zero HI.out.2.2.2.2.1 HI.out.2.2.2.2.2.1 HE.out (.inr HZ.out), HV.out] at h; exact h)
              clear IPQ IRS IL IT ML MT HI HC HE HZL HV HZ
              clear H5 H6 H7 H8 HB H52 H53 H54 H55
              clear HL5 HL6 HL7 HL8
              go_wp2_with fail
              go_ret
              exact ⟨ret_int (by rw [← HRR.out]; rfl), HF⟩
            · have HV := Lib.hid (show cmpI' (P % Q) (R % S) = 1 from by unfold cmpI'; rw [if_neg (by omega), if_pos hv])
              clear hv
              have gH530 := H53.out.c0
              have gH531 := H53.out.c1
              have gH550 := H55.out.c0
              have gH551 := H55.out.c1
              go_wp2_with fail
              refine (icompare_lim (P % Q) (R % S) _ _ _ H53.out.2 H55.out.2 IL.out IT.out (1) HV.out).mono ?_
              rintro e w59 ⟨rfl, b⟩
              clear gH530 gH531 gH550 gH551
              have z59 := b.size
              replace z59 := Lib.hid z59
              replace H5 := Lib.hid (H5.out.below b)
              replace H6 := Lib.hid (H6.out.below b)
              replace H7 := Lib.hid (H7.out.below b)
              replace H8 := Lib.hid (H8.out.below b)
              replace HB := Lib.hid (bstep HB.out b)
              replace H52 := Lib.hid (H52.out.below b)
              replace H53 := Lib.hid (H53.out.below b)
              replace H54 := Lib.hid (H54.out.below b)
              replace H55 := Lib.hid (H55.out.below b)
              clear b
              have HF := HB.out
              have HRR := Lib.hid (show (-1 * 1 : Int) = r from by have h := HI.out.2.2.2.2.2.2; rw [cf_zero HI.out.2.2.2.2.1 HI.out.2.2.2.2.2.1 HE.out (.inr HZ.out), HV.out] at h; exact h)
              clear IPQ IRS IL IT ML MT HI HC HE HZL HV HZ
              clear H5 H6 H7 H8 HB H52 H53 H54 H55
              clear HL5 HL6 HL7 HL8
              go_wp2_with fail
              go_ret
              exact ⟨ret_int (by rw [← HRR.out]; rfl), HF⟩
          · have HZ := Lib.hid hz2
            clear hz2
            have gH530 := H53.out.c0
            have gH531 := H53.out.c1
            go_wp2_with fail
            refine (isign_lim (P % Q) _ _ H53.out.2 IL.out 1 HSG.out).mono ?_
            rintro e w57 ⟨rfl, b⟩
            clear gH530 gH531
            have z57 := b.size
            replace z57 := Lib.hid z57
            replace H5 := Lib.hid (H5.out.below b)
            replace H6 := Lib.hid (H6.out.below b)
            replace H7 := Lib.hid (H7.out.below b)
            replace H8 := Lib.hid (H8.out.below b)
            replace HB := Lib.hid (bstep HB.out b)
            replace H52 := Lib.hid (H52.out.below b)
            replace H53 := Lib.hid (H53.out.below b)
            replace H54 := Lib.hid (H54.out.below b)
            replace H55 := Lib.hid (H55.out.below b)
            clear b
            clear HSG
            have HSG := Lib.hid (show cmpI' (R % S) 0 = 1 from by have := MT.out.1; have := HZ.out; unfold cmpI'; rw [if_neg (by omega), if_pos (by omega)])
            have gH550 := H55.out.c0
            have gH551 := H55.out.c1
            go_wp2_with fail
            refine (isign_lim (R % S) _ _ H55.out.2 IT.out 1 HSG.out).mono ?_
            rintro e w58 ⟨rfl, b⟩
            clear gH550 gH551
            have z58 := b.size
            replace z58 := Lib.hid z58
            replace H5 := Lib.hid (H5.out.below b)
            replace H6 := Lib.hid (H6.out.below b)
            replace H7 := Lib.hid (H7.out.below b)
            replace H8 := Lib.hid (H8.out.below b)
            replace HB := Lib.hid (bstep HB.out b)
            replace H52 := Lib.hid (H52.out.below b)
            replace H53 := Lib.hid (H53.out.below b)
            replace H54 := Lib.hid (H54.out.below b)
            replace H55 := Lib.hid (H55.out.below b)
            clear b
            clear HSG
            have V6 := Lib.hid H6.out.2
            have V8 := Lib.hid H8.out.2
            have V53 := Lib.hid H53.out.2
            have V55 := Lib.hid H55.out.2
            have gH60 := H6.out.c0
            have gH61 := H6.out.c1
            have gH530 := H53.out.c0
            have gH531 := H53.out.c1
            have gH80 := H8.out.c0
            have gH81 := H8.out.c1
            have gH550 := H55.out.c0
            have gH551 := H55.out.c1
            clear H52
            clear H54
            have hl5 := HL5.out
            have hl6 := HL6.out
            have hl7 := HL7.out
            have hl8 := HL8.out
            have z52_ := z52.out
            have z54_ := z54.out
            have z56_ := z56.out
            have z57_ := z57.out
            have z58_ := z58.out
            have y56 := x5_6.out
            have y57 := x5_7.out
            have y67 := x6_7.out
            have y58 := x5_8.out
            have y68 := x6_8.out
            have y78 := x7_8.out
            have m5 := L5.out
            have m6 := L6.out
            have m7 := L7.out
            have m8 := L8.out
            have sH5a0 := H5.out.c0
            have tH5a0 := H5.out.1.f0
            have sH5a1 := H5.out.c1
            have tH5a1 := H5.out.1.f1
            have BK := Lib.hid H5.out.1
            have NB := Lib.hid (HoldI.made V6.out H5.out.1)
            replace H6 := Lib.hid (H6.out.off (u := .bool d6) (u' := .slice A6 n6 c6) BK.out (by omega))
            replace H7 := Lib.hid (H7.out.off (u := .bool d6) (u' := .slice A6 n6 c6) BK.out (by omega))
            replace H8 := Lib.hid (H8.out.off (u := .bool d6) (u' := .slice A6 n6 c6) BK.out (by omega))
            replace HB := Lib.hid (below_off (u := .bool d6) (u' := .slice A6 n6 c6) (g := g5) HB.out (by omega))
            replace H53 := Lib.hid (H53.out.off (u := .bool d6) (u' := .slice A6 n6 c6) BK.out (by omega))
            replace H55 := Lib.hid (H55.out.off (u := .bool d6) (u' := .slice A6 n6 c6) BK.out (by omega))
            replace V6 := Lib.hid (V6.out.st (u := .bool d6) (u' := .slice A6 n6 c6) BK.out)
            replace V8 := Lib.hid (V8.out.st (u := .bool d6) (u' := .slice A6 n6 c6) BK.out)
            replace V53 := Lib.hid (V53.out.st (u := .bool d6) (u' := .slice A6 n6 c6) BK.out)
            replace V55 := Lib.hid (V55.out.st (u := .bool d6) (u' := .slice A6 n6 c6) BK.out)
            clear H5 BK
            have H5 := NB
            clear NB
            have f5_53_0 := H53.out.c0
            have f5_53_1 := H53.out.c1
            have f5_8_0 := H8.out.c0
            have f5_8_1 := H8.out.c1
            have f5_55_0 := H55.out.c0
            have f5_55_1 := H55.out.c1
            have sH6a0 := H6.out.c0
            have tH6a0 := H6.out.1.f0
            have sH6a1 := H6.out.c1
            have tH6a1 := H6.out.1.f1
            have BK := Lib.hid H6.out.1
            have NB := Lib.hid (HoldI.made V53.out H6.out.1)
            replace H5 := Lib.hid (H5.out.off (u := .bool d53) (u' := .slice A53 n53 c53) BK.out (by omega))
            replace H7 := Lib.hid (H7.out.off (u := .bool d53) (u' := .slice A53 n53 c53) BK.out (by omega))
            replace H8 := Lib.hid (H8.out.off (u := .bool d53) (u' := .slice A53 n53 c53) BK.out (by omega))
            replace HB := Lib.hid (below_off (u := .bool d53) (u' := .slice A53 n53 c53) (g := g6) HB.out (by omega))
            replace H53 := Lib.hid (H53.out.off (u := .bool d53) (u' := .slice A53 n53 c53) BK.out (by omega))
            replace H55 := Lib.hid (H55.out.off (u := .bool d53) (u' := .slice A53 n53 c53) BK.out (by omega))
            replace V6 := Lib.hid (V6.out.st (u := .bool d53) (u' := .slice A53 n53 c53) BK.out)
            replace V8 := Lib.hid (V8.out.st (u := .bool d53) (u' := .slice A53 n53 c53) BK.out)
            replace V53 := Lib.hid (V53.out.st (u := .bool d53) (u' := .slice A53 n53 c53) BK.out)
            replace V55 := Lib.hid (V55.out.st (u := .bool d53) (u' := .slice A53 n53 c53) BK.out)
            clear H6 BK
            have H6 := NB
            clear NB
            have f6_8_0 := H8.out.c0
            have f6_8_1 := H8.out.c1
            have f6_55_0 := H55.out.c0
            have f6_55_1 := H55.out.c1
            have sH7a0 := H7.out.c0
            have tH7a0 := H7.out.1.f0
            have sH7a1 := H7.out.c1
            have tH7a1 := H7.out.1.f1
            have BK := Lib.hid H7.out.1
            have NB := Lib.hid (HoldI.made V8.out H7.out.1)
            replace H5 := Lib.hid (H5.out.off (u := .bool d8) (u' := .slice A8 n8 c8) BK.out (by omega))
            replace H6 := Lib.hid (H6.out.off (u := .bool d8) (u' := .slice A8 n8 c8) BK.out (by omega))
            replace H8 := Lib.hid (H8.out.off (u := .bool d8) (u' := .slice A8 n8 c8) BK.out (by omega))
            replace HB := Lib.hid (below_off (u := .bool d8) (u' := .slice A8 n8 c8) (g := g7) HB.out (by omega))
            replace H53 := Lib.hid (H53.out.off (u := .bool d8) (u' := .slice A8 n8 c8) BK.out (by omega))
            replace H55 := Lib.hid (H55.out.off (u := .bool d8) (u' := .slice A8 n8 c8) BK.out (by omega))
            replace V6 := Lib.hid (V6.out.st (u := .bool d8) (u' := .slice A8 n8 c8) BK.out)
            replace V8 := Lib.hid (V8.out.st (u := .bool d8) (u' := .slice A8 n8 c8) BK.out)
            replace V53 := Lib.hid (V53.out.st (u := .bool d8) (u' := .slice A8 n8 c8) BK.out)
            replace V55 := Lib.hid (V55.out.st (u := .bool d8) (u' := .slice A8 n8 c8) BK.out)
            clear H7 BK
            have H7 := NB
            clear NB
            have f7_55_0 := H55.out.c0
            have f7_55_1 := H55.out.c1
            have sH8a0 := H8.out.c0
            have tH8a0 := H8.out.1.f0
            have sH8a1 := H8.out.c1
            have tH8a1 := H8.out.1.f1
            have BK := Lib.hid H8.out.1
            have NB := Lib.hid (HoldI.made V55.out H8.out.1)
            replace H5 := Lib.hid (H5.out.off (u := .bool d55) (u' := .slice A55 n55 c55) BK.out (by omega))
            replace H6 := Lib.hid (H6.out.off (u := .bool d55) (u' := .slice A55 n55 c55) BK.out (by omega))
            replace H7 := Lib.hid (H7.out.off (u := .bool d55) (u' := .slice A55 n55 c55) BK.out (by omega))
            replace HB := Lib.hid (below_off (u := .bool d55) (u' := .slice A55 n55 c55) (g := g8) HB.out (by omega))
            replace H53 := Lib.hid (H53.out.off (u := .bool d55) (u' := .slice A55 n55 c55) BK.out (by omega))
            replace H55 := Lib.hid (H55.out.off (u := .bool d55) (u' := .slice A55 n55 c55) BK.out (by omega))
            replace V6 := Lib.hid (V6.out.st (u := .bool d55) (u' := .slice A55 n55 c55) BK.out)
            replace V8 := Lib.hid (V8.out.st (u := .bool d55) (u' := .slice A55 n55 c55) BK.out)
            replace V53 := Lib.hid (V53.out.st (u := .bool d55) (u' := .slice A55 n55 c55) BK.out)
            replace V55 := Lib.hid (V55.out.st (u := .bool d55) (u' := .slice A55 n55 c55) BK.out)
            clear H8 BK
            have H8 := NB
            clear NB
            have HN := Lib.hid (show InL Q ∧ InL (P % Q) ∧ InL S ∧ InL (R % S) ∧ 0 < P % Q ∧ 0 < R % S ∧ (1) * cmpI' (Q * (R % S)) (S * (P % Q)) = r from ⟨HI.out.2.1, IL.out, HI.out.2.2.2.1, IT.out, by have := ML.out.1; have := HZL.out; omega, by have := MT.out.1; have := HZ.out; omega, by have h := HI.out.2.2.2.2.2.2; rw [cf_next HI.out.2.2.2.2.1 HI.out.2.2.2.2.2.1 HE.out] at h; omega⟩)
            have hms : (P % Q).toNat < Q.toNat := by have h1 := ML.out; omega
            clear HI IPQ IRS IL IT ML MT HC HE HZL HZ
            clear V6 V8 V53 V55
            go_wp2_with fail
            go_region
            go_wp2_with fail
            go_roundg (P % Q).toNat
            case measure => exact hms
            case rel => exact ⟨Q, P % Q, S, R % S, 1, _, _, _, _, _, _, _, _, _, _, _, _, _, _, _, _, rfl, rfl, .inl rfl, Lib.hid (H5.out.below (below_drew (Below.refl _ _))), Lib.hid (H6.out.below (below_drew (Below.refl _ _))), Lib.hid (H7.out.below (below_drew (Below.refl _ _))), Lib.hid (H8.out.below (below_drew (Below.refl _ _))), HN, Lib.hid (below_drew HB.out)⟩
      · have HC := Lib.hid (show cmpI' (P / Q) (R / S) = 1 from by unfold cmpI'; rw [if_neg (by omega), if_pos hw])
        have HNE := Lib.hid (show P / Q ≠ R / S from by omega)
        clear hw
        have gH520 := H52.out.c0
        have gH521 := H52.out.c1
        have gH540 := H54.out.c0
        have gH541 := H54.out.c1
        go_wp2_with fail
        refine (icompare_lim (P / Q) (R / S) _ _ _ H52.out.2 H54.out.2 IPQ.out IRS.out (1) (HC.out)).mono ?_
        rintro e w56 ⟨rfl, b⟩
        clear gH520 gH521 gH540 gH541
        have z56 := b.size
        simp only [World.size_alloc] at z56
        replace z56 := Lib.hid z56
        replace H5 := Lib.hid (H5.out.below b)
        replace H6 := Lib.hid (H6.out.below b)
        replace H7 := Lib.hid (H7.out.below b)
        replace H8 := Lib.hid (H8.out.below b)
        replace HB := Lib.hid (bstep HB.out b)
        replace H52 := Lib.hid (H52.out.below b)
        replace H53 := Lib.hid (H53.out.below b)
        replace H54 := Lib.hid (H54.out.below b)
        replace H55 := Lib.hid (H55.out.below b)
        clear b
        have HF := HB.out
        have HRR := Lib.hid (show (-1 * 1 : Int) = r from by have h := HI.out.2.2.2.2.2.2; rw [cf_diff HI.out.2.2.2.2.1 HI.out.2.2.2.2.2.1 HNE.out, HC.out] at h; exact h)
        clear IPQ IRS IL IT ML MT HI HC HNE
        clear H5 H6 H7 H8 HB H52 H53 H54 H55
        clear HL5 HL6 HL7 HL8
        go_wp2_with fail
        go_ret
        exact ⟨ret_int (by rw [← HRR.out]; rfl), HF⟩
end Go.Proofs.YtocooajlfpngdaaGreatDoor
