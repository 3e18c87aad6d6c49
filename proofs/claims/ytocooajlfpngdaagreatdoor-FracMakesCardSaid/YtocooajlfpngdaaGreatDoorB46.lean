/- Layer 4's laws: the drawn regions of FracMakes. · Layer 4's laws: FracMakes. -/
import Derived.Test.YtocooajlfpngdaaGreatDoorB45
import Derived.Deep.LoopGhost
import Derived.Test.YtocooajlfpngdaaGreatDoorB44
namespace Go.Proofs.YtocooajlfpngdaaGreatDoor
open Go.RowKit
set_option linter.unusedVariables false

def mk_r3_ops : Array Oper := #[
  { dst := some 31, op := .load 24 (.tmp 7), type := 24, pos := "law.go:58", after := #[], guard := none },
  { dst := some 32, op := .call { callee := .value (.func 14), args := #[.const (.int .i64 9000)], argTypes := #[3] }, type := 24, pos := "law.go:58", after := #[], guard := none },
  { dst := some 33, op := .call { callee := .value (.func 13), args := #[.tmp 31, .tmp 32], argTypes := #[24, 24] }, type := 24, pos := "law.go:58", after := #[⟨0, .data⟩, ⟨1, .data⟩, ⟨1, .chain⟩], guard := none },
  { dst := some 9, op := .alloc 24, type := 0, pos := "law.go:58", after := #[], guard := none },
  { dst := none, op := .store 24 (.tmp 9) (.tmp 33), type := 0, pos := "law.go:58", after := #[⟨3, .data⟩, ⟨2, .data⟩, ⟨2, .chain⟩, ⟨0, .phase⟩, ⟨1, .phase⟩, ⟨2, .phase⟩, ⟨3, .phase⟩], guard := none }]
set_option maxRecDepth 100000 in
set_option maxHeartbeats 2000000 in
theorem mk_r3 {Q : Exit → Act → World → Prop} {a0 : Act} {w0 : World} {p P9 : Int} {p7 : Nat} {d7 : Bool} {A7 : Option Addr} {n7 c7 : Nat} (hN : a0.tmps.size = 120) (t7 : a0.tmps[7]? = some (.pointer (some ⟨p7, 0, none⟩))) (H7 : HoldN w0 p7 p d7 A7 n7 c7) (bp : Bits 1300 p) (hP : ∀ w, Calls Tryz.prog 14 #[.int .i64 9000] w (NewN P9 w)) (bP : Bits 9001 P9)
    (hQ : ∀ (w : World) (v31 v32 v33 : Value) (g9 : Nat) (d9 : Bool) (A9 : Option Addr) (n9 c9 : Nat), Below w0.heap.size w0 w → HoldN w g9 (p * P9) d9 A9 n9 c9 → w0.heap.size ≤ g9 → Q .normal ⟨([(31, v31), (32, v32), (33, v33), (9, .pointer (some ⟨g9, 0, none⟩))] : List (Nat × Value)).foldl (fun ts p => ts.setIfInBounds p.1 p.2) a0.tmps, a0.defers⟩ w) :
    (Code.region 3 mk_r3_ops true).wp Tryz.prog Q a0 w0 := by
  refine wp_region_boxes' (ty := 24) (cl := [.val 31 (IsN (p)), .val 32 (IsN (P9)), .val 33 (IsN (p * P9)), .new 9, .put 9 (IsN (p * P9))]) 120 (by kernel_rfl) hN (by kernel_rfl) ?_ ?_ ?_
  · exact ⟨IsN.stb _ _, IsN.stb _ _, IsN.stb _ _, trivial, IsN.stb _ _, trivial⟩
  · refine ⟨?_, ?_, ?_, ?_, ?_, trivial⟩
    · intro l ac w h hd K hK
      exact o_loadN rfl GdOk.none (ev_t ((h.same 7 (not_dst (by kernel_rfl))).trans t7)) (H7.below h.below).c0 (H7.below h.below).c1 (hK _ _ (H7.below h.below).2 (Below.refl _ _))
    · intro l ac w h hd K hK
      exact o_call1 rfl GdOk.none rfl (enters_of Tryz.func14 (by kernel_rfl) rfl) ((hP _).mono fun e w' ⟨v, he, h1, h2⟩ => ⟨_, he, hK _ _ h1 h2⟩)
    · intro l ac w h hd K hK
      obtain ⟨v0, hv0, hF0⟩ := h.fact 0 _ rfl (dep hd 0 (by kernel_rfl))
      obtain ⟨v1, hv1, hF1⟩ := h.fact 1 _ rfl (dep hd 1 (by kernel_rfl))
      exact o_call2 rfl GdOk.none (ev_t hv0) (ev_t hv1) (enters_of Tryz.func13 (by kernel_rfl) rfl) ((mul_any _ _ _ _ _ hF0 hF1 ((bp).mono (by omega)) ((bP).mono (by omega))).mono fun e w' ⟨v, he, h1, h2⟩ => ⟨_, he, hK _ _ h1 h2⟩)
    · intro ac w K hK
      exact o_allocN rfl GdOk.none hK
    · refine ⟨⟨3, rfl⟩, fun l ac w h hd => ?_⟩
      obtain ⟨g, hg, hlt, e, A, n, c, hB⟩ := h.fact 3 _ rfl (dep hd 3 (by kernel_rfl))
      obtain ⟨v2, hv2, hF2⟩ := h.fact 2 _ rfl (dep hd 2 (by kernel_rfl))
      obtain ⟨d1, A1, n1, c1, rfl⟩ := RepN.shape' hF2
      exact ⟨g, d1, A1, n1, c1, e, A, n, c, hg, hlt, hB, hF2, fun K hK => o_store2 (by first | exact Or.inl rfl | exact Or.inr rfl) rfl GdOk.none (ev_t hg) (ev_t hv2) hB hK⟩
  · intro l ac w h hall
    obtain ⟨v31, q31, r31⟩ := h.fact 0 _ rfl (hall 0 (of_decide_eq_true (by kernel_rfl)))
    obtain ⟨v32, q32, r32⟩ := h.fact 1 _ rfl (hall 1 (of_decide_eq_true (by kernel_rfl)))
    obtain ⟨v33, q33, r33⟩ := h.fact 2 _ rfl (hall 2 (of_decide_eq_true (by kernel_rfl)))
    obtain ⟨g9, q9, l9, d9, A9, n9, c9, B9, F9⟩ := h.fact 4 _ rfl (hall 4 (of_decide_eq_true (by kernel_rfl)))
    have ha := act_of [(31, v31), (32, v32), (33, v33), (9, .pointer (some ⟨g9, 0, none⟩))] h.defers h.size (List.forall_mem_cons.2 ⟨q31, List.forall_mem_cons.2 ⟨q32, List.forall_mem_cons.2 ⟨q33, List.forall_mem_cons.2 ⟨q9, fun _ h => by cases h⟩⟩⟩⟩) (fun t ht => h.same t (fun hm => ht (in_dst (F := [31, 32, 33, 9]) (by kernel_rfl) hm)))
    rw [ha]
    exact hQ w _ _ _ _ _ _ _ _ h.below ⟨B9, F9⟩ l9 
def mk_r4_ops : Array Oper := #[
  { dst := some 34, op := .load 24 (.tmp 7), type := 24, pos := "law.go:59", after := #[], guard := none },
  { dst := some 35, op := .load 24 (.tmp 8), type := 24, pos := "law.go:59", after := #[], guard := none },
  { dst := some 36, op := .load 24 (.tmp 8), type := 24, pos := "law.go:59", after := #[], guard := none },
  { dst := some 37, op := .call { callee := .value (.func 15), args := #[.tmp 36], argTypes := #[24] }, type := 24, pos := "law.go:59", after := #[⟨2, .data⟩], guard := none },
  { dst := some 38, op := .call { callee := .value (.func 16), args := #[.const (.int .i64 0)], argTypes := #[3] }, type := 24, pos := "law.go:59", after := #[⟨3, .chain⟩], guard := none },
  { dst := some 39, op := .move (.tmp 0), type := 3, pos := "law.go:59", after := #[], guard := none },
  { dst := some 40, op := .call { callee := .value (.func 16), args := #[.tmp 39], argTypes := #[3] }, type := 24, pos := "law.go:59", after := #[⟨5, .data⟩, ⟨4, .chain⟩], guard := none },
  { dst := some 41, op := .load 24 (.tmp 9), type := 24, pos := "law.go:59", after := #[], guard := none },
  { dst := some 42, op := .buildSlice 30 6 #[(0, .tmp 34), (1, .tmp 35), (2, .tmp 37), (3, .tmp 38), (4, .tmp 40), (5, .tmp 41)], type := 30, pos := "law.go:59", after := #[⟨0, .data⟩, ⟨1, .data⟩, ⟨3, .data⟩, ⟨4, .data⟩, ⟨6, .data⟩, ⟨7, .data⟩], guard := none },
  { dst := some 10, op := .assign (.tmp 42), type := 30, pos := "law.go:59", after := #[⟨8, .data⟩, ⟨6, .chain⟩, ⟨0, .phase⟩, ⟨1, .phase⟩, ⟨2, .phase⟩, ⟨3, .phase⟩, ⟨4, .phase⟩, ⟨5, .phase⟩, ⟨6, .phase⟩, ⟨7, .phase⟩, ⟨8, .phase⟩], guard := none }]
set_option maxRecDepth 100000 in
set_option maxHeartbeats 2000000 in
theorem mk_r4 {Q : Exit → Act → World → Prop} {a0 : Act} {w0 : World} {m p q h : Int} {p7 : Nat} {d7 : Bool} {A7 : Option Addr} {n7 c7 : Nat} {p8 : Nat} {d8 : Bool} {A8 : Option Addr} {n8 c8 : Nat} {p9 : Nat} {d9 : Bool} {A9 : Option Addr} {n9 c9 : Nat} (hN : a0.tmps.size = 120) (t0 : a0.tmps[0]? = some (.int .i64 m)) (t7 : a0.tmps[7]? = some (.pointer (some ⟨p7, 0, none⟩))) (H7 : HoldN w0 p7 p d7 A7 n7 c7) (t8 : a0.tmps[8]? = some (.pointer (some ⟨p8, 0, none⟩))) (H8 : HoldN w0 p8 q d8 A8 n8 c8) (t9 : a0.tmps[9]? = some (.pointer (some ⟨p9, 0, none⟩))) (H9 : HoldN w0 p9 h d9 A9 n9 c9) (hm : -9223372036854775808 ≤ m ∧ m ≤ 9223372036854775807)
    (hQ : ∀ (w : World) (v34 v35 v36 v37 v38 v39 v40 v41 v42 v10 : Value) , Below w0.heap.size w0 w → (IsRowN ([p, q, -q, 0, m, h]) 6) v10 w → Q .normal ⟨([(34, v34), (35, v35), (36, v36), (37, v37), (38, v38), (39, v39), (40, v40), (41, v41), (42, v42), (10, v10)] : List (Nat × Value)).foldl (fun ts p => ts.setIfInBounds p.1 p.2) a0.tmps, a0.defers⟩ w) :
    (Code.region 4 mk_r4_ops true).wp Tryz.prog Q a0 w0 := by
  refine wp_region_boxes4' (ty := 0) (cl := [.val 34 (IsN (p)), .val 35 (IsN (q)), .val 36 (IsN (q)), .val 37 (IsN (-q)), .val 38 (IsN (0)), .val 39 (Is (.int .i64 m)), .val 40 (IsN (m)), .val 41 (IsN (h)), .val 42 (IsRowN ([p, q, -q, 0, m, h]) 6), .val 10 (IsRowN ([p, q, -q, 0, m, h]) 6)]) 120 (by kernel_rfl) hN (by kernel_rfl) ?_ ?_ ?_
  · exact ⟨IsN.stb4 _ _, IsN.stb4 _ _, IsN.stb4 _ _, IsN.stb4 _ _, IsN.stb4 _ _, Is.stb4 _ _, IsN.stb4 _ _, IsN.stb4 _ _, IsRowN.stb4 _ _ _, IsRowN.stb4 _ _ _, trivial⟩
  · refine ⟨?_, ?_, ?_, ?_, ?_, ?_, ?_, ?_, ?_, ?_, trivial⟩
    · intro l ac w h hd K hK
      exact o_loadN rfl GdOk.none (ev_t ((h.same 7 (not_dst (by kernel_rfl))).trans t7)) (H7.below h.below).c0 (H7.below h.below).c1 (hK _ _ (H7.below h.below).2 (Below.refl _ _))
    · intro l ac w h hd K hK
      exact o_loadN rfl GdOk.none (ev_t ((h.same 8 (not_dst (by kernel_rfl))).trans t8)) (H8.below h.below).c0 (H8.below h.below).c1 (hK _ _ (H8.below h.below).2 (Below.refl _ _))
    · intro l ac w h hd K hK
      exact o_loadN rfl GdOk.none (ev_t ((h.same 8 (not_dst (by kernel_rfl))).trans t8)) (H8.below h.below).c0 (H8.below h.below).c1 (hK _ _ (H8.below h.below).2 (Below.refl _ _))
    · intro l ac w h hd K hK
      obtain ⟨v2, hv2, hF2⟩ := h.fact 2 _ rfl (dep hd 2 (by kernel_rfl))
      exact o_call1 rfl GdOk.none (ev_t hv2) (enters_of Tryz.func15 (by kernel_rfl) rfl) ((neg_any _ _ _ hF2).mono fun e w' ⟨v, he, h1, h2⟩ => ⟨_, he, hK _ _ h1 h2⟩)
    · intro l ac w h hd K hK
      exact o_call1 rfl GdOk.none rfl (enters_of Tryz.func16 (by kernel_rfl) rfl) ((of_any 0 _ (by omega) (by omega)).mono fun e w' ⟨v, he, h1, h2⟩ => ⟨_, he, hK _ _ h1 h2⟩)
    · intro l ac w h hd K hK
      exact o_move rfl GdOk.none (ev_t ((h.same 0 (not_dst (by kernel_rfl))).trans t0)) (hK _ _ rfl (Below.refl _ _))
    · intro l ac w h hd K hK
      obtain ⟨v5, hv5, rfl⟩ := h.fact 5 _ rfl (dep hd 5 (by kernel_rfl))
      exact o_call1 rfl GdOk.none (ev_t hv5) (enters_of Tryz.func16 (by kernel_rfl) rfl) ((of_any m _ (by omega) (by omega)).mono fun e w' ⟨v, he, h1, h2⟩ => ⟨_, he, hK _ _ h1 h2⟩)
    · intro l ac w h hd K hK
      exact o_loadN rfl GdOk.none (ev_t ((h.same 9 (not_dst (by kernel_rfl))).trans t9)) (H9.below h.below).c0 (H9.below h.below).c1 (hK _ _ (H9.below h.below).2 (Below.refl _ _))
    · intro l ac w h hd K hK
      obtain ⟨v0, hv0, hF0⟩ := h.fact 0 _ rfl (dep hd 0 (by kernel_rfl))
      obtain ⟨v1, hv1, hF1⟩ := h.fact 1 _ rfl (dep hd 1 (by kernel_rfl))
      obtain ⟨v3, hv3, hF3⟩ := h.fact 3 _ rfl (dep hd 3 (by kernel_rfl))
      obtain ⟨v4, hv4, hF4⟩ := h.fact 4 _ rfl (dep hd 4 (by kernel_rfl))
      obtain ⟨v6, hv6, hF6⟩ := h.fact 6 _ rfl (dep hd 6 (by kernel_rfl))
      obtain ⟨v7, hv7, hF7⟩ := h.fact 7 _ rfl (dep hd 7 (by kernel_rfl))
      obtain ⟨d0, A0, n0, c0, rfl⟩ := RepN.shape' hF0
      obtain ⟨d1, A1, n1, c1, rfl⟩ := RepN.shape' hF1
      obtain ⟨d3, A3, n3, c3, rfl⟩ := RepN.shape' hF3
      obtain ⟨d4, A4, n4, c4, rfl⟩ := RepN.shape' hF4
      obtain ⟨d6, A6, n6, c6, rfl⟩ := RepN.shape' hF6
      obtain ⟨d7, A7, n7, c7, rfl⟩ := RepN.shape' hF7
      exact o_build6N rfl GdOk.none (ev_t hv0) (ev_t hv1) (ev_t hv3) (ev_t hv4) (ev_t hv6) (ev_t hv7) hF0 hF1 hF3 hF4 hF6 hF7 hK
    · intro l ac w h hd K hK
      obtain ⟨v8, hv8, hF8⟩ := h.fact 8 _ rfl (dep hd 8 (by kernel_rfl))
      exact o_assign rfl GdOk.none (ev_t hv8) (hK _ _ hF8 (Below.refl _ _))
  · intro l ac w h hall
    obtain ⟨v34, q34, r34⟩ := h.fact 0 _ rfl (hall 0 (of_decide_eq_true (by kernel_rfl)))
    obtain ⟨v35, q35, r35⟩ := h.fact 1 _ rfl (hall 1 (of_decide_eq_true (by kernel_rfl)))
    obtain ⟨v36, q36, r36⟩ := h.fact 2 _ rfl (hall 2 (of_decide_eq_true (by kernel_rfl)))
    obtain ⟨v37, q37, r37⟩ := h.fact 3 _ rfl (hall 3 (of_decide_eq_true (by kernel_rfl)))
    obtain ⟨v38, q38, r38⟩ := h.fact 4 _ rfl (hall 4 (of_decide_eq_true (by kernel_rfl)))
    obtain ⟨v39, q39, r39⟩ := h.fact 5 _ rfl (hall 5 (of_decide_eq_true (by kernel_rfl)))
    obtain ⟨v40, q40, r40⟩ := h.fact 6 _ rfl (hall 6 (of_decide_eq_true (by kernel_rfl)))
    obtain ⟨v41, q41, r41⟩ := h.fact 7 _ rfl (hall 7 (of_decide_eq_true (by kernel_rfl)))
    obtain ⟨v42, q42, r42⟩ := h.fact 8 _ rfl (hall 8 (of_decide_eq_true (by kernel_rfl)))
    obtain ⟨v10, q10, r10⟩ := h.fact 9 _ rfl (hall 9 (of_decide_eq_true (by kernel_rfl)))
    have ha := act_of [(34, v34), (35, v35), (36, v36), (37, v37), (38, v38), (39, v39), (40, v40), (41, v41), (42, v42), (10, v10)] h.defers h.size (List.forall_mem_cons.2 ⟨q34, List.forall_mem_cons.2 ⟨q35, List.forall_mem_cons.2 ⟨q36, List.forall_mem_cons.2 ⟨q37, List.forall_mem_cons.2 ⟨q38, List.forall_mem_cons.2 ⟨q39, List.forall_mem_cons.2 ⟨q40, List.forall_mem_cons.2 ⟨q41, List.forall_mem_cons.2 ⟨q42, List.forall_mem_cons.2 ⟨q10, fun _ h => by cases h⟩⟩⟩⟩⟩⟩⟩⟩⟩⟩) (fun t ht => h.same t (fun hm => ht (in_dst (F := [34, 35, 36, 37, 38, 39, 40, 41, 42, 10]) (by kernel_rfl) hm)))
    rw [ha]
    exact hQ w _ _ _ _ _ _ _ _ _ _ h.below   r10
def mk_r11_ops : Array Oper := #[
  { dst := some 54, op := .move (.tmp 10), type := 30, pos := "law.go:62", after := #[], guard := none },
  { dst := some 55, op := .move (.tmp 11), type := 3, pos := "law.go:62", after := #[], guard := none },
  { dst := some 56, op := .indexAddr 30 (.tmp 54) (.tmp 55), type := 0, pos := "law.go:62", after := #[⟨0, .data⟩, ⟨1, .data⟩], guard := none },
  { dst := some 57, op := .load 24 (.tmp 56), type := 24, pos := "law.go:62", after := #[⟨2, .data⟩], guard := none },
  { dst := some 58, op := .call { callee := .value (.func 18), args := #[.tmp 57], argTypes := #[24] }, type := 34, pos := "law.go:62", after := #[⟨3, .data⟩], guard := none },
  { dst := some 59, op := .move (.tmp 10), type := 30, pos := "law.go:62", after := #[], guard := none },
  { dst := some 60, op := .move (.tmp 12), type := 3, pos := "law.go:62", after := #[], guard := none },
  { dst := some 61, op := .indexAddr 30 (.tmp 59) (.tmp 60), type := 0, pos := "law.go:62", after := #[⟨5, .data⟩, ⟨6, .data⟩], guard := none },
  { dst := some 62, op := .load 24 (.tmp 61), type := 24, pos := "law.go:62", after := #[⟨7, .data⟩], guard := none },
  { dst := some 63, op := .call { callee := .value (.func 18), args := #[.tmp 62], argTypes := #[24] }, type := 34, pos := "law.go:62", after := #[⟨8, .data⟩, ⟨4, .chain⟩], guard := none },
  { dst := some 64, op := .call { callee := .value (.func 17), args := #[.tmp 58, .tmp 63], argTypes := #[34, 34] }, type := 38, pos := "law.go:62", after := #[⟨4, .data⟩, ⟨9, .data⟩, ⟨9, .chain⟩], guard := none },
  { dst := some 53, op := .move (.tmp 64), type := 38, pos := "law.go:62", after := #[⟨10, .data⟩], guard := none },
  { dst := some 65, op := .extract (.tmp 53) 0, type := 36, pos := "law.go:62", after := #[⟨11, .data⟩], guard := none },
  { dst := some 66, op := .extract (.tmp 53) 1, type := 37, pos := "law.go:62", after := #[⟨11, .data⟩, ⟨15, .gcOnly .lateStores⟩], guard := none },
  { dst := some 13, op := .alloc 36, type := 0, pos := "law.go:62", after := #[], guard := none },
  { dst := none, op := .store 36 (.tmp 13) (.tmp 65), type := 0, pos := "law.go:62", after := #[⟨14, .data⟩, ⟨12, .data⟩, ⟨10, .chain⟩, ⟨0, .phase⟩, ⟨1, .phase⟩, ⟨2, .phase⟩, ⟨3, .phase⟩, ⟨4, .phase⟩, ⟨5, .phase⟩, ⟨6, .phase⟩, ⟨7, .phase⟩, ⟨8, .phase⟩, ⟨9, .phase⟩, ⟨10, .phase⟩, ⟨11, .phase⟩, ⟨12, .phase⟩, ⟨13, .textOnly .lateStores⟩, ⟨14, .phase⟩], guard := none },
  { dst := some 14, op := .assign (.tmp 66), type := 37, pos := "law.go:62", after := #[⟨13, .data⟩, ⟨15, .chain⟩, ⟨0, .phase⟩, ⟨1, .phase⟩, ⟨2, .phase⟩, ⟨3, .phase⟩, ⟨4, .phase⟩, ⟨5, .phase⟩, ⟨6, .phase⟩, ⟨7, .phase⟩, ⟨8, .phase⟩, ⟨9, .phase⟩, ⟨10, .phase⟩, ⟨11, .phase⟩, ⟨12, .phase⟩, ⟨13, .phase⟩, ⟨14, .phase⟩, ⟨15, .phase⟩], guard := none }]
set_option maxRecDepth 100000 in
set_option maxHeartbeats 2000000 in
theorem mk_r11 {Q : Exit → Act → World → Prop} {a0 : Act} {w0 : World} {i k : Nat} {z y : Int} {p10 c10 : Nat} {dHi : Bool} {AHi : Option Addr} {nHi cHi : Nat} {dHk : Bool} {AHk : Option Addr} {nHk cHk : Nat} (hN : a0.tmps.size = 120) (t10 : a0.tmps[10]? = some (.slice (some ⟨p10, 0, none⟩) 6 c10)) (t11 : a0.tmps[11]? = some (.int .i64 (i : Int))) (t12 : a0.tmps[12]? = some (.int .i64 (k : Int))) (hi : i < 6) (hk : k < 6) (Hi : HoldE w0 p10 i z dHi AHi nHi cHi) (Hk : HoldE w0 p10 k y dHk AHk nHk cHk) (lz : InL z) (ly : InL y)
    (hQ : ∀ (w : World) (v54 v55 v56 v57 v58 v59 v60 v61 v62 v63 v64 v53 v65 v66 v14 : Value) (g13 : Nat) (d13 : Bool) (A13 : Option Addr) (n13 c13 : Nat) (e13 : Bool) (E13 : Option Addr) (m13 f13 : Nat), Below w0.heap.size w0 w → HoldQ w g13 (Rat.divInt (z) (y)) d13 A13 n13 c13 e13 E13 m13 f13 → w0.heap.size ≤ g13 → (Is (.int .i64 (makeE (y)))) v14 w → Q .normal ⟨([(54, v54), (55, v55), (56, v56), (57, v57), (58, v58), (59, v59), (60, v60), (61, v61), (62, v62), (63, v63), (64, v64), (53, v53), (65, v65), (66, v66), (14, v14), (13, .pointer (some ⟨g13, 0, none⟩))] : List (Nat × Value)).foldl (fun ts p => ts.setIfInBounds p.1 p.2) a0.tmps, a0.defers⟩ w) :
    (Code.region 11 mk_r11_ops true).wp Tryz.prog Q a0 w0 := by
  refine wp_region_boxes4' (ty := 36) (cl := [.val 54 (Is (.slice (some ⟨p10, 0, none⟩) 6 c10)), .val 55 (Is (.int .i64 i)), .val 56 (Is (.pointer (some ⟨p10, i * 2, none⟩))), .val 57 (IsN (z)), .val 58 (IsI (z)), .val 59 (Is (.slice (some ⟨p10, 0, none⟩) 6 c10)), .val 60 (Is (.int .i64 k)), .val 61 (Is (.pointer (some ⟨p10, k * 2, none⟩))), .val 62 (IsN (y)), .val 63 (IsI (y)), .val 64 (IsQE (Rat.divInt (z) (y)) (makeE (y))), .val 53 (IsQE (Rat.divInt (z) (y)) (makeE (y))), .val 65 (IsQ (Rat.divInt (z) (y))), .val 66 (Is (.int .i64 (makeE (y)))), .new 13, .put 13 (IsQ (Rat.divInt (z) (y))), .val 14 (Is (.int .i64 (makeE (y))))]) 120 (by kernel_rfl) hN (by kernel_rfl) ?_ ?_ ?_
  · exact ⟨Is.stb4 _ _, Is.stb4 _ _, Is.stb4 _ _, IsN.stb4 _ _, IsI.stb4 _ _, Is.stb4 _ _, Is.stb4 _ _, Is.stb4 _ _, IsN.stb4 _ _, IsI.stb4 _ _, IsQE.stb4 _ _ _, IsQE.stb4 _ _ _, IsQ.stb4 _ _, Is.stb4 _ _, trivial, IsQ.stb4 _ _, Is.stb4 _ _, trivial⟩
  · refine ⟨?_, ?_, ?_, ?_, ?_, ?_, ?_, ?_, ?_, ?_, ?_, ?_, ?_, ?_, ?_, ?_, ?_, trivial⟩
    · intro l ac w h hd K hK
      exact o_move rfl GdOk.none (ev_t ((h.same 10 (not_dst (by kernel_rfl))).trans t10)) (hK _ _ rfl (Below.refl _ _))
    · intro l ac w h hd K hK
      exact o_move rfl GdOk.none (ev_t ((h.same 11 (not_dst (by kernel_rfl))).trans t11)) (hK _ _ rfl (Below.refl _ _))
    · intro l ac w h hd K hK
      obtain ⟨v0, hv0, rfl⟩ := h.fact 0 _ rfl (dep hd 0 (by kernel_rfl))
      obtain ⟨v1, hv1, rfl⟩ := h.fact 1 _ rfl (dep hd 1 (by kernel_rfl))
      exact o_indexN (i := i) rfl GdOk.none (ev_t hv0) (ev_t hv1) hi (hK _ _ rfl (Below.refl _ _))
    · intro l ac w h hd K hK
      obtain ⟨v2, hv2, rfl⟩ := h.fact 2 _ rfl (dep hd 2 (by kernel_rfl))
      exact o_loadN rfl GdOk.none (ev_t hv2) (Hi.below h.below).c0 (Hi.below h.below).c1 (hK _ _ (Hi.below h.below).rep (Below.refl _ _))
    · intro l ac w h hd K hK
      obtain ⟨v3, hv3, hF3⟩ := h.fact 3 _ rfl (dep hd 3 (by kernel_rfl))
      exact o_call1 rfl GdOk.none (ev_t hv3) (enters_of Tryz.func18 (by kernel_rfl) rfl) ((number_law _ _ _ hF3 lz).mono fun e w' ⟨v, he, h1, h2⟩ => ⟨_, he, hK _ _ h1 h2⟩)
    · intro l ac w h hd K hK
      exact o_move rfl GdOk.none (ev_t ((h.same 10 (not_dst (by kernel_rfl))).trans t10)) (hK _ _ rfl (Below.refl _ _))
    · intro l ac w h hd K hK
      exact o_move rfl GdOk.none (ev_t ((h.same 12 (not_dst (by kernel_rfl))).trans t12)) (hK _ _ rfl (Below.refl _ _))
    · intro l ac w h hd K hK
      obtain ⟨v5, hv5, rfl⟩ := h.fact 5 _ rfl (dep hd 5 (by kernel_rfl))
      obtain ⟨v6, hv6, rfl⟩ := h.fact 6 _ rfl (dep hd 6 (by kernel_rfl))
      exact o_indexN (i := k) rfl GdOk.none (ev_t hv5) (ev_t hv6) hk (hK _ _ rfl (Below.refl _ _))
    · intro l ac w h hd K hK
      obtain ⟨v7, hv7, rfl⟩ := h.fact 7 _ rfl (dep hd 7 (by kernel_rfl))
      exact o_loadN rfl GdOk.none (ev_t hv7) (Hk.below h.below).c0 (Hk.below h.below).c1 (hK _ _ (Hk.below h.below).rep (Below.refl _ _))
    · intro l ac w h hd K hK
      obtain ⟨v8, hv8, hF8⟩ := h.fact 8 _ rfl (dep hd 8 (by kernel_rfl))
      exact o_call1 rfl GdOk.none (ev_t hv8) (enters_of Tryz.func18 (by kernel_rfl) rfl) ((number_law _ _ _ hF8 ly).mono fun e w' ⟨v, he, h1, h2⟩ => ⟨_, he, hK _ _ h1 h2⟩)
    · intro l ac w h hd K hK
      obtain ⟨v4, hv4, hF4⟩ := h.fact 4 _ rfl (dep hd 4 (by kernel_rfl))
      obtain ⟨v9, hv9, hF9⟩ := h.fact 9 _ rfl (dep hd 9 (by kernel_rfl))
      exact o_call2 rfl GdOk.none (ev_t hv4) (ev_t hv9) (enters_of Tryz.func17 (by kernel_rfl) rfl) ((make_any _ _ _ _ _ hF4 hF9 lz ly).mono fun e w' ⟨v, he, h1, h2⟩ => ⟨_, he, hK _ _ ⟨v, rfl, h1⟩ h2⟩)
    · intro l ac w h hd K hK
      obtain ⟨v10, hv10, u10, rfl, hF10⟩ := h.fact 10 _ rfl (dep hd 10 (by kernel_rfl))
      exact o_move rfl GdOk.none (ev_t hv10) (hK _ _ ⟨u10, rfl, hF10⟩ (Below.refl _ _))
    · intro l ac w h hd K hK
      obtain ⟨v11, hv11, u11, rfl, hF11⟩ := h.fact 11 _ rfl (dep hd 11 (by kernel_rfl))
      exact o_ext0 rfl GdOk.none (ev_t hv11) (hK _ _ hF11 (Below.refl _ _))
    · intro l ac w h hd K hK
      obtain ⟨v11, hv11, u11, rfl, hF11⟩ := h.fact 11 _ rfl (dep hd 11 (by kernel_rfl))
      exact o_ext1 rfl GdOk.none (ev_t hv11) (hK _ _ rfl (Below.refl _ _))
    · intro ac w K hK
      exact o_allocQ rfl GdOk.none hK
    · refine ⟨⟨14, rfl⟩, fun l ac w h hd => ?_⟩
      obtain ⟨g, hg, hlt, e, A, n, c, e', A', n', c', hB⟩ := h.fact 14 _ rfl (dep hd 14 (by kernel_rfl))
      obtain ⟨v12, hv12, hF12⟩ := h.fact 12 _ rfl (dep hd 12 (by kernel_rfl))
      obtain ⟨d1, A1, n1, c1, d2, A2, n2, c2, rfl⟩ := RepF.shape hF12
      exact ⟨g, d1, A1, n1, c1, d2, A2, n2, c2, e, A, n, c, e', A', n', c', hg, hlt, hB, hF12, fun K hK => o_store4 (by first | exact Or.inl rfl | exact Or.inr rfl) rfl GdOk.none (ev_t hg) (ev_t hv12) hB hK⟩
    · intro l ac w h hd K hK
      obtain ⟨v13, hv13, rfl⟩ := h.fact 13 _ rfl (dep hd 13 (by kernel_rfl))
      exact o_assign rfl GdOk.none (ev_t hv13) (hK _ _ rfl (Below.refl _ _))
  · intro l ac w h hall
    obtain ⟨v54, q54, r54⟩ := h.fact 0 _ rfl (hall 0 (of_decide_eq_true (by kernel_rfl)))
    obtain ⟨v55, q55, r55⟩ := h.fact 1 _ rfl (hall 1 (of_decide_eq_true (by kernel_rfl)))
    obtain ⟨v56, q56, r56⟩ := h.fact 2 _ rfl (hall 2 (of_decide_eq_true (by kernel_rfl)))
    obtain ⟨v57, q57, r57⟩ := h.fact 3 _ rfl (hall 3 (of_decide_eq_true (by kernel_rfl)))
    obtain ⟨v58, q58, r58⟩ := h.fact 4 _ rfl (hall 4 (of_decide_eq_true (by kernel_rfl)))
    obtain ⟨v59, q59, r59⟩ := h.fact 5 _ rfl (hall 5 (of_decide_eq_true (by kernel_rfl)))
    obtain ⟨v60, q60, r60⟩ := h.fact 6 _ rfl (hall 6 (of_decide_eq_true (by kernel_rfl)))
    obtain ⟨v61, q61, r61⟩ := h.fact 7 _ rfl (hall 7 (of_decide_eq_true (by kernel_rfl)))
    obtain ⟨v62, q62, r62⟩ := h.fact 8 _ rfl (hall 8 (of_decide_eq_true (by kernel_rfl)))
    obtain ⟨v63, q63, r63⟩ := h.fact 9 _ rfl (hall 9 (of_decide_eq_true (by kernel_rfl)))
    obtain ⟨v64, q64, r64⟩ := h.fact 10 _ rfl (hall 10 (of_decide_eq_true (by kernel_rfl)))
    obtain ⟨v53, q53, r53⟩ := h.fact 11 _ rfl (hall 11 (of_decide_eq_true (by kernel_rfl)))
    obtain ⟨v65, q65, r65⟩ := h.fact 12 _ rfl (hall 12 (of_decide_eq_true (by kernel_rfl)))
    obtain ⟨v66, q66, r66⟩ := h.fact 13 _ rfl (hall 13 (of_decide_eq_true (by kernel_rfl)))
    obtain ⟨v14, q14, r14⟩ := h.fact 16 _ rfl (hall 16 (of_decide_eq_true (by kernel_rfl)))
    obtain ⟨g13, q13, l13, d13, A13, n13, c13, e13, E13, m13, f13, B13, F13⟩ := h.fact 15 _ rfl (hall 15 (of_decide_eq_true (by kernel_rfl)))
    have ha := act_of [(54, v54), (55, v55), (56, v56), (57, v57), (58, v58), (59, v59), (60, v60), (61, v61), (62, v62), (63, v63), (64, v64), (53, v53), (65, v65), (66, v66), (14, v14), (13, .pointer (some ⟨g13, 0, none⟩))] h.defers h.size (List.forall_mem_cons.2 ⟨q54, List.forall_mem_cons.2 ⟨q55, List.forall_mem_cons.2 ⟨q56, List.forall_mem_cons.2 ⟨q57, List.forall_mem_cons.2 ⟨q58, List.forall_mem_cons.2 ⟨q59, List.forall_mem_cons.2 ⟨q60, List.forall_mem_cons.2 ⟨q61, List.forall_mem_cons.2 ⟨q62, List.forall_mem_cons.2 ⟨q63, List.forall_mem_cons.2 ⟨q64, List.forall_mem_cons.2 ⟨q53, List.forall_mem_cons.2 ⟨q65, List.forall_mem_cons.2 ⟨q66, List.forall_mem_cons.2 ⟨q14, List.forall_mem_cons.2 ⟨q13, fun _ h => by cases h⟩⟩⟩⟩⟩⟩⟩⟩⟩⟩⟩⟩⟩⟩⟩⟩) (fun t ht => h.same t (fun hm => ht (in_dst (F := [54, 55, 56, 57, 58, 59, 60, 61, 62, 63, 64, 53, 65, 66, 14, 13]) (by kernel_rfl) hm)))
    rw [ha]
    exact hQ w _ _ _ _ _ _ _ _ _ _ _ _ _ _ _ _ _ _ _ _ _ _ _ _ h.below ⟨B13, F13⟩ l13 r14
def mk_r12_ops : Array Oper := #[
  { dst := some 68, op := .move (.tmp 10), type := 30, pos := "law.go:63", after := #[], guard := none },
  { dst := some 69, op := .move (.tmp 11), type := 3, pos := "law.go:63", after := #[], guard := none },
  { dst := some 70, op := .indexAddr 30 (.tmp 68) (.tmp 69), type := 0, pos := "law.go:63", after := #[⟨0, .data⟩, ⟨1, .data⟩], guard := none },
  { dst := some 71, op := .load 24 (.tmp 70), type := 24, pos := "law.go:63", after := #[⟨2, .data⟩], guard := none },
  { dst := some 72, op := .move (.tmp 10), type := 30, pos := "law.go:63", after := #[], guard := none },
  { dst := some 73, op := .move (.tmp 12), type := 3, pos := "law.go:63", after := #[], guard := none },
  { dst := some 74, op := .indexAddr 30 (.tmp 72) (.tmp 73), type := 0, pos := "law.go:63", after := #[⟨4, .data⟩, ⟨5, .data⟩], guard := none },
  { dst := some 75, op := .load 24 (.tmp 74), type := 24, pos := "law.go:63", after := #[⟨6, .data⟩], guard := none },
  { dst := some 76, op := .call { callee := .value (.func 19), args := #[.tmp 71, .tmp 75], argTypes := #[24, 24] }, type := 43, pos := "law.go:63", after := #[⟨3, .data⟩, ⟨7, .data⟩], guard := none },
  { dst := some 67, op := .move (.tmp 76), type := 43, pos := "law.go:63", after := #[⟨8, .data⟩], guard := none },
  { dst := some 77, op := .extract (.tmp 67) 0, type := 42, pos := "law.go:63", after := #[⟨9, .data⟩], guard := none },
  { dst := some 78, op := .extract (.tmp 67) 1, type := 37, pos := "law.go:63", after := #[⟨9, .data⟩, ⟨13, .gcOnly .lateStores⟩], guard := none },
  { dst := some 15, op := .alloc 42, type := 0, pos := "law.go:63", after := #[], guard := none },
  { dst := none, op := .store 42 (.tmp 15) (.tmp 77), type := 0, pos := "law.go:63", after := #[⟨12, .data⟩, ⟨10, .data⟩, ⟨8, .chain⟩, ⟨0, .phase⟩, ⟨1, .phase⟩, ⟨2, .phase⟩, ⟨3, .phase⟩, ⟨4, .phase⟩, ⟨5, .phase⟩, ⟨6, .phase⟩, ⟨7, .phase⟩, ⟨8, .phase⟩, ⟨9, .phase⟩, ⟨10, .phase⟩, ⟨11, .textOnly .lateStores⟩, ⟨12, .phase⟩], guard := none },
  { dst := some 16, op := .assign (.tmp 78), type := 37, pos := "law.go:63", after := #[⟨11, .data⟩, ⟨13, .chain⟩, ⟨0, .phase⟩, ⟨1, .phase⟩, ⟨2, .phase⟩, ⟨3, .phase⟩, ⟨4, .phase⟩, ⟨5, .phase⟩, ⟨6, .phase⟩, ⟨7, .phase⟩, ⟨8, .phase⟩, ⟨9, .phase⟩, ⟨10, .phase⟩, ⟨11, .phase⟩, ⟨12, .phase⟩, ⟨13, .phase⟩], guard := none }]
set_option maxRecDepth 100000 in
set_option maxHeartbeats 2000000 in
theorem mk_r12 {Q : Exit → Act → World → Prop} {a0 : Act} {w0 : World} {i k : Nat} {z y : Int} {p10 c10 : Nat} {dHi : Bool} {AHi : Option Addr} {nHi cHi : Nat} {dHk : Bool} {AHk : Option Addr} {nHk cHk : Nat} (hN : a0.tmps.size = 120) (t10 : a0.tmps[10]? = some (.slice (some ⟨p10, 0, none⟩) 6 c10)) (t11 : a0.tmps[11]? = some (.int .i64 (i : Int))) (t12 : a0.tmps[12]? = some (.int .i64 (k : Int))) (hi : i < 6) (hk : k < 6) (Hi : HoldE w0 p10 i z dHi AHi nHi cHi) (Hk : HoldE w0 p10 k y dHk AHk nHk cHk) (lz : InL z) (ly : InL y)
    (hQ : ∀ (w : World) (v68 v69 v70 v71 v72 v73 v74 v75 v76 v67 v77 v78 v16 : Value) (g15 : Nat) (d15 : Bool) (A15 : Option Addr) (n15 c15 : Nat) (e15 : Bool) (E15 : Option Addr) (m15 f15 : Nat), Below w0.heap.size w0 w → HoldG w g15 (Rat.divInt (z) (y)) d15 A15 n15 c15 e15 E15 m15 f15 → w0.heap.size ≤ g15 → (Is (.int .i64 (makeE (y)))) v16 w → Q .normal ⟨([(68, v68), (69, v69), (70, v70), (71, v71), (72, v72), (73, v73), (74, v74), (75, v75), (76, v76), (67, v67), (77, v77), (78, v78), (16, v16), (15, .pointer (some ⟨g15, 0, none⟩))] : List (Nat × Value)).foldl (fun ts p => ts.setIfInBounds p.1 p.2) a0.tmps, a0.defers⟩ w) :
    (Code.region 12 mk_r12_ops true).wp Tryz.prog Q a0 w0 := by
  refine wp_region_boxes4' (ty := 42) (cl := [.val 68 (Is (.slice (some ⟨p10, 0, none⟩) 6 c10)), .val 69 (Is (.int .i64 i)), .val 70 (Is (.pointer (some ⟨p10, i * 2, none⟩))), .val 71 (IsN (z)), .val 72 (Is (.slice (some ⟨p10, 0, none⟩) 6 c10)), .val 73 (Is (.int .i64 k)), .val 74 (Is (.pointer (some ⟨p10, k * 2, none⟩))), .val 75 (IsN (y)), .val 76 (IsGE (Rat.divInt (z) (y)) (makeE (y))), .val 67 (IsGE (Rat.divInt (z) (y)) (makeE (y))), .val 77 (IsG (Rat.divInt (z) (y))), .val 78 (Is (.int .i64 (makeE (y)))), .new 15, .put 15 (IsG (Rat.divInt (z) (y))), .val 16 (Is (.int .i64 (makeE (y))))]) 120 (by kernel_rfl) hN (by kernel_rfl) ?_ ?_ ?_
  · exact ⟨Is.stb4 _ _, Is.stb4 _ _, Is.stb4 _ _, IsN.stb4 _ _, Is.stb4 _ _, Is.stb4 _ _, Is.stb4 _ _, IsN.stb4 _ _, IsGE.stb4 _ _ _, IsGE.stb4 _ _ _, IsG.stb4 _ _, Is.stb4 _ _, trivial, IsG.stb4 _ _, Is.stb4 _ _, trivial⟩
  · refine ⟨?_, ?_, ?_, ?_, ?_, ?_, ?_, ?_, ?_, ?_, ?_, ?_, ?_, ?_, ?_, trivial⟩
    · intro l ac w h hd K hK
      exact o_move rfl GdOk.none (ev_t ((h.same 10 (not_dst (by kernel_rfl))).trans t10)) (hK _ _ rfl (Below.refl _ _))
    · intro l ac w h hd K hK
      exact o_move rfl GdOk.none (ev_t ((h.same 11 (not_dst (by kernel_rfl))).trans t11)) (hK _ _ rfl (Below.refl _ _))
    · intro l ac w h hd K hK
      obtain ⟨v0, hv0, rfl⟩ := h.fact 0 _ rfl (dep hd 0 (by kernel_rfl))
      obtain ⟨v1, hv1, rfl⟩ := h.fact 1 _ rfl (dep hd 1 (by kernel_rfl))
      exact o_indexN (i := i) rfl GdOk.none (ev_t hv0) (ev_t hv1) hi (hK _ _ rfl (Below.refl _ _))
    · intro l ac w h hd K hK
      obtain ⟨v2, hv2, rfl⟩ := h.fact 2 _ rfl (dep hd 2 (by kernel_rfl))
      exact o_loadN rfl GdOk.none (ev_t hv2) (Hi.below h.below).c0 (Hi.below h.below).c1 (hK _ _ (Hi.below h.below).rep (Below.refl _ _))
    · intro l ac w h hd K hK
      exact o_move rfl GdOk.none (ev_t ((h.same 10 (not_dst (by kernel_rfl))).trans t10)) (hK _ _ rfl (Below.refl _ _))
    · intro l ac w h hd K hK
      exact o_move rfl GdOk.none (ev_t ((h.same 12 (not_dst (by kernel_rfl))).trans t12)) (hK _ _ rfl (Below.refl _ _))
    · intro l ac w h hd K hK
      obtain ⟨v4, hv4, rfl⟩ := h.fact 4 _ rfl (dep hd 4 (by kernel_rfl))
      obtain ⟨v5, hv5, rfl⟩ := h.fact 5 _ rfl (dep hd 5 (by kernel_rfl))
      exact o_indexN (i := k) rfl GdOk.none (ev_t hv4) (ev_t hv5) hk (hK _ _ rfl (Below.refl _ _))
    · intro l ac w h hd K hK
      obtain ⟨v6, hv6, rfl⟩ := h.fact 6 _ rfl (dep hd 6 (by kernel_rfl))
      exact o_loadN rfl GdOk.none (ev_t hv6) (Hk.below h.below).c0 (Hk.below h.below).c1 (hK _ _ (Hk.below h.below).rep (Below.refl _ _))
    · intro l ac w h hd K hK
      obtain ⟨v3, hv3, hF3⟩ := h.fact 3 _ rfl (dep hd 3 (by kernel_rfl))
      obtain ⟨v7, hv7, hF7⟩ := h.fact 7 _ rfl (dep hd 7 (by kernel_rfl))
      exact o_call2 rfl GdOk.none (ev_t hv3) (ev_t hv7) (enters_of Tryz.func19 (by kernel_rfl) rfl) ((gmake_any _ _ _ _ _ hF3 hF7 ((fit_bits lz).mono (by omega)) ((fit_bits ly).mono (by omega))).mono fun e w' ⟨v, he, h1, h2⟩ => ⟨_, he, hK _ _ ⟨v, rfl, h1⟩ h2⟩)
    · intro l ac w h hd K hK
      obtain ⟨v8, hv8, u8, rfl, hF8⟩ := h.fact 8 _ rfl (dep hd 8 (by kernel_rfl))
      exact o_move rfl GdOk.none (ev_t hv8) (hK _ _ ⟨u8, rfl, hF8⟩ (Below.refl _ _))
    · intro l ac w h hd K hK
      obtain ⟨v9, hv9, u9, rfl, hF9⟩ := h.fact 9 _ rfl (dep hd 9 (by kernel_rfl))
      exact o_ext0 rfl GdOk.none (ev_t hv9) (hK _ _ hF9 (Below.refl _ _))
    · intro l ac w h hd K hK
      obtain ⟨v9, hv9, u9, rfl, hF9⟩ := h.fact 9 _ rfl (dep hd 9 (by kernel_rfl))
      exact o_ext1 rfl GdOk.none (ev_t hv9) (hK _ _ rfl (Below.refl _ _))
    · intro ac w K hK
      exact o_allocG rfl GdOk.none hK
    · refine ⟨⟨12, rfl⟩, fun l ac w h hd => ?_⟩
      obtain ⟨g, hg, hlt, e, A, n, c, e', A', n', c', hB⟩ := h.fact 12 _ rfl (dep hd 12 (by kernel_rfl))
      obtain ⟨v10, hv10, hF10⟩ := h.fact 10 _ rfl (dep hd 10 (by kernel_rfl))
      obtain ⟨d1, A1, n1, c1, d2, A2, n2, c2, rfl⟩ := RepG.shape hF10
      exact ⟨g, d1, A1, n1, c1, d2, A2, n2, c2, e, A, n, c, e', A', n', c', hg, hlt, hB, hF10, fun K hK => o_store4 (by first | exact Or.inl rfl | exact Or.inr rfl) rfl GdOk.none (ev_t hg) (ev_t hv10) hB hK⟩
    · intro l ac w h hd K hK
      obtain ⟨v11, hv11, rfl⟩ := h.fact 11 _ rfl (dep hd 11 (by kernel_rfl))
      exact o_assign rfl GdOk.none (ev_t hv11) (hK _ _ rfl (Below.refl _ _))
  · intro l ac w h hall
    obtain ⟨v68, q68, r68⟩ := h.fact 0 _ rfl (hall 0 (of_decide_eq_true (by kernel_rfl)))
    obtain ⟨v69, q69, r69⟩ := h.fact 1 _ rfl (hall 1 (of_decide_eq_true (by kernel_rfl)))
    obtain ⟨v70, q70, r70⟩ := h.fact 2 _ rfl (hall 2 (of_decide_eq_true (by kernel_rfl)))
    obtain ⟨v71, q71, r71⟩ := h.fact 3 _ rfl (hall 3 (of_decide_eq_true (by kernel_rfl)))
    obtain ⟨v72, q72, r72⟩ := h.fact 4 _ rfl (hall 4 (of_decide_eq_true (by kernel_rfl)))
    obtain ⟨v73, q73, r73⟩ := h.fact 5 _ rfl (hall 5 (of_decide_eq_true (by kernel_rfl)))
    obtain ⟨v74, q74, r74⟩ := h.fact 6 _ rfl (hall 6 (of_decide_eq_true (by kernel_rfl)))
    obtain ⟨v75, q75, r75⟩ := h.fact 7 _ rfl (hall 7 (of_decide_eq_true (by kernel_rfl)))
    obtain ⟨v76, q76, r76⟩ := h.fact 8 _ rfl (hall 8 (of_decide_eq_true (by kernel_rfl)))
    obtain ⟨v67, q67, r67⟩ := h.fact 9 _ rfl (hall 9 (of_decide_eq_true (by kernel_rfl)))
    obtain ⟨v77, q77, r77⟩ := h.fact 10 _ rfl (hall 10 (of_decide_eq_true (by kernel_rfl)))
    obtain ⟨v78, q78, r78⟩ := h.fact 11 _ rfl (hall 11 (of_decide_eq_true (by kernel_rfl)))
    obtain ⟨v16, q16, r16⟩ := h.fact 14 _ rfl (hall 14 (of_decide_eq_true (by kernel_rfl)))
    obtain ⟨g15, q15, l15, d15, A15, n15, c15, e15, E15, m15, f15, B15, F15⟩ := h.fact 13 _ rfl (hall 13 (of_decide_eq_true (by kernel_rfl)))
    have ha := act_of [(68, v68), (69, v69), (70, v70), (71, v71), (72, v72), (73, v73), (74, v74), (75, v75), (76, v76), (67, v67), (77, v77), (78, v78), (16, v16), (15, .pointer (some ⟨g15, 0, none⟩))] h.defers h.size (List.forall_mem_cons.2 ⟨q68, List.forall_mem_cons.2 ⟨q69, List.forall_mem_cons.2 ⟨q70, List.forall_mem_cons.2 ⟨q71, List.forall_mem_cons.2 ⟨q72, List.forall_mem_cons.2 ⟨q73, List.forall_mem_cons.2 ⟨q74, List.forall_mem_cons.2 ⟨q75, List.forall_mem_cons.2 ⟨q76, List.forall_mem_cons.2 ⟨q67, List.forall_mem_cons.2 ⟨q77, List.forall_mem_cons.2 ⟨q78, List.forall_mem_cons.2 ⟨q16, List.forall_mem_cons.2 ⟨q15, fun _ h => by cases h⟩⟩⟩⟩⟩⟩⟩⟩⟩⟩⟩⟩⟩⟩) (fun t ht => h.same t (fun hm => ht (in_dst (F := [68, 69, 70, 71, 72, 73, 74, 75, 76, 67, 77, 78, 16, 15]) (by kernel_rfl) hm)))
    rw [ha]
    exact hQ w _ _ _ _ _ _ _ _ _ _ _ _ _ _ _ _ _ _ _ _ _ _ h.below ⟨B15, F15⟩ l15 r16
end Go.Proofs.YtocooajlfpngdaaGreatDoor
namespace Go.Proofs.YtocooajlfpngdaaGreatDoor
open Go.RowKit
set_option linter.unusedVariables false

theorem pow9 : ∃ P9 : Int, (∀ w, Calls Tryz.prog 14 #[.int .i64 9000] w (NewN P9 w)) ∧ Bits 9001 P9 := ⟨2 ^ 9000, fun w => power_any 9000 w (by omega), bits_pow 9000⟩
theorem all_six {P : Int → Prop} {a b c d e f : Int} (ha : P a) (hb : P b) (hc : P c) (hd : P d) (he : P e) (hf : P f) (i : Nat) (hi : i < 6) : P ([a, b, c, d, e, f][i]?.getD 0) := by
  have : i = 0 ∨ i = 1 ∨ i = 2 ∨ i = 3 ∨ i = 4 ∨ i = 5 := by omega
  rcases this with rfl | rfl | rfl | rfl | rfl | rfl
  · exact ha
  · exact hb
  · exact hc
  · exact hd
  · exact he
  · exact hf
theorem i64_in {n : Int} (h0 : -9223372036854775808 ≤ n) (h1 : n ≤ 9223372036854775807) : InL n := bits_lt (Bits.i64 h0 h1) (by omega)
theorem int_in {n : Int} (h0 : -9223372036854775808 ≤ n) (h1 : n ≤ 9223372036854775807) : InF (n : Rat) := by
  have h := quo_in (i64_in h0 h1) (i64_in (n := 1) (by omega) (by omega))
  rwa [divInt_one] at h
set_option maxRecDepth 100000 in
set_option maxHeartbeats 8000000 in
theorem fracMakes_law (m d : Int) (A0 : Option Addr) (n0 c0 : Nat) (zs : List Int) (w : World) (hI : InI w A0 n0 zs) (hn : n0 ≤ 9223372036854775807) (hm : -9223372036854775808 ≤ m ∧ m ≤ 9223372036854775807) (hd : -9223372036854775808 ≤ d ∧ d ≤ 9223372036854775807) :
    Calls Tryz.prog 3 #[.int .i64 m, .int .i64 d, .slice A0 n0 c0] w (fun e w' => e = .returned (.bool true) ∧ Below w.heap.size w w') := by
  obtain ⟨P9, C9, B9⟩ := pow9
  replace C9 := Lib.hid C9
  replace B9 := Lib.hid B9
  have HI := Lib.hid hI
  clear hI
  have HM := Lib.hid hm
  have HD := Lib.hid hd
  clear hm hd
  have HB := Lib.hid (Below.refl w.heap.size w)
  go_enter Tryz.func3, Tryz.ntmps3
  go_wp2_with fail
  refine (gpick_any A0 n0 c0 0 zs _ HI.out hn (by omega) (by omega)).mono ?_
  rintro e w_ ⟨r0, rfl, p0, q0, rfl⟩
  go_wp2_with fail
  refine (gpick_any A0 n0 c0 1 zs _ HI.out hn (by omega) (by omega)).mono ?_
  rintro e w_ ⟨r1, rfl, p1, q1, rfl⟩
  go_wp2_with fail
  refine (gnumber_any r0 r1 _ ⟨p0, q0⟩ ⟨p1, q1⟩).mono ?_
  rintro e w51 ⟨x51, hx, v, rfl, h, b⟩
  obtain ⟨d51, A51, n51, c51, rfl⟩ := h.shape'
  have z51 := b.size
  replace z51 := Lib.hid z51
  replace HI := Lib.hid (HI.out.below b)
  replace HB := Lib.hid (bstep HB.out b)
  have V51 := Lib.hid h
  have BZ51 := Lib.hid (show Nm x51 from hx)
  clear h b hx p0 q0 p1 q1
  have h := HoldN.new V51.out
  have b := al_below w51 (.cells #[.bool d51, .slice A51 n51 c51] 24)
  replace HI := Lib.hid (HI.out.below b)
  replace HB := Lib.hid (bstep HB.out b)
  clear b
  have H51 := Lib.hid h
  clear h V51
  go_wp2_with fail
  refine (gpick_any A0 n0 c0 2 zs _ HI.out hn (by omega) (by omega)).mono ?_
  rintro e w_ ⟨r0, rfl, p0, q0, rfl⟩
  go_wp2_with fail
  refine (gpick_any A0 n0 c0 3 zs _ HI.out hn (by omega) (by omega)).mono ?_
  rintro e w_ ⟨r1, rfl, p1, q1, rfl⟩
  go_wp2_with fail
  refine (gnumber_any r0 r1 _ ⟨p0, q0⟩ ⟨p1, q1⟩).mono ?_
  rintro e w52 ⟨x52, hx, v, rfl, h, b⟩
  obtain ⟨d52, A52, n52, c52, rfl⟩ := h.shape'
  have z52 := b.size
  simp only [World.size_alloc] at z52
  replace z52 := Lib.hid z52
  replace HI := Lib.hid (HI.out.below b)
  replace HB := Lib.hid (bstep HB.out b)
  replace H51 := Lib.hid (H51.out.below b)
  have V52 := Lib.hid h
  have BZ52 := Lib.hid (show Nm x52 from hx)
  clear h b hx p0 q0 p1 q1
  have h := HoldN.new V52.out
  have b := al_below w52 (.cells #[.bool d52, .slice A52 n52 c52] 24)
  replace HI := Lib.hid (HI.out.below b)
  replace HB := Lib.hid (bstep HB.out b)
  replace H51 := Lib.hid (H51.out.below b)
  clear b
  have H52 := Lib.hid h
  clear h V52
  clear HI
  go_wp2_with fail
  refine mk_r3 rfl rfl H51.out BZ51.out C9.out B9.out ?_
  intro w53 u31 u32 u33 g9 d9 A9 n9 c9 b h9 l9 
  simp only [List.foldl_cons, List.foldl_nil, List.setIfInBounds_toArray, List.set_cons_zero, List.set_cons_succ]
  simp only [World.size_alloc] at l9
  have z53 := b.size
  simp only [World.size_alloc] at z53
  replace z53 := Lib.hid z53
  replace HB := Lib.hid (bstep HB.out b)
  replace H51 := Lib.hid (H51.out.below b)
  replace H52 := Lib.hid (H52.out.below b)
  have H9 := Lib.hid h9
  have L9 := Lib.hid l9
  clear h9 l9
  clear b
  go_wp2_with fail
  refine mk_r4 rfl rfl rfl H51.out rfl H52.out rfl H9.out HM.out ?_
  intro w54 u34 u35 u36 u37 u38 u39 u40 u41 u42 u10   b   o10
  simp only [List.foldl_cons, List.foldl_nil, List.setIfInBounds_toArray, List.set_cons_zero, List.set_cons_succ]
  have z54 := b.size
  replace z54 := Lib.hid z54
  replace HB := Lib.hid (bstep HB.out b)
  replace H51 := Lib.hid (H51.out.below b)
  replace H52 := Lib.hid (H52.out.below b)
  replace H9 := Lib.hid (H9.out.below b)
  clear b
  obtain ⟨g10, cs, tt, rfl, -, -, hR⟩ := o10
  have HR := Lib.hid hR
  clear hR
  have HL := Lib.hid (show ∀ i < 6, InL ([x51, x52, -x52, 0, m, x51 * P9][i]?.getD 0) from fun i hi => all_six (P := InL) (bits_lt BZ51.out (by omega)) (bits_lt BZ52.out (by omega)) (bits_lt (Bits.neg BZ52.out) (by omega)) (bits_lt (Bits.zero 1) (by omega)) (bits_lt (Bits.i64 HM.out.1 HM.out.2) (by omega)) (bits_lt (Bits.mul BZ51.out B9.out) (by omega)) i hi)
  obtain ⟨L, hL⟩ : ∃ L, L = [x51, x52, -x52, 0, m, x51 * P9] := ⟨_, rfl⟩
  have hLL : L.length = 6 := by rw [hL]; rfl
  rw [← hL] at HR HL
  have HLL := Lib.hid hLL
  clear hL hLL B9 C9
  clear H51
  clear H52
  clear H9
  clear BZ51 BZ52 L9
  go_wp2_with fail
  clear z51 z52 z53 z54
  go_loopg [11] 6 (fun gk iv wr => ∃ i : Nat, gk + i = 6 ∧ iv = .int .i64 i ∧ Hid (ArrN wr g10 L) ∧ Hid (Below w.heap.size w wr))
  case atStart => exact ⟨0, by omega, rfl, HR, HB⟩
  case round =>
    clear HB HR
    obtain ⟨i, hgi, rfl, HR, HB⟩ := hrel
    by_cases hlt : (i : Int) < 6
    · have ei : IntKind.i64.wrap ((i : Int) + 1) = (i : Int) + 1 := IntWalk.i64_in _ (by omega)
      go_wp2_with fail
      obtain ⟨go, rfl⟩ : ∃ g, g = gk := ⟨_, rfl⟩
      go_loopg [12] 3 (fun gk kv wi => ∃ k : Nat, gk + k = 3 ∧ kv = .int .i64 k ∧ Hid (ArrN wi g10 L) ∧ Hid (Below w.heap.size w wi))
      case atStart => exact ⟨0, by omega, rfl, HR, HB⟩
      case round =>
        rename World => wi
        clear HB HR
        obtain ⟨k, hgk, rfl, HR, HB⟩ := hrel
        by_cases hlk : (k : Int) < 3
        · have ek : IntKind.i64.wrap ((k : Int) + 1) = (k : Int) + 1 := IntWalk.i64_in _ (by omega)
          obtain ⟨dHi, AHi, nHi, cHi, h⟩ := HR.out.get i (by rw [HLL.out]; omega)
          have ZL := HL.out i (by omega)
          obtain ⟨z, hz⟩ : ∃ z, L[i]?.getD 0 = z := ⟨_, rfl⟩
          rw [hz] at h ZL
          have Zi := Lib.hid ZL
          have Hi := Lib.hid h
          clear hz ZL h
          obtain ⟨dHk, AHk, nHk, cHk, h⟩ := HR.out.get k (by rw [HLL.out]; omega)
          have ZL := HL.out k (by omega)
          obtain ⟨y, hz⟩ : ∃ z, L[k]?.getD 0 = z := ⟨_, rfl⟩
          rw [hz] at h ZL
          have Zk := Lib.hid ZL
          have Hk := Lib.hid h
          clear hz ZL h
          go_wp2_with fail
          refine mk_r11 (i := i) (k := k) rfl rfl rfl rfl (by omega) (by omega) Hi.out Hk.out Zi.out Zk.out ?_
          intro w55 u54 u55 u56 u57 u58 u59 u60 u61 u62 u63 u64 u53 u65 u66 u14 g13 d13 A13 n13 c13 e13 E13 m13 f13 b h13 l13 o14
          obtain rfl := o14
          simp only [List.foldl_cons, List.foldl_nil, List.setIfInBounds_toArray, List.set_cons_zero, List.set_cons_succ]
          have z55 := b.size
          replace z55 := Lib.hid z55
          replace HR := Lib.hid (HR.out.below b)
          replace HB := Lib.hid (bstep HB.out b)
          replace Hi := Lib.hid (Hi.out.below b)
          replace Hk := Lib.hid (Hk.out.below b)
          have H13 := Lib.hid h13
          have L13 := Lib.hid l13
          clear h13 l13
          clear b
          go_wp2_with fail
          refine mk_r12 (i := i) (k := k) rfl rfl rfl rfl (by omega) (by omega) Hi.out Hk.out Zi.out Zk.out ?_
          intro w56 u68 u69 u70 u71 u72 u73 u74 u75 u76 u67 u77 u78 u16 g15 d15 A15 n15 c15 e15 E15 m15 f15 b h15 l15 o16
          obtain rfl := o16
          simp only [List.foldl_cons, List.foldl_nil, List.setIfInBounds_toArray, List.set_cons_zero, List.set_cons_succ]
          have z56 := b.size
          replace z56 := Lib.hid z56
          replace HR := Lib.hid (HR.out.below b)
          replace HB := Lib.hid (bstep HB.out b)
          replace Hi := Lib.hid (Hi.out.below b)
          replace Hk := Lib.hid (Hk.out.below b)
          replace H13 := Lib.hid (H13.out.below b)
          have H15 := Lib.hid h15
          have L15 := Lib.hid l15
          clear h15 l15
          clear b
          clear Hi
          clear Hk
          obtain ⟨E, hE⟩ : ∃ E, makeE y = E := ⟨_, rfl⟩
          rw [hE]
          clear hE
          have gH130 := H13.out.c0
          have gH131 := H13.out.c1
          have gH132 := H13.out.c2
          have gH133 := H13.out.c3
          have gH150 := H15.out.c0
          have gH151 := H15.out.c1
          have gH152 := H15.out.c2
          have gH153 := H15.out.c3
          go_wp2_with fail
          refine (same_law _ _ _ _ H13.out.2 H15.out.2 (quo_in Zi.out Zk.out)).mono ?_
          rintro e w57 ⟨rfl, b⟩
          clear gH130 gH131 gH132 gH133 gH150 gH151 gH152 gH153
          have z57 := b.size
          replace z57 := Lib.hid z57
          replace HR := Lib.hid (HR.out.below b)
          replace HB := Lib.hid (bstep HB.out b)
          replace H13 := Lib.hid (H13.out.below b)
          replace H15 := Lib.hid (H15.out.below b)
          clear b
          clear H13
          clear H15
          clear Zi Zk L13 L15
          go_wp2_with fail
          clear z55 z56 z57
          go_roundg (gk - 1)
          case measure => omega
          case rel => exact ⟨k + 1, by omega, by go_num, HR, HB⟩
        · skip
          go_wp2_with fail
          go_roundg (go - 1)
          case measure => omega
          case rel => exact ⟨i + 1, by omega, by go_num, HR, HB⟩
    · clear HR HL HLL
      obtain ⟨m0, m1⟩ := HM.out
      obtain ⟨d0, d1⟩ := HD.out
      have eE : ∃ E, makeE d = E := ⟨_, rfl⟩
      obtain ⟨E, hE⟩ := eE
      have CO := Lib.hid (fun w' => fof_any m d w' ⟨m0, m1⟩ ⟨d0, d1⟩)
      rw [hE] at CO
      have HEE := Lib.hid hE
      clear hE
      go_wp2_with fail
      refine (CO.out _).mono ?_
      rintro e w58 ⟨v, rfl, h, b⟩
      obtain ⟨d58, A58, n58, c58, e58, E58, m58, f58, rfl⟩ := h.shape
      have z58 := b.size
      replace z58 := Lib.hid z58
      replace HB := Lib.hid (bstep HB.out b)
      have V58 := Lib.hid h
      clear h b
      have h := HoldQ.new V58.out
      have b := al_below w58 (.cells #[.bool d58, .slice A58 n58 c58, .bool e58, .slice E58 m58 f58] 36)
      replace HB := Lib.hid (bstep HB.out b)
      clear b
      have H58 := Lib.hid h
      clear h V58
      go_wp2_with fail
      refine (of_any m _ m0 m1).mono ?_
      rintro e w59 ⟨v, rfl, h, b⟩
      obtain ⟨d59, A59, n59, c59, rfl⟩ := h.shape'
      have z59 := b.size
      simp only [World.size_alloc] at z59
      replace z59 := Lib.hid z59
      replace HB := Lib.hid (bstep HB.out b)
      replace H58 := Lib.hid (H58.out.below b)
      have V59 := Lib.hid h
      clear h b
      go_wp2_with fail
      refine (of_any d _ d0 d1).mono ?_
      rintro e w60 ⟨v, rfl, h, b⟩
      obtain ⟨d60, A60, n60, c60, rfl⟩ := h.shape'
      have z60 := b.size
      replace z60 := Lib.hid z60
      replace HB := Lib.hid (bstep HB.out b)
      replace H58 := Lib.hid (H58.out.below b)
      replace V59 := Lib.hid (V59.out.step b)
      have V60 := Lib.hid h
      clear h b
      go_wp2_with fail
      refine (HEE.out ▸ gmake_any m d _ _ _ V59.out V60.out ((Bits.i64 m0 m1).mono (by omega)) ((Bits.i64 d0 d1).mono (by omega))).mono ?_
      rintro e w61 ⟨v, rfl, h, b⟩
      obtain ⟨d61, A61, n61, c61, e61, E61, m61, f61, rfl⟩ := h.shape
      have z61 := b.size
      replace z61 := Lib.hid z61
      replace HB := Lib.hid (bstep HB.out b)
      replace H58 := Lib.hid (H58.out.below b)
      replace V59 := Lib.hid (V59.out.step b)
      replace V60 := Lib.hid (V60.out.step b)
      have V61 := Lib.hid h
      clear h b
      clear V59 V60
      have h := HoldG.new V61.out
      have b := al_below w61 (.cells #[.bool d61, .slice A61 n61 c61, .bool e61, .slice E61 m61 f61] 42)
      replace HB := Lib.hid (bstep HB.out b)
      replace H58 := Lib.hid (H58.out.below b)
      clear b
      have H61 := Lib.hid h
      clear h V61
      have gH580 := H58.out.c0
      have gH581 := H58.out.c1
      have gH582 := H58.out.c2
      have gH583 := H58.out.c3
      have gH610 := H61.out.c0
      have gH611 := H61.out.c1
      have gH612 := H61.out.c2
      have gH613 := H61.out.c3
      go_wp2_with fail
      refine (same_law _ _ _ _ H58.out.2 H61.out.2 (quo_in (i64_in m0 m1) (i64_in d0 d1))).mono ?_
      rintro e w62 ⟨rfl, b⟩
      clear gH580 gH581 gH582 gH583 gH610 gH611 gH612 gH613
      have z62 := b.size
      simp only [World.size_alloc] at z62
      replace z62 := Lib.hid z62
      replace HB := Lib.hid (bstep HB.out b)
      replace H58 := Lib.hid (H58.out.below b)
      replace H61 := Lib.hid (H61.out.below b)
      clear b
      clear H58
      clear H61
      go_wp2_with fail
      refine (whole_law m _ ⟨m0, m1⟩).mono ?_
      rintro e w63 ⟨v, rfl, h, b⟩
      obtain ⟨d63, A63, n63, c63, e63, E63, m63, f63, rfl⟩ := h.shape
      have z63 := b.size
      replace z63 := Lib.hid z63
      replace HB := Lib.hid (bstep HB.out b)
      have V63 := Lib.hid h
      clear h b
      go_wp2_with fail
      refine (gof_any m _ ⟨m0, m1⟩).mono ?_
      rintro e w64 ⟨v, rfl, h, b⟩
      obtain ⟨d64, A64, n64, c64, e64, E64, m64, f64, rfl⟩ := h.shape
      have z64 := b.size
      replace z64 := Lib.hid z64
      replace HB := Lib.hid (bstep HB.out b)
      replace V63 := Lib.hid (V63.out.step b)
      have V64 := Lib.hid h
      clear h b
      go_wp2_with fail
      refine (same_law _ _ _ _ V63.out V64.out (int_in m0 m1)).mono ?_
      rintro e w65 ⟨rfl, b⟩
      have z65 := b.size
      replace z65 := Lib.hid z65
      replace HB := Lib.hid (bstep HB.out b)
      replace V63 := Lib.hid (V63.out.step b)
      replace V64 := Lib.hid (V64.out.step b)
      clear b
      clear V63 V64
      go_wp2_with fail
      refine (lives_law _).mono ?_
      rintro e w66 ⟨rfl, b⟩
      have z66 := b.size
      replace z66 := Lib.hid z66
      replace HB := Lib.hid (bstep HB.out b)
      clear b
      have HF := HB.out
      clear HB
      go_wp2_with fail
      go_ret
      exact ⟨rfl, HF⟩
end Go.Proofs.YtocooajlfpngdaaGreatDoor
