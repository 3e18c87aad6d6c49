/- Layer 4's laws: the drawn regions of FracSums. -/
import Derived.Test.YtocooajlfpngdaaGreatDoorB48
namespace Go.Proofs.YtocooajlfpngdaaGreatDoor
open Go.RowKit
set_option linter.unusedVariables false

def su_r3_ops : Array Oper := #[
  { dst := some 30, op := .load 42 (.tmp 3), type := 42, pos := "law.go:78", after := #[], guard := none },
  { dst := some 31, op := .load 42 (.tmp 4), type := 42, pos := "law.go:78", after := #[], guard := none },
  { dst := some 32, op := .load 42 (.tmp 3), type := 42, pos := "law.go:78", after := #[], guard := none },
  { dst := some 33, op := .call { callee := .value (.func 26), args := #[.tmp 32], argTypes := #[42] }, type := 42, pos := "law.go:78", after := #[⟨2, .data⟩], guard := none },
  { dst := some 34, op := .call { callee := .value (.func 23), args := #[.const (.int .i64 0)], argTypes := #[3] }, type := 42, pos := "law.go:78", after := #[⟨3, .chain⟩], guard := none },
  { dst := some 35, op := .buildSlice 53 4 #[(0, .tmp 30), (1, .tmp 31), (2, .tmp 33), (3, .tmp 34)], type := 53, pos := "law.go:78", after := #[⟨0, .data⟩, ⟨1, .data⟩, ⟨3, .data⟩, ⟨4, .data⟩], guard := none },
  { dst := some 5, op := .assign (.tmp 35), type := 53, pos := "law.go:78", after := #[⟨5, .data⟩, ⟨4, .chain⟩, ⟨0, .phase⟩, ⟨1, .phase⟩, ⟨2, .phase⟩, ⟨3, .phase⟩, ⟨4, .phase⟩, ⟨5, .phase⟩], guard := none }]
set_option maxRecDepth 100000 in
set_option maxHeartbeats 2000000 in
theorem su_r3 {Q : Exit → Act → World → Prop} {a0 : Act} {w0 : World} {a b : Rat} {p3 : Nat} {d3 : Bool} {A3 : Option Addr} {n3 c3 : Nat} {e3 : Bool} {E3 : Option Addr} {m3 f3 : Nat} {p4 : Nat} {d4 : Bool} {A4 : Option Addr} {n4 c4 : Nat} {e4 : Bool} {E4 : Option Addr} {m4 f4 : Nat} (hN : a0.tmps.size = 169) (t3 : a0.tmps[3]? = some (.pointer (some ⟨p3, 0, none⟩))) (H3 : HoldG w0 p3 a d3 A3 n3 c3 e3 E3 m3 f3) (t4 : a0.tmps[4]? = some (.pointer (some ⟨p4, 0, none⟩))) (H4 : HoldG w0 p4 b d4 A4 n4 c4 e4 E4 m4 f4)
    (hQ : ∀ (w : World) (v30 v31 v32 v33 v34 v35 v5 : Value) , Below w0.heap.size w0 w → (IsRowG ([a, b, -a, ((0 : Int) : Rat)]) 4) v5 w → Q .normal ⟨([(30, v30), (31, v31), (32, v32), (33, v33), (34, v34), (35, v35), (5, v5)] : List (Nat × Value)).foldl (fun ts p => ts.setIfInBounds p.1 p.2) a0.tmps, a0.defers⟩ w) :
    (Code.region 3 su_r3_ops true).wp Tryz.prog Q a0 w0 := by
  refine wp_region_boxes4' (ty := 0) (cl := [.val 30 (IsG (a)), .val 31 (IsG (b)), .val 32 (IsG (a)), .val 33 (IsG (-a)), .val 34 (IsG (((0 : Int) : Rat))), .val 35 (IsRowG ([a, b, -a, ((0 : Int) : Rat)]) 4), .val 5 (IsRowG ([a, b, -a, ((0 : Int) : Rat)]) 4)]) 169 (by kernel_rfl) hN (by kernel_rfl) ?_ ?_ ?_
  · exact ⟨IsG.stb4 _ _, IsG.stb4 _ _, IsG.stb4 _ _, IsG.stb4 _ _, IsG.stb4 _ _, IsRowG.stb4 _ _ _, IsRowG.stb4 _ _ _, trivial⟩
  · refine ⟨?_, ?_, ?_, ?_, ?_, ?_, ?_, trivial⟩
    · intro l ac w h hd K hK
      exact o_loadG rfl GdOk.none (ev_t ((h.same 3 (not_dst (by kernel_rfl))).trans t3)) (H3.below h.below).c0 (H3.below h.below).c1 (H3.below h.below).c2 (H3.below h.below).c3 (hK _ _ (H3.below h.below).2 (Below.refl _ _))
    · intro l ac w h hd K hK
      exact o_loadG rfl GdOk.none (ev_t ((h.same 4 (not_dst (by kernel_rfl))).trans t4)) (H4.below h.below).c0 (H4.below h.below).c1 (H4.below h.below).c2 (H4.below h.below).c3 (hK _ _ (H4.below h.below).2 (Below.refl _ _))
    · intro l ac w h hd K hK
      exact o_loadG rfl GdOk.none (ev_t ((h.same 3 (not_dst (by kernel_rfl))).trans t3)) (H3.below h.below).c0 (H3.below h.below).c1 (H3.below h.below).c2 (H3.below h.below).c3 (hK _ _ (H3.below h.below).2 (Below.refl _ _))
    · intro l ac w h hd K hK
      obtain ⟨v2, hv2, hF2⟩ := h.fact 2 _ rfl (dep hd 2 (by kernel_rfl))
      exact o_call1 rfl GdOk.none (ev_t hv2) (enters_of Tryz.func26 (by kernel_rfl) rfl) ((gneg_any _ _ _ hF2).mono fun e w' ⟨v, he, h1, h2⟩ => ⟨_, he, hK _ _ h1 h2⟩)
    · intro l ac w h hd K hK
      exact o_call1 rfl GdOk.none rfl (enters_of Tryz.func23 (by kernel_rfl) rfl) ((gof_any 0 _ (by omega)).mono fun e w' ⟨v, he, h1, h2⟩ => ⟨_, he, hK _ _ h1 h2⟩)
    · intro l ac w h hd K hK
      obtain ⟨v0, hv0, hF0⟩ := h.fact 0 _ rfl (dep hd 0 (by kernel_rfl))
      obtain ⟨v1, hv1, hF1⟩ := h.fact 1 _ rfl (dep hd 1 (by kernel_rfl))
      obtain ⟨v3, hv3, hF3⟩ := h.fact 3 _ rfl (dep hd 3 (by kernel_rfl))
      obtain ⟨v4, hv4, hF4⟩ := h.fact 4 _ rfl (dep hd 4 (by kernel_rfl))
      obtain ⟨d0, A0, n0, c0, e0, E0, m0, f0, rfl⟩ := RepG.shape hF0
      obtain ⟨d1, A1, n1, c1, e1, E1, m1, f1, rfl⟩ := RepG.shape hF1
      obtain ⟨d3, A3, n3, c3, e3, E3, m3, f3, rfl⟩ := RepG.shape hF3
      obtain ⟨d4, A4, n4, c4, e4, E4, m4, f4, rfl⟩ := RepG.shape hF4
      exact o_build4G rfl GdOk.none (ev_t hv0) (ev_t hv1) (ev_t hv3) (ev_t hv4) hF0 hF1 hF3 hF4 hK
    · intro l ac w h hd K hK
      obtain ⟨v5, hv5, hF5⟩ := h.fact 5 _ rfl (dep hd 5 (by kernel_rfl))
      exact o_assign rfl GdOk.none (ev_t hv5) (hK _ _ hF5 (Below.refl _ _))
  · intro l ac w h hall
    obtain ⟨v30, q30, r30⟩ := h.fact 0 _ rfl (hall 0 (of_decide_eq_true (by kernel_rfl)))
    obtain ⟨v31, q31, r31⟩ := h.fact 1 _ rfl (hall 1 (of_decide_eq_true (by kernel_rfl)))
    obtain ⟨v32, q32, r32⟩ := h.fact 2 _ rfl (hall 2 (of_decide_eq_true (by kernel_rfl)))
    obtain ⟨v33, q33, r33⟩ := h.fact 3 _ rfl (hall 3 (of_decide_eq_true (by kernel_rfl)))
    obtain ⟨v34, q34, r34⟩ := h.fact 4 _ rfl (hall 4 (of_decide_eq_true (by kernel_rfl)))
    obtain ⟨v35, q35, r35⟩ := h.fact 5 _ rfl (hall 5 (of_decide_eq_true (by kernel_rfl)))
    obtain ⟨v5, q5, r5⟩ := h.fact 6 _ rfl (hall 6 (of_decide_eq_true (by kernel_rfl)))
    have ha := act_of [(30, v30), (31, v31), (32, v32), (33, v33), (34, v34), (35, v35), (5, v5)] h.defers h.size (List.forall_mem_cons.2 ⟨q30, List.forall_mem_cons.2 ⟨q31, List.forall_mem_cons.2 ⟨q32, List.forall_mem_cons.2 ⟨q33, List.forall_mem_cons.2 ⟨q34, List.forall_mem_cons.2 ⟨q35, List.forall_mem_cons.2 ⟨q5, fun _ h => by cases h⟩⟩⟩⟩⟩⟩⟩) (fun t ht => h.same t (fun hm => ht (in_dst (F := [30, 31, 32, 33, 34, 35, 5]) (by kernel_rfl) hm)))
    rw [ha]
    exact hQ w _ _ _ _ _ _ _ h.below   r5
def su_r13_ops : Array Oper := #[
  { dst := some 61, op := .move (.tmp 5), type := 53, pos := "law.go:84", after := #[], guard := none },
  { dst := some 62, op := .move (.tmp 6), type := 3, pos := "law.go:84", after := #[], guard := none },
  { dst := some 63, op := .indexAddr 53 (.tmp 61) (.tmp 62), type := 0, pos := "law.go:84", after := #[⟨0, .data⟩, ⟨1, .data⟩], guard := none },
  { dst := some 64, op := .load 42 (.tmp 63), type := 42, pos := "law.go:84", after := #[⟨2, .data⟩], guard := none },
  { dst := some 65, op := .move (.tmp 5), type := 53, pos := "law.go:84", after := #[], guard := none },
  { dst := some 66, op := .move (.tmp 7), type := 3, pos := "law.go:84", after := #[], guard := none },
  { dst := some 67, op := .indexAddr 53 (.tmp 65) (.tmp 66), type := 0, pos := "law.go:84", after := #[⟨4, .data⟩, ⟨5, .data⟩], guard := none },
  { dst := some 68, op := .load 42 (.tmp 67), type := 42, pos := "law.go:84", after := #[⟨6, .data⟩], guard := none },
  { dst := some 69, op := .call { callee := .value (.func 29), args := #[.tmp 64, .tmp 68], argTypes := #[42, 42] }, type := 43, pos := "law.go:84", after := #[⟨3, .data⟩, ⟨7, .data⟩], guard := none },
  { dst := some 60, op := .move (.tmp 69), type := 43, pos := "law.go:84", after := #[⟨8, .data⟩], guard := none },
  { dst := some 70, op := .extract (.tmp 60) 0, type := 42, pos := "law.go:84", after := #[⟨9, .data⟩], guard := none },
  { dst := some 71, op := .extract (.tmp 60) 1, type := 37, pos := "law.go:84", after := #[⟨9, .data⟩, ⟨13, .gcOnly .lateStores⟩], guard := none },
  { dst := some 12, op := .alloc 42, type := 0, pos := "law.go:84", after := #[], guard := none },
  { dst := none, op := .store 42 (.tmp 12) (.tmp 70), type := 0, pos := "law.go:84", after := #[⟨12, .data⟩, ⟨10, .data⟩, ⟨8, .chain⟩, ⟨0, .phase⟩, ⟨1, .phase⟩, ⟨2, .phase⟩, ⟨3, .phase⟩, ⟨4, .phase⟩, ⟨5, .phase⟩, ⟨6, .phase⟩, ⟨7, .phase⟩, ⟨8, .phase⟩, ⟨9, .phase⟩, ⟨10, .phase⟩, ⟨11, .textOnly .lateStores⟩, ⟨12, .phase⟩], guard := none },
  { dst := some 13, op := .assign (.tmp 71), type := 37, pos := "law.go:84", after := #[⟨11, .data⟩, ⟨13, .chain⟩, ⟨0, .phase⟩, ⟨1, .phase⟩, ⟨2, .phase⟩, ⟨3, .phase⟩, ⟨4, .phase⟩, ⟨5, .phase⟩, ⟨6, .phase⟩, ⟨7, .phase⟩, ⟨8, .phase⟩, ⟨9, .phase⟩, ⟨10, .phase⟩, ⟨11, .phase⟩, ⟨12, .phase⟩, ⟨13, .phase⟩], guard := none }]
set_option maxRecDepth 100000 in
set_option maxHeartbeats 2000000 in
theorem su_r13 {Q : Exit → Act → World → Prop} {a0 : Act} {w0 : World} {i k : Nat} {x y : Rat} {p5 c5 : Nat} {dHi : Bool} {AHi : Option Addr} {nHi cHi : Nat} {eHi : Bool} {EHi : Option Addr} {mHi fHi : Nat} {dHk : Bool} {AHk : Option Addr} {nHk cHk : Nat} {eHk : Bool} {EHk : Option Addr} {mHk fHk : Nat} (hN : a0.tmps.size = 169) (t5 : a0.tmps[5]? = some (.slice (some ⟨p5, 0, none⟩) 4 c5)) (t6 : a0.tmps[6]? = some (.int .i64 (i : Int))) (t7 : a0.tmps[7]? = some (.int .i64 (k : Int))) (hi : i < 4) (hk : k < 4) (Hi : HoldEG w0 p5 i x dHi AHi nHi cHi eHi EHi mHi fHi) (Hk : HoldEG w0 p5 k y dHk AHk nHk cHk eHk EHk mHk fHk) (li : InF x) (lk : InF y)
    (hQ : ∀ (w : World) (v61 v62 v63 v64 v65 v66 v67 v68 v69 v60 v70 v71 v13 : Value) (g12 : Nat) (d12 : Bool) (A12 : Option Addr) (n12 c12 : Nat) (e12 : Bool) (E12 : Option Addr) (m12 f12 : Nat), Below w0.heap.size w0 w → HoldG w g12 (addQ (x) (y)) d12 A12 n12 c12 e12 E12 m12 f12 → w0.heap.size ≤ g12 → (Is (.int .i64 (addR (x) (y)))) v13 w → Q .normal ⟨([(61, v61), (62, v62), (63, v63), (64, v64), (65, v65), (66, v66), (67, v67), (68, v68), (69, v69), (60, v60), (70, v70), (71, v71), (13, v13), (12, .pointer (some ⟨g12, 0, none⟩))] : List (Nat × Value)).foldl (fun ts p => ts.setIfInBounds p.1 p.2) a0.tmps, a0.defers⟩ w) :
    (Code.region 13 su_r13_ops true).wp Tryz.prog Q a0 w0 := by
  refine wp_region_boxes4' (ty := 42) (cl := [.val 61 (Is (.slice (some ⟨p5, 0, none⟩) 4 c5)), .val 62 (Is (.int .i64 i)), .val 63 (Is (.pointer (some ⟨p5, i * 4, none⟩))), .val 64 (IsG (x)), .val 65 (Is (.slice (some ⟨p5, 0, none⟩) 4 c5)), .val 66 (Is (.int .i64 k)), .val 67 (Is (.pointer (some ⟨p5, k * 4, none⟩))), .val 68 (IsG (y)), .val 69 (IsGE (addQ (x) (y)) (addR (x) (y))), .val 60 (IsGE (addQ (x) (y)) (addR (x) (y))), .val 70 (IsG (addQ (x) (y))), .val 71 (Is (.int .i64 (addR (x) (y)))), .new 12, .put 12 (IsG (addQ (x) (y))), .val 13 (Is (.int .i64 (addR (x) (y))))]) 169 (by kernel_rfl) hN (by kernel_rfl) ?_ ?_ ?_
  · exact ⟨Is.stb4 _ _, Is.stb4 _ _, Is.stb4 _ _, IsG.stb4 _ _, Is.stb4 _ _, Is.stb4 _ _, Is.stb4 _ _, IsG.stb4 _ _, IsGE.stb4 _ _ _, IsGE.stb4 _ _ _, IsG.stb4 _ _, Is.stb4 _ _, trivial, IsG.stb4 _ _, Is.stb4 _ _, trivial⟩
  · refine ⟨?_, ?_, ?_, ?_, ?_, ?_, ?_, ?_, ?_, ?_, ?_, ?_, ?_, ?_, ?_, trivial⟩
    · intro l ac w h hd K hK
      exact o_move rfl GdOk.none (ev_t ((h.same 5 (not_dst (by kernel_rfl))).trans t5)) (hK _ _ rfl (Below.refl _ _))
    · intro l ac w h hd K hK
      exact o_move rfl GdOk.none (ev_t ((h.same 6 (not_dst (by kernel_rfl))).trans t6)) (hK _ _ rfl (Below.refl _ _))
    · intro l ac w h hd K hK
      obtain ⟨v0, hv0, rfl⟩ := h.fact 0 _ rfl (dep hd 0 (by kernel_rfl))
      obtain ⟨v1, hv1, rfl⟩ := h.fact 1 _ rfl (dep hd 1 (by kernel_rfl))
      exact o_indexG (i := i) rfl GdOk.none (ev_t hv0) (ev_t hv1) hi (hK _ _ rfl (Below.refl _ _))
    · intro l ac w h hd K hK
      obtain ⟨v2, hv2, rfl⟩ := h.fact 2 _ rfl (dep hd 2 (by kernel_rfl))
      exact o_loadG rfl GdOk.none (ev_t hv2) (Hi.below h.below).c0 (Hi.below h.below).c1 (Hi.below h.below).c2 (Hi.below h.below).c3 (hK _ _ (Hi.below h.below).rep (Below.refl _ _))
    · intro l ac w h hd K hK
      exact o_move rfl GdOk.none (ev_t ((h.same 5 (not_dst (by kernel_rfl))).trans t5)) (hK _ _ rfl (Below.refl _ _))
    · intro l ac w h hd K hK
      exact o_move rfl GdOk.none (ev_t ((h.same 7 (not_dst (by kernel_rfl))).trans t7)) (hK _ _ rfl (Below.refl _ _))
    · intro l ac w h hd K hK
      obtain ⟨v4, hv4, rfl⟩ := h.fact 4 _ rfl (dep hd 4 (by kernel_rfl))
      obtain ⟨v5, hv5, rfl⟩ := h.fact 5 _ rfl (dep hd 5 (by kernel_rfl))
      exact o_indexG (i := k) rfl GdOk.none (ev_t hv4) (ev_t hv5) hk (hK _ _ rfl (Below.refl _ _))
    · intro l ac w h hd K hK
      obtain ⟨v6, hv6, rfl⟩ := h.fact 6 _ rfl (dep hd 6 (by kernel_rfl))
      exact o_loadG rfl GdOk.none (ev_t hv6) (Hk.below h.below).c0 (Hk.below h.below).c1 (Hk.below h.below).c2 (Hk.below h.below).c3 (hK _ _ (Hk.below h.below).rep (Below.refl _ _))
    · intro l ac w h hd K hK
      obtain ⟨v3, hv3, hF3⟩ := h.fact 3 _ rfl (dep hd 3 (by kernel_rfl))
      obtain ⟨v7, hv7, hF7⟩ := h.fact 7 _ rfl (dep hd 7 (by kernel_rfl))
      exact o_call2 rfl GdOk.none (ev_t hv3) (ev_t hv7) (enters_of Tryz.func29 (by kernel_rfl) rfl) ((gadd_any _ _ _ _ _ hF3 hF7 li lk).mono fun e w' ⟨v, he, h1, h2⟩ => ⟨_, he, hK _ _ ⟨v, rfl, h1⟩ h2⟩)
    · intro l ac w h hd K hK
      obtain ⟨v8, hv8, u8, rfl, hF8⟩ := h.fact 8 _ rfl (dep hd 8 (by kernel_rfl))
      exact o_move rfl GdOk.none (ev_t hv8) (hK _ _ ⟨u8, rfl, hF8⟩ (Below.refl _ _))
    · intro l ac w h hd K hK
      obtain ⟨v9, hv9, u9, rfl, hF9⟩ := h.fact 9 _ rfl (dep hd 9 (by kernel_rfl))
      exact o_ext0 rfl GdOk.none (ev_t hv9) (hK _ _ hF9 (Below.refl _ _))
    · intro l ac w h hd K hK
      obtain ⟨v9, hv9, u9, rfl, hF9⟩ := h.fact 9 _ rfl (dep hd 9 (by kernel_rfl))
      exact o_ext1 rfl GdOk.none (ev_t hv9) (hK _ _ rfl (Below.refl _ _))
    · intro ac w K hK
      exact o_allocG rfl GdOk.none hK
    · refine ⟨⟨12, rfl⟩, fun l ac w h hd => ?_⟩
      obtain ⟨g, hg, hlt, e, A, n, c, e', A', n', c', hB⟩ := h.fact 12 _ rfl (dep hd 12 (by kernel_rfl))
      obtain ⟨v10, hv10, hF10⟩ := h.fact 10 _ rfl (dep hd 10 (by kernel_rfl))
      obtain ⟨d1, A1, n1, c1, d2, A2, n2, c2, rfl⟩ := RepG.shape hF10
      exact ⟨g, d1, A1, n1, c1, d2, A2, n2, c2, e, A, n, c, e', A', n', c', hg, hlt, hB, hF10, fun K hK => o_store4 (by first | exact Or.inl rfl | exact Or.inr rfl) rfl GdOk.none (ev_t hg) (ev_t hv10) hB hK⟩
    · intro l ac w h hd K hK
      obtain ⟨v11, hv11, rfl⟩ := h.fact 11 _ rfl (dep hd 11 (by kernel_rfl))
      exact o_assign rfl GdOk.none (ev_t hv11) (hK _ _ rfl (Below.refl _ _))
  · intro l ac w h hall
    obtain ⟨v61, q61, r61⟩ := h.fact 0 _ rfl (hall 0 (of_decide_eq_true (by kernel_rfl)))
    obtain ⟨v62, q62, r62⟩ := h.fact 1 _ rfl (hall 1 (of_decide_eq_true (by kernel_rfl)))
    obtain ⟨v63, q63, r63⟩ := h.fact 2 _ rfl (hall 2 (of_decide_eq_true (by kernel_rfl)))
    obtain ⟨v64, q64, r64⟩ := h.fact 3 _ rfl (hall 3 (of_decide_eq_true (by kernel_rfl)))
    obtain ⟨v65, q65, r65⟩ := h.fact 4 _ rfl (hall 4 (of_decide_eq_true (by kernel_rfl)))
    obtain ⟨v66, q66, r66⟩ := h.fact 5 _ rfl (hall 5 (of_decide_eq_true (by kernel_rfl)))
    obtain ⟨v67, q67, r67⟩ := h.fact 6 _ rfl (hall 6 (of_decide_eq_true (by kernel_rfl)))
    obtain ⟨v68, q68, r68⟩ := h.fact 7 _ rfl (hall 7 (of_decide_eq_true (by kernel_rfl)))
    obtain ⟨v69, q69, r69⟩ := h.fact 8 _ rfl (hall 8 (of_decide_eq_true (by kernel_rfl)))
    obtain ⟨v60, q60, r60⟩ := h.fact 9 _ rfl (hall 9 (of_decide_eq_true (by kernel_rfl)))
    obtain ⟨v70, q70, r70⟩ := h.fact 10 _ rfl (hall 10 (of_decide_eq_true (by kernel_rfl)))
    obtain ⟨v71, q71, r71⟩ := h.fact 11 _ rfl (hall 11 (of_decide_eq_true (by kernel_rfl)))
    obtain ⟨v13, q13, r13⟩ := h.fact 14 _ rfl (hall 14 (of_decide_eq_true (by kernel_rfl)))
    obtain ⟨g12, q12, l12, d12, A12, n12, c12, e12, E12, m12, f12, B12, F12⟩ := h.fact 13 _ rfl (hall 13 (of_decide_eq_true (by kernel_rfl)))
    have ha := act_of [(61, v61), (62, v62), (63, v63), (64, v64), (65, v65), (66, v66), (67, v67), (68, v68), (69, v69), (60, v60), (70, v70), (71, v71), (13, v13), (12, .pointer (some ⟨g12, 0, none⟩))] h.defers h.size (List.forall_mem_cons.2 ⟨q61, List.forall_mem_cons.2 ⟨q62, List.forall_mem_cons.2 ⟨q63, List.forall_mem_cons.2 ⟨q64, List.forall_mem_cons.2 ⟨q65, List.forall_mem_cons.2 ⟨q66, List.forall_mem_cons.2 ⟨q67, List.forall_mem_cons.2 ⟨q68, List.forall_mem_cons.2 ⟨q69, List.forall_mem_cons.2 ⟨q60, List.forall_mem_cons.2 ⟨q70, List.forall_mem_cons.2 ⟨q71, List.forall_mem_cons.2 ⟨q13, List.forall_mem_cons.2 ⟨q12, fun _ h => by cases h⟩⟩⟩⟩⟩⟩⟩⟩⟩⟩⟩⟩⟩⟩) (fun t ht => h.same t (fun hm => ht (in_dst (F := [61, 62, 63, 64, 65, 66, 67, 68, 69, 60, 70, 71, 13, 12]) (by kernel_rfl) hm)))
    rw [ha]
    exact hQ w _ _ _ _ _ _ _ _ _ _ _ _ _ _ _ _ _ _ _ _ _ _ h.below ⟨B12, F12⟩ l12 r13
def su_r15_ops : Array Oper := #[
  { dst := some 79, op := .move (.tmp 5), type := 53, pos := "law.go:86", after := #[], guard := none },
  { dst := some 80, op := .move (.tmp 6), type := 3, pos := "law.go:86", after := #[], guard := none },
  { dst := some 81, op := .indexAddr 53 (.tmp 79) (.tmp 80), type := 0, pos := "law.go:86", after := #[⟨0, .data⟩, ⟨1, .data⟩], guard := none },
  { dst := some 82, op := .load 42 (.tmp 81), type := 42, pos := "law.go:86", after := #[⟨2, .data⟩], guard := none },
  { dst := some 83, op := .move (.tmp 5), type := 53, pos := "law.go:86", after := #[], guard := none },
  { dst := some 84, op := .move (.tmp 7), type := 3, pos := "law.go:86", after := #[], guard := none },
  { dst := some 85, op := .indexAddr 53 (.tmp 83) (.tmp 84), type := 0, pos := "law.go:86", after := #[⟨4, .data⟩, ⟨5, .data⟩], guard := none },
  { dst := some 86, op := .load 42 (.tmp 85), type := 42, pos := "law.go:86", after := #[⟨6, .data⟩], guard := none },
  { dst := some 87, op := .call { callee := .value (.func 31), args := #[.tmp 82, .tmp 86], argTypes := #[42, 42] }, type := 43, pos := "law.go:86", after := #[⟨3, .data⟩, ⟨7, .data⟩], guard := none },
  { dst := some 78, op := .move (.tmp 87), type := 43, pos := "law.go:86", after := #[⟨8, .data⟩], guard := none },
  { dst := some 88, op := .extract (.tmp 78) 0, type := 42, pos := "law.go:86", after := #[⟨9, .data⟩], guard := none },
  { dst := some 89, op := .extract (.tmp 78) 1, type := 37, pos := "law.go:86", after := #[⟨9, .data⟩, ⟨13, .gcOnly .lateStores⟩], guard := none },
  { dst := some 16, op := .alloc 42, type := 0, pos := "law.go:86", after := #[], guard := none },
  { dst := none, op := .store 42 (.tmp 16) (.tmp 88), type := 0, pos := "law.go:86", after := #[⟨12, .data⟩, ⟨10, .data⟩, ⟨8, .chain⟩, ⟨0, .phase⟩, ⟨1, .phase⟩, ⟨2, .phase⟩, ⟨3, .phase⟩, ⟨4, .phase⟩, ⟨5, .phase⟩, ⟨6, .phase⟩, ⟨7, .phase⟩, ⟨8, .phase⟩, ⟨9, .phase⟩, ⟨10, .phase⟩, ⟨11, .textOnly .lateStores⟩, ⟨12, .phase⟩], guard := none },
  { dst := some 17, op := .assign (.tmp 89), type := 37, pos := "law.go:86", after := #[⟨11, .data⟩, ⟨13, .chain⟩, ⟨0, .phase⟩, ⟨1, .phase⟩, ⟨2, .phase⟩, ⟨3, .phase⟩, ⟨4, .phase⟩, ⟨5, .phase⟩, ⟨6, .phase⟩, ⟨7, .phase⟩, ⟨8, .phase⟩, ⟨9, .phase⟩, ⟨10, .phase⟩, ⟨11, .phase⟩, ⟨12, .phase⟩, ⟨13, .phase⟩], guard := none }]
set_option maxRecDepth 100000 in
set_option maxHeartbeats 2000000 in
theorem su_r15 {Q : Exit → Act → World → Prop} {a0 : Act} {w0 : World} {i k : Nat} {x y : Rat} {p5 c5 : Nat} {dHi : Bool} {AHi : Option Addr} {nHi cHi : Nat} {eHi : Bool} {EHi : Option Addr} {mHi fHi : Nat} {dHk : Bool} {AHk : Option Addr} {nHk cHk : Nat} {eHk : Bool} {EHk : Option Addr} {mHk fHk : Nat} (hN : a0.tmps.size = 169) (t5 : a0.tmps[5]? = some (.slice (some ⟨p5, 0, none⟩) 4 c5)) (t6 : a0.tmps[6]? = some (.int .i64 (i : Int))) (t7 : a0.tmps[7]? = some (.int .i64 (k : Int))) (hi : i < 4) (hk : k < 4) (Hi : HoldEG w0 p5 i x dHi AHi nHi cHi eHi EHi mHi fHi) (Hk : HoldEG w0 p5 k y dHk AHk nHk cHk eHk EHk mHk fHk) (li : InF x) (lk : InF y)
    (hQ : ∀ (w : World) (v79 v80 v81 v82 v83 v84 v85 v86 v87 v78 v88 v89 v17 : Value) (g16 : Nat) (d16 : Bool) (A16 : Option Addr) (n16 c16 : Nat) (e16 : Bool) (E16 : Option Addr) (m16 f16 : Nat), Below w0.heap.size w0 w → HoldG w g16 (addQ (x) (-(y))) d16 A16 n16 c16 e16 E16 m16 f16 → w0.heap.size ≤ g16 → (Is (.int .i64 (addR (x) (-(y))))) v17 w → Q .normal ⟨([(79, v79), (80, v80), (81, v81), (82, v82), (83, v83), (84, v84), (85, v85), (86, v86), (87, v87), (78, v78), (88, v88), (89, v89), (17, v17), (16, .pointer (some ⟨g16, 0, none⟩))] : List (Nat × Value)).foldl (fun ts p => ts.setIfInBounds p.1 p.2) a0.tmps, a0.defers⟩ w) :
    (Code.region 15 su_r15_ops true).wp Tryz.prog Q a0 w0 := by
  refine wp_region_boxes4' (ty := 42) (cl := [.val 79 (Is (.slice (some ⟨p5, 0, none⟩) 4 c5)), .val 80 (Is (.int .i64 i)), .val 81 (Is (.pointer (some ⟨p5, i * 4, none⟩))), .val 82 (IsG (x)), .val 83 (Is (.slice (some ⟨p5, 0, none⟩) 4 c5)), .val 84 (Is (.int .i64 k)), .val 85 (Is (.pointer (some ⟨p5, k * 4, none⟩))), .val 86 (IsG (y)), .val 87 (IsGE (addQ (x) (-(y))) (addR (x) (-(y)))), .val 78 (IsGE (addQ (x) (-(y))) (addR (x) (-(y)))), .val 88 (IsG (addQ (x) (-(y)))), .val 89 (Is (.int .i64 (addR (x) (-(y))))), .new 16, .put 16 (IsG (addQ (x) (-(y)))), .val 17 (Is (.int .i64 (addR (x) (-(y)))))]) 169 (by kernel_rfl) hN (by kernel_rfl) ?_ ?_ ?_
  · exact ⟨Is.stb4 _ _, Is.stb4 _ _, Is.stb4 _ _, IsG.stb4 _ _, Is.stb4 _ _, Is.stb4 _ _, Is.stb4 _ _, IsG.stb4 _ _, IsGE.stb4 _ _ _, IsGE.stb4 _ _ _, IsG.stb4 _ _, Is.stb4 _ _, trivial, IsG.stb4 _ _, Is.stb4 _ _, trivial⟩
  · refine ⟨?_, ?_, ?_, ?_, ?_, ?_, ?_, ?_, ?_, ?_, ?_, ?_, ?_, ?_, ?_, trivial⟩
    · intro l ac w h hd K hK
      exact o_move rfl GdOk.none (ev_t ((h.same 5 (not_dst (by kernel_rfl))).trans t5)) (hK _ _ rfl (Below.refl _ _))
    · intro l ac w h hd K hK
      exact o_move rfl GdOk.none (ev_t ((h.same 6 (not_dst (by kernel_rfl))).trans t6)) (hK _ _ rfl (Below.refl _ _))
    · intro l ac w h hd K hK
      obtain ⟨v0, hv0, rfl⟩ := h.fact 0 _ rfl (dep hd 0 (by kernel_rfl))
      obtain ⟨v1, hv1, rfl⟩ := h.fact 1 _ rfl (dep hd 1 (by kernel_rfl))
      exact o_indexG (i := i) rfl GdOk.none (ev_t hv0) (ev_t hv1) hi (hK _ _ rfl (Below.refl _ _))
    · intro l ac w h hd K hK
      obtain ⟨v2, hv2, rfl⟩ := h.fact 2 _ rfl (dep hd 2 (by kernel_rfl))
      exact o_loadG rfl GdOk.none (ev_t hv2) (Hi.below h.below).c0 (Hi.below h.below).c1 (Hi.below h.below).c2 (Hi.below h.below).c3 (hK _ _ (Hi.below h.below).rep (Below.refl _ _))
    · intro l ac w h hd K hK
      exact o_move rfl GdOk.none (ev_t ((h.same 5 (not_dst (by kernel_rfl))).trans t5)) (hK _ _ rfl (Below.refl _ _))
    · intro l ac w h hd K hK
      exact o_move rfl GdOk.none (ev_t ((h.same 7 (not_dst (by kernel_rfl))).trans t7)) (hK _ _ rfl (Below.refl _ _))
    · intro l ac w h hd K hK
      obtain ⟨v4, hv4, rfl⟩ := h.fact 4 _ rfl (dep hd 4 (by kernel_rfl))
      obtain ⟨v5, hv5, rfl⟩ := h.fact 5 _ rfl (dep hd 5 (by kernel_rfl))
      exact o_indexG (i := k) rfl GdOk.none (ev_t hv4) (ev_t hv5) hk (hK _ _ rfl (Below.refl _ _))
    · intro l ac w h hd K hK
      obtain ⟨v6, hv6, rfl⟩ := h.fact 6 _ rfl (dep hd 6 (by kernel_rfl))
      exact o_loadG rfl GdOk.none (ev_t hv6) (Hk.below h.below).c0 (Hk.below h.below).c1 (Hk.below h.below).c2 (Hk.below h.below).c3 (hK _ _ (Hk.below h.below).rep (Below.refl _ _))
    · intro l ac w h hd K hK
      obtain ⟨v3, hv3, hF3⟩ := h.fact 3 _ rfl (dep hd 3 (by kernel_rfl))
      obtain ⟨v7, hv7, hF7⟩ := h.fact 7 _ rfl (dep hd 7 (by kernel_rfl))
      exact o_call2 rfl GdOk.none (ev_t hv3) (ev_t hv7) (enters_of Tryz.func31 (by kernel_rfl) rfl) ((gsub_any _ _ _ _ _ hF3 hF7 li lk).mono fun e w' ⟨v, he, h1, h2⟩ => ⟨_, he, hK _ _ ⟨v, rfl, h1⟩ h2⟩)
    · intro l ac w h hd K hK
      obtain ⟨v8, hv8, u8, rfl, hF8⟩ := h.fact 8 _ rfl (dep hd 8 (by kernel_rfl))
      exact o_move rfl GdOk.none (ev_t hv8) (hK _ _ ⟨u8, rfl, hF8⟩ (Below.refl _ _))
    · intro l ac w h hd K hK
      obtain ⟨v9, hv9, u9, rfl, hF9⟩ := h.fact 9 _ rfl (dep hd 9 (by kernel_rfl))
      exact o_ext0 rfl GdOk.none (ev_t hv9) (hK _ _ hF9 (Below.refl _ _))
    · intro l ac w h hd K hK
      obtain ⟨v9, hv9, u9, rfl, hF9⟩ := h.fact 9 _ rfl (dep hd 9 (by kernel_rfl))
      exact o_ext1 rfl GdOk.none (ev_t hv9) (hK _ _ rfl (Below.refl _ _))
    · intro ac w K hK
      exact o_allocG rfl GdOk.none hK
    · refine ⟨⟨12, rfl⟩, fun l ac w h hd => ?_⟩
      obtain ⟨g, hg, hlt, e, A, n, c, e', A', n', c', hB⟩ := h.fact 12 _ rfl (dep hd 12 (by kernel_rfl))
      obtain ⟨v10, hv10, hF10⟩ := h.fact 10 _ rfl (dep hd 10 (by kernel_rfl))
      obtain ⟨d1, A1, n1, c1, d2, A2, n2, c2, rfl⟩ := RepG.shape hF10
      exact ⟨g, d1, A1, n1, c1, d2, A2, n2, c2, e, A, n, c, e', A', n', c', hg, hlt, hB, hF10, fun K hK => o_store4 (by first | exact Or.inl rfl | exact Or.inr rfl) rfl GdOk.none (ev_t hg) (ev_t hv10) hB hK⟩
    · intro l ac w h hd K hK
      obtain ⟨v11, hv11, rfl⟩ := h.fact 11 _ rfl (dep hd 11 (by kernel_rfl))
      exact o_assign rfl GdOk.none (ev_t hv11) (hK _ _ rfl (Below.refl _ _))
  · intro l ac w h hall
    obtain ⟨v79, q79, r79⟩ := h.fact 0 _ rfl (hall 0 (of_decide_eq_true (by kernel_rfl)))
    obtain ⟨v80, q80, r80⟩ := h.fact 1 _ rfl (hall 1 (of_decide_eq_true (by kernel_rfl)))
    obtain ⟨v81, q81, r81⟩ := h.fact 2 _ rfl (hall 2 (of_decide_eq_true (by kernel_rfl)))
    obtain ⟨v82, q82, r82⟩ := h.fact 3 _ rfl (hall 3 (of_decide_eq_true (by kernel_rfl)))
    obtain ⟨v83, q83, r83⟩ := h.fact 4 _ rfl (hall 4 (of_decide_eq_true (by kernel_rfl)))
    obtain ⟨v84, q84, r84⟩ := h.fact 5 _ rfl (hall 5 (of_decide_eq_true (by kernel_rfl)))
    obtain ⟨v85, q85, r85⟩ := h.fact 6 _ rfl (hall 6 (of_decide_eq_true (by kernel_rfl)))
    obtain ⟨v86, q86, r86⟩ := h.fact 7 _ rfl (hall 7 (of_decide_eq_true (by kernel_rfl)))
    obtain ⟨v87, q87, r87⟩ := h.fact 8 _ rfl (hall 8 (of_decide_eq_true (by kernel_rfl)))
    obtain ⟨v78, q78, r78⟩ := h.fact 9 _ rfl (hall 9 (of_decide_eq_true (by kernel_rfl)))
    obtain ⟨v88, q88, r88⟩ := h.fact 10 _ rfl (hall 10 (of_decide_eq_true (by kernel_rfl)))
    obtain ⟨v89, q89, r89⟩ := h.fact 11 _ rfl (hall 11 (of_decide_eq_true (by kernel_rfl)))
    obtain ⟨v17, q17, r17⟩ := h.fact 14 _ rfl (hall 14 (of_decide_eq_true (by kernel_rfl)))
    obtain ⟨g16, q16, l16, d16, A16, n16, c16, e16, E16, m16, f16, B16, F16⟩ := h.fact 13 _ rfl (hall 13 (of_decide_eq_true (by kernel_rfl)))
    have ha := act_of [(79, v79), (80, v80), (81, v81), (82, v82), (83, v83), (84, v84), (85, v85), (86, v86), (87, v87), (78, v78), (88, v88), (89, v89), (17, v17), (16, .pointer (some ⟨g16, 0, none⟩))] h.defers h.size (List.forall_mem_cons.2 ⟨q79, List.forall_mem_cons.2 ⟨q80, List.forall_mem_cons.2 ⟨q81, List.forall_mem_cons.2 ⟨q82, List.forall_mem_cons.2 ⟨q83, List.forall_mem_cons.2 ⟨q84, List.forall_mem_cons.2 ⟨q85, List.forall_mem_cons.2 ⟨q86, List.forall_mem_cons.2 ⟨q87, List.forall_mem_cons.2 ⟨q78, List.forall_mem_cons.2 ⟨q88, List.forall_mem_cons.2 ⟨q89, List.forall_mem_cons.2 ⟨q17, List.forall_mem_cons.2 ⟨q16, fun _ h => by cases h⟩⟩⟩⟩⟩⟩⟩⟩⟩⟩⟩⟩⟩⟩) (fun t ht => h.same t (fun hm => ht (in_dst (F := [79, 80, 81, 82, 83, 84, 85, 86, 87, 78, 88, 89, 17, 16]) (by kernel_rfl) hm)))
    rw [ha]
    exact hQ w _ _ _ _ _ _ _ _ _ _ _ _ _ _ _ _ _ _ _ _ _ _ h.below ⟨B16, F16⟩ l16 r17
def su_r17_ops : Array Oper := #[
  { dst := some 97, op := .move (.tmp 5), type := 53, pos := "law.go:88", after := #[], guard := none },
  { dst := some 98, op := .move (.tmp 6), type := 3, pos := "law.go:88", after := #[], guard := none },
  { dst := some 99, op := .indexAddr 53 (.tmp 97) (.tmp 98), type := 0, pos := "law.go:88", after := #[⟨0, .data⟩, ⟨1, .data⟩], guard := none },
  { dst := some 100, op := .load 42 (.tmp 99), type := 42, pos := "law.go:88", after := #[⟨2, .data⟩], guard := none },
  { dst := some 101, op := .move (.tmp 5), type := 53, pos := "law.go:88", after := #[], guard := none },
  { dst := some 102, op := .move (.tmp 7), type := 3, pos := "law.go:88", after := #[], guard := none },
  { dst := some 103, op := .indexAddr 53 (.tmp 101) (.tmp 102), type := 0, pos := "law.go:88", after := #[⟨4, .data⟩, ⟨5, .data⟩], guard := none },
  { dst := some 104, op := .load 42 (.tmp 103), type := 42, pos := "law.go:88", after := #[⟨6, .data⟩], guard := none },
  { dst := some 105, op := .call { callee := .value (.func 33), args := #[.tmp 100, .tmp 104], argTypes := #[42, 42] }, type := 43, pos := "law.go:88", after := #[⟨3, .data⟩, ⟨7, .data⟩], guard := none },
  { dst := some 96, op := .move (.tmp 105), type := 43, pos := "law.go:88", after := #[⟨8, .data⟩], guard := none },
  { dst := some 106, op := .extract (.tmp 96) 0, type := 42, pos := "law.go:88", after := #[⟨9, .data⟩], guard := none },
  { dst := some 107, op := .extract (.tmp 96) 1, type := 37, pos := "law.go:88", after := #[⟨9, .data⟩, ⟨13, .gcOnly .lateStores⟩], guard := none },
  { dst := some 20, op := .alloc 42, type := 0, pos := "law.go:88", after := #[], guard := none },
  { dst := none, op := .store 42 (.tmp 20) (.tmp 106), type := 0, pos := "law.go:88", after := #[⟨12, .data⟩, ⟨10, .data⟩, ⟨8, .chain⟩, ⟨0, .phase⟩, ⟨1, .phase⟩, ⟨2, .phase⟩, ⟨3, .phase⟩, ⟨4, .phase⟩, ⟨5, .phase⟩, ⟨6, .phase⟩, ⟨7, .phase⟩, ⟨8, .phase⟩, ⟨9, .phase⟩, ⟨10, .phase⟩, ⟨11, .textOnly .lateStores⟩, ⟨12, .phase⟩], guard := none },
  { dst := some 21, op := .assign (.tmp 107), type := 37, pos := "law.go:88", after := #[⟨11, .data⟩, ⟨13, .chain⟩, ⟨0, .phase⟩, ⟨1, .phase⟩, ⟨2, .phase⟩, ⟨3, .phase⟩, ⟨4, .phase⟩, ⟨5, .phase⟩, ⟨6, .phase⟩, ⟨7, .phase⟩, ⟨8, .phase⟩, ⟨9, .phase⟩, ⟨10, .phase⟩, ⟨11, .phase⟩, ⟨12, .phase⟩, ⟨13, .phase⟩], guard := none }]
set_option maxRecDepth 100000 in
set_option maxHeartbeats 2000000 in
theorem su_r17 {Q : Exit → Act → World → Prop} {a0 : Act} {w0 : World} {i k : Nat} {x y : Rat} {p5 c5 : Nat} {dHi : Bool} {AHi : Option Addr} {nHi cHi : Nat} {eHi : Bool} {EHi : Option Addr} {mHi fHi : Nat} {dHk : Bool} {AHk : Option Addr} {nHk cHk : Nat} {eHk : Bool} {EHk : Option Addr} {mHk fHk : Nat} (hN : a0.tmps.size = 169) (t5 : a0.tmps[5]? = some (.slice (some ⟨p5, 0, none⟩) 4 c5)) (t6 : a0.tmps[6]? = some (.int .i64 (i : Int))) (t7 : a0.tmps[7]? = some (.int .i64 (k : Int))) (hi : i < 4) (hk : k < 4) (Hi : HoldEG w0 p5 i x dHi AHi nHi cHi eHi EHi mHi fHi) (Hk : HoldEG w0 p5 k y dHk AHk nHk cHk eHk EHk mHk fHk) (li : InF x) (lk : InF y)
    (hQ : ∀ (w : World) (v97 v98 v99 v100 v101 v102 v103 v104 v105 v96 v106 v107 v21 : Value) (g20 : Nat) (d20 : Bool) (A20 : Option Addr) (n20 c20 : Nat) (e20 : Bool) (E20 : Option Addr) (m20 f20 : Nat), Below w0.heap.size w0 w → HoldG w g20 (fitQ (x * y)) d20 A20 n20 c20 e20 E20 m20 f20 → w0.heap.size ≤ g20 → (Is (.int .i64 (fitR (x * y)))) v21 w → Q .normal ⟨([(97, v97), (98, v98), (99, v99), (100, v100), (101, v101), (102, v102), (103, v103), (104, v104), (105, v105), (96, v96), (106, v106), (107, v107), (21, v21), (20, .pointer (some ⟨g20, 0, none⟩))] : List (Nat × Value)).foldl (fun ts p => ts.setIfInBounds p.1 p.2) a0.tmps, a0.defers⟩ w) :
    (Code.region 17 su_r17_ops true).wp Tryz.prog Q a0 w0 := by
  refine wp_region_boxes4' (ty := 42) (cl := [.val 97 (Is (.slice (some ⟨p5, 0, none⟩) 4 c5)), .val 98 (Is (.int .i64 i)), .val 99 (Is (.pointer (some ⟨p5, i * 4, none⟩))), .val 100 (IsG (x)), .val 101 (Is (.slice (some ⟨p5, 0, none⟩) 4 c5)), .val 102 (Is (.int .i64 k)), .val 103 (Is (.pointer (some ⟨p5, k * 4, none⟩))), .val 104 (IsG (y)), .val 105 (IsGE (fitQ (x * y)) (fitR (x * y))), .val 96 (IsGE (fitQ (x * y)) (fitR (x * y))), .val 106 (IsG (fitQ (x * y))), .val 107 (Is (.int .i64 (fitR (x * y)))), .new 20, .put 20 (IsG (fitQ (x * y))), .val 21 (Is (.int .i64 (fitR (x * y))))]) 169 (by kernel_rfl) hN (by kernel_rfl) ?_ ?_ ?_
  · exact ⟨Is.stb4 _ _, Is.stb4 _ _, Is.stb4 _ _, IsG.stb4 _ _, Is.stb4 _ _, Is.stb4 _ _, Is.stb4 _ _, IsG.stb4 _ _, IsGE.stb4 _ _ _, IsGE.stb4 _ _ _, IsG.stb4 _ _, Is.stb4 _ _, trivial, IsG.stb4 _ _, Is.stb4 _ _, trivial⟩
  · refine ⟨?_, ?_, ?_, ?_, ?_, ?_, ?_, ?_, ?_, ?_, ?_, ?_, ?_, ?_, ?_, trivial⟩
    · intro l ac w h hd K hK
      exact o_move rfl GdOk.none (ev_t ((h.same 5 (not_dst (by kernel_rfl))).trans t5)) (hK _ _ rfl (Below.refl _ _))
    · intro l ac w h hd K hK
      exact o_move rfl GdOk.none (ev_t ((h.same 6 (not_dst (by kernel_rfl))).trans t6)) (hK _ _ rfl (Below.refl _ _))
    · intro l ac w h hd K hK
      obtain ⟨v0, hv0, rfl⟩ := h.fact 0 _ rfl (dep hd 0 (by kernel_rfl))
      obtain ⟨v1, hv1, rfl⟩ := h.fact 1 _ rfl (dep hd 1 (by kernel_rfl))
      exact o_indexG (i := i) rfl GdOk.none (ev_t hv0) (ev_t hv1) hi (hK _ _ rfl (Below.refl _ _))
    · intro l ac w h hd K hK
      obtain ⟨v2, hv2, rfl⟩ := h.fact 2 _ rfl (dep hd 2 (by kernel_rfl))
      exact o_loadG rfl GdOk.none (ev_t hv2) (Hi.below h.below).c0 (Hi.below h.below).c1 (Hi.below h.below).c2 (Hi.below h.below).c3 (hK _ _ (Hi.below h.below).rep (Below.refl _ _))
    · intro l ac w h hd K hK
      exact o_move rfl GdOk.none (ev_t ((h.same 5 (not_dst (by kernel_rfl))).trans t5)) (hK _ _ rfl (Below.refl _ _))
    · intro l ac w h hd K hK
      exact o_move rfl GdOk.none (ev_t ((h.same 7 (not_dst (by kernel_rfl))).trans t7)) (hK _ _ rfl (Below.refl _ _))
    · intro l ac w h hd K hK
      obtain ⟨v4, hv4, rfl⟩ := h.fact 4 _ rfl (dep hd 4 (by kernel_rfl))
      obtain ⟨v5, hv5, rfl⟩ := h.fact 5 _ rfl (dep hd 5 (by kernel_rfl))
      exact o_indexG (i := k) rfl GdOk.none (ev_t hv4) (ev_t hv5) hk (hK _ _ rfl (Below.refl _ _))
    · intro l ac w h hd K hK
      obtain ⟨v6, hv6, rfl⟩ := h.fact 6 _ rfl (dep hd 6 (by kernel_rfl))
      exact o_loadG rfl GdOk.none (ev_t hv6) (Hk.below h.below).c0 (Hk.below h.below).c1 (Hk.below h.below).c2 (Hk.below h.below).c3 (hK _ _ (Hk.below h.below).rep (Below.refl _ _))
    · intro l ac w h hd K hK
      obtain ⟨v3, hv3, hF3⟩ := h.fact 3 _ rfl (dep hd 3 (by kernel_rfl))
      obtain ⟨v7, hv7, hF7⟩ := h.fact 7 _ rfl (dep hd 7 (by kernel_rfl))
      exact o_call2 rfl GdOk.none (ev_t hv3) (ev_t hv7) (enters_of Tryz.func33 (by kernel_rfl) rfl) ((gmul_in hF3 hF7 li lk).mono fun e w' ⟨v, he, h1, h2⟩ => ⟨_, he, hK _ _ ⟨v, rfl, h1⟩ h2⟩)
    · intro l ac w h hd K hK
      obtain ⟨v8, hv8, u8, rfl, hF8⟩ := h.fact 8 _ rfl (dep hd 8 (by kernel_rfl))
      exact o_move rfl GdOk.none (ev_t hv8) (hK _ _ ⟨u8, rfl, hF8⟩ (Below.refl _ _))
    · intro l ac w h hd K hK
      obtain ⟨v9, hv9, u9, rfl, hF9⟩ := h.fact 9 _ rfl (dep hd 9 (by kernel_rfl))
      exact o_ext0 rfl GdOk.none (ev_t hv9) (hK _ _ hF9 (Below.refl _ _))
    · intro l ac w h hd K hK
      obtain ⟨v9, hv9, u9, rfl, hF9⟩ := h.fact 9 _ rfl (dep hd 9 (by kernel_rfl))
      exact o_ext1 rfl GdOk.none (ev_t hv9) (hK _ _ rfl (Below.refl _ _))
    · intro ac w K hK
      exact o_allocG rfl GdOk.none hK
    · refine ⟨⟨12, rfl⟩, fun l ac w h hd => ?_⟩
      obtain ⟨g, hg, hlt, e, A, n, c, e', A', n', c', hB⟩ := h.fact 12 _ rfl (dep hd 12 (by kernel_rfl))
      obtain ⟨v10, hv10, hF10⟩ := h.fact 10 _ rfl (dep hd 10 (by kernel_rfl))
      obtain ⟨d1, A1, n1, c1, d2, A2, n2, c2, rfl⟩ := RepG.shape hF10
      exact ⟨g, d1, A1, n1, c1, d2, A2, n2, c2, e, A, n, c, e', A', n', c', hg, hlt, hB, hF10, fun K hK => o_store4 (by first | exact Or.inl rfl | exact Or.inr rfl) rfl GdOk.none (ev_t hg) (ev_t hv10) hB hK⟩
    · intro l ac w h hd K hK
      obtain ⟨v11, hv11, rfl⟩ := h.fact 11 _ rfl (dep hd 11 (by kernel_rfl))
      exact o_assign rfl GdOk.none (ev_t hv11) (hK _ _ rfl (Below.refl _ _))
  · intro l ac w h hall
    obtain ⟨v97, q97, r97⟩ := h.fact 0 _ rfl (hall 0 (of_decide_eq_true (by kernel_rfl)))
    obtain ⟨v98, q98, r98⟩ := h.fact 1 _ rfl (hall 1 (of_decide_eq_true (by kernel_rfl)))
    obtain ⟨v99, q99, r99⟩ := h.fact 2 _ rfl (hall 2 (of_decide_eq_true (by kernel_rfl)))
    obtain ⟨v100, q100, r100⟩ := h.fact 3 _ rfl (hall 3 (of_decide_eq_true (by kernel_rfl)))
    obtain ⟨v101, q101, r101⟩ := h.fact 4 _ rfl (hall 4 (of_decide_eq_true (by kernel_rfl)))
    obtain ⟨v102, q102, r102⟩ := h.fact 5 _ rfl (hall 5 (of_decide_eq_true (by kernel_rfl)))
    obtain ⟨v103, q103, r103⟩ := h.fact 6 _ rfl (hall 6 (of_decide_eq_true (by kernel_rfl)))
    obtain ⟨v104, q104, r104⟩ := h.fact 7 _ rfl (hall 7 (of_decide_eq_true (by kernel_rfl)))
    obtain ⟨v105, q105, r105⟩ := h.fact 8 _ rfl (hall 8 (of_decide_eq_true (by kernel_rfl)))
    obtain ⟨v96, q96, r96⟩ := h.fact 9 _ rfl (hall 9 (of_decide_eq_true (by kernel_rfl)))
    obtain ⟨v106, q106, r106⟩ := h.fact 10 _ rfl (hall 10 (of_decide_eq_true (by kernel_rfl)))
    obtain ⟨v107, q107, r107⟩ := h.fact 11 _ rfl (hall 11 (of_decide_eq_true (by kernel_rfl)))
    obtain ⟨v21, q21, r21⟩ := h.fact 14 _ rfl (hall 14 (of_decide_eq_true (by kernel_rfl)))
    obtain ⟨g20, q20, l20, d20, A20, n20, c20, e20, E20, m20, f20, B20, F20⟩ := h.fact 13 _ rfl (hall 13 (of_decide_eq_true (by kernel_rfl)))
    have ha := act_of [(97, v97), (98, v98), (99, v99), (100, v100), (101, v101), (102, v102), (103, v103), (104, v104), (105, v105), (96, v96), (106, v106), (107, v107), (21, v21), (20, .pointer (some ⟨g20, 0, none⟩))] h.defers h.size (List.forall_mem_cons.2 ⟨q97, List.forall_mem_cons.2 ⟨q98, List.forall_mem_cons.2 ⟨q99, List.forall_mem_cons.2 ⟨q100, List.forall_mem_cons.2 ⟨q101, List.forall_mem_cons.2 ⟨q102, List.forall_mem_cons.2 ⟨q103, List.forall_mem_cons.2 ⟨q104, List.forall_mem_cons.2 ⟨q105, List.forall_mem_cons.2 ⟨q96, List.forall_mem_cons.2 ⟨q106, List.forall_mem_cons.2 ⟨q107, List.forall_mem_cons.2 ⟨q21, List.forall_mem_cons.2 ⟨q20, fun _ h => by cases h⟩⟩⟩⟩⟩⟩⟩⟩⟩⟩⟩⟩⟩⟩) (fun t ht => h.same t (fun hm => ht (in_dst (F := [97, 98, 99, 100, 101, 102, 103, 104, 105, 96, 106, 107, 21, 20]) (by kernel_rfl) hm)))
    rw [ha]
    exact hQ w _ _ _ _ _ _ _ _ _ _ _ _ _ _ _ _ _ _ _ _ _ _ h.below ⟨B20, F20⟩ l20 r21
def su_r19_ops : Array Oper := #[
  { dst := some 115, op := .move (.tmp 5), type := 53, pos := "law.go:90", after := #[], guard := none },
  { dst := some 116, op := .move (.tmp 6), type := 3, pos := "law.go:90", after := #[], guard := none },
  { dst := some 117, op := .indexAddr 53 (.tmp 115) (.tmp 116), type := 0, pos := "law.go:90", after := #[⟨0, .data⟩, ⟨1, .data⟩], guard := none },
  { dst := some 118, op := .load 42 (.tmp 117), type := 42, pos := "law.go:90", after := #[⟨2, .data⟩], guard := none },
  { dst := some 119, op := .move (.tmp 5), type := 53, pos := "law.go:90", after := #[], guard := none },
  { dst := some 120, op := .move (.tmp 7), type := 3, pos := "law.go:90", after := #[], guard := none },
  { dst := some 121, op := .indexAddr 53 (.tmp 119) (.tmp 120), type := 0, pos := "law.go:90", after := #[⟨4, .data⟩, ⟨5, .data⟩], guard := none },
  { dst := some 122, op := .load 42 (.tmp 121), type := 42, pos := "law.go:90", after := #[⟨6, .data⟩], guard := none },
  { dst := some 123, op := .call { callee := .value (.func 35), args := #[.tmp 118, .tmp 122], argTypes := #[42, 42] }, type := 43, pos := "law.go:90", after := #[⟨3, .data⟩, ⟨7, .data⟩], guard := none },
  { dst := some 114, op := .move (.tmp 123), type := 43, pos := "law.go:90", after := #[⟨8, .data⟩], guard := none },
  { dst := some 124, op := .extract (.tmp 114) 0, type := 42, pos := "law.go:90", after := #[⟨9, .data⟩], guard := none },
  { dst := some 125, op := .extract (.tmp 114) 1, type := 37, pos := "law.go:90", after := #[⟨9, .data⟩, ⟨13, .gcOnly .lateStores⟩], guard := none },
  { dst := some 24, op := .alloc 42, type := 0, pos := "law.go:90", after := #[], guard := none },
  { dst := none, op := .store 42 (.tmp 24) (.tmp 124), type := 0, pos := "law.go:90", after := #[⟨12, .data⟩, ⟨10, .data⟩, ⟨8, .chain⟩, ⟨0, .phase⟩, ⟨1, .phase⟩, ⟨2, .phase⟩, ⟨3, .phase⟩, ⟨4, .phase⟩, ⟨5, .phase⟩, ⟨6, .phase⟩, ⟨7, .phase⟩, ⟨8, .phase⟩, ⟨9, .phase⟩, ⟨10, .phase⟩, ⟨11, .textOnly .lateStores⟩, ⟨12, .phase⟩], guard := none },
  { dst := some 25, op := .assign (.tmp 125), type := 37, pos := "law.go:90", after := #[⟨11, .data⟩, ⟨13, .chain⟩, ⟨0, .phase⟩, ⟨1, .phase⟩, ⟨2, .phase⟩, ⟨3, .phase⟩, ⟨4, .phase⟩, ⟨5, .phase⟩, ⟨6, .phase⟩, ⟨7, .phase⟩, ⟨8, .phase⟩, ⟨9, .phase⟩, ⟨10, .phase⟩, ⟨11, .phase⟩, ⟨12, .phase⟩, ⟨13, .phase⟩], guard := none }]
set_option maxRecDepth 100000 in
set_option maxHeartbeats 2000000 in
theorem su_r19 {Q : Exit → Act → World → Prop} {a0 : Act} {w0 : World} {i k : Nat} {x y : Rat} {p5 c5 : Nat} {dHi : Bool} {AHi : Option Addr} {nHi cHi : Nat} {eHi : Bool} {EHi : Option Addr} {mHi fHi : Nat} {dHk : Bool} {AHk : Option Addr} {nHk cHk : Nat} {eHk : Bool} {EHk : Option Addr} {mHk fHk : Nat} (hN : a0.tmps.size = 169) (t5 : a0.tmps[5]? = some (.slice (some ⟨p5, 0, none⟩) 4 c5)) (t6 : a0.tmps[6]? = some (.int .i64 (i : Int))) (t7 : a0.tmps[7]? = some (.int .i64 (k : Int))) (hi : i < 4) (hk : k < 4) (Hi : HoldEG w0 p5 i x dHi AHi nHi cHi eHi EHi mHi fHi) (Hk : HoldEG w0 p5 k y dHk AHk nHk cHk eHk EHk mHk fHk) (li : InF x) (lk : InF y)
    (hQ : ∀ (w : World) (v115 v116 v117 v118 v119 v120 v121 v122 v123 v114 v124 v125 v25 : Value) (g24 : Nat) (d24 : Bool) (A24 : Option Addr) (n24 c24 : Nat) (e24 : Bool) (E24 : Option Addr) (m24 f24 : Nat), Below w0.heap.size w0 w → HoldG w g24 (divQ (x) (y)) d24 A24 n24 c24 e24 E24 m24 f24 → w0.heap.size ≤ g24 → (Is (.int .i64 (divR (x) (y)))) v25 w → Q .normal ⟨([(115, v115), (116, v116), (117, v117), (118, v118), (119, v119), (120, v120), (121, v121), (122, v122), (123, v123), (114, v114), (124, v124), (125, v125), (25, v25), (24, .pointer (some ⟨g24, 0, none⟩))] : List (Nat × Value)).foldl (fun ts p => ts.setIfInBounds p.1 p.2) a0.tmps, a0.defers⟩ w) :
    (Code.region 19 su_r19_ops true).wp Tryz.prog Q a0 w0 := by
  refine wp_region_boxes4' (ty := 42) (cl := [.val 115 (Is (.slice (some ⟨p5, 0, none⟩) 4 c5)), .val 116 (Is (.int .i64 i)), .val 117 (Is (.pointer (some ⟨p5, i * 4, none⟩))), .val 118 (IsG (x)), .val 119 (Is (.slice (some ⟨p5, 0, none⟩) 4 c5)), .val 120 (Is (.int .i64 k)), .val 121 (Is (.pointer (some ⟨p5, k * 4, none⟩))), .val 122 (IsG (y)), .val 123 (IsGE (divQ (x) (y)) (divR (x) (y))), .val 114 (IsGE (divQ (x) (y)) (divR (x) (y))), .val 124 (IsG (divQ (x) (y))), .val 125 (Is (.int .i64 (divR (x) (y)))), .new 24, .put 24 (IsG (divQ (x) (y))), .val 25 (Is (.int .i64 (divR (x) (y))))]) 169 (by kernel_rfl) hN (by kernel_rfl) ?_ ?_ ?_
  · exact ⟨Is.stb4 _ _, Is.stb4 _ _, Is.stb4 _ _, IsG.stb4 _ _, Is.stb4 _ _, Is.stb4 _ _, Is.stb4 _ _, IsG.stb4 _ _, IsGE.stb4 _ _ _, IsGE.stb4 _ _ _, IsG.stb4 _ _, Is.stb4 _ _, trivial, IsG.stb4 _ _, Is.stb4 _ _, trivial⟩
  · refine ⟨?_, ?_, ?_, ?_, ?_, ?_, ?_, ?_, ?_, ?_, ?_, ?_, ?_, ?_, ?_, trivial⟩
    · intro l ac w h hd K hK
      exact o_move rfl GdOk.none (ev_t ((h.same 5 (not_dst (by kernel_rfl))).trans t5)) (hK _ _ rfl (Below.refl _ _))
    · intro l ac w h hd K hK
      exact o_move rfl GdOk.none (ev_t ((h.same 6 (not_dst (by kernel_rfl))).trans t6)) (hK _ _ rfl (Below.refl _ _))
    · intro l ac w h hd K hK
      obtain ⟨v0, hv0, rfl⟩ := h.fact 0 _ rfl (dep hd 0 (by kernel_rfl))
      obtain ⟨v1, hv1, rfl⟩ := h.fact 1 _ rfl (dep hd 1 (by kernel_rfl))
      exact o_indexG (i := i) rfl GdOk.none (ev_t hv0) (ev_t hv1) hi (hK _ _ rfl (Below.refl _ _))
    · intro l ac w h hd K hK
      obtain ⟨v2, hv2, rfl⟩ := h.fact 2 _ rfl (dep hd 2 (by kernel_rfl))
      exact o_loadG rfl GdOk.none (ev_t hv2) (Hi.below h.below).c0 (Hi.below h.below).c1 (Hi.below h.below).c2 (Hi.below h.below).c3 (hK _ _ (Hi.below h.below).rep (Below.refl _ _))
    · intro l ac w h hd K hK
      exact o_move rfl GdOk.none (ev_t ((h.same 5 (not_dst (by kernel_rfl))).trans t5)) (hK _ _ rfl (Below.refl _ _))
    · intro l ac w h hd K hK
      exact o_move rfl GdOk.none (ev_t ((h.same 7 (not_dst (by kernel_rfl))).trans t7)) (hK _ _ rfl (Below.refl _ _))
    · intro l ac w h hd K hK
      obtain ⟨v4, hv4, rfl⟩ := h.fact 4 _ rfl (dep hd 4 (by kernel_rfl))
      obtain ⟨v5, hv5, rfl⟩ := h.fact 5 _ rfl (dep hd 5 (by kernel_rfl))
      exact o_indexG (i := k) rfl GdOk.none (ev_t hv4) (ev_t hv5) hk (hK _ _ rfl (Below.refl _ _))
    · intro l ac w h hd K hK
      obtain ⟨v6, hv6, rfl⟩ := h.fact 6 _ rfl (dep hd 6 (by kernel_rfl))
      exact o_loadG rfl GdOk.none (ev_t hv6) (Hk.below h.below).c0 (Hk.below h.below).c1 (Hk.below h.below).c2 (Hk.below h.below).c3 (hK _ _ (Hk.below h.below).rep (Below.refl _ _))
    · intro l ac w h hd K hK
      obtain ⟨v3, hv3, hF3⟩ := h.fact 3 _ rfl (dep hd 3 (by kernel_rfl))
      obtain ⟨v7, hv7, hF7⟩ := h.fact 7 _ rfl (dep hd 7 (by kernel_rfl))
      exact o_call2 rfl GdOk.none (ev_t hv3) (ev_t hv7) (enters_of Tryz.func35 (by kernel_rfl) rfl) ((gdiv_all hF3 hF7 li lk).mono fun e w' ⟨v, he, h1, h2⟩ => ⟨_, he, hK _ _ ⟨v, rfl, h1⟩ h2⟩)
    · intro l ac w h hd K hK
      obtain ⟨v8, hv8, u8, rfl, hF8⟩ := h.fact 8 _ rfl (dep hd 8 (by kernel_rfl))
      exact o_move rfl GdOk.none (ev_t hv8) (hK _ _ ⟨u8, rfl, hF8⟩ (Below.refl _ _))
    · intro l ac w h hd K hK
      obtain ⟨v9, hv9, u9, rfl, hF9⟩ := h.fact 9 _ rfl (dep hd 9 (by kernel_rfl))
      exact o_ext0 rfl GdOk.none (ev_t hv9) (hK _ _ hF9 (Below.refl _ _))
    · intro l ac w h hd K hK
      obtain ⟨v9, hv9, u9, rfl, hF9⟩ := h.fact 9 _ rfl (dep hd 9 (by kernel_rfl))
      exact o_ext1 rfl GdOk.none (ev_t hv9) (hK _ _ rfl (Below.refl _ _))
    · intro ac w K hK
      exact o_allocG rfl GdOk.none hK
    · refine ⟨⟨12, rfl⟩, fun l ac w h hd => ?_⟩
      obtain ⟨g, hg, hlt, e, A, n, c, e', A', n', c', hB⟩ := h.fact 12 _ rfl (dep hd 12 (by kernel_rfl))
      obtain ⟨v10, hv10, hF10⟩ := h.fact 10 _ rfl (dep hd 10 (by kernel_rfl))
      obtain ⟨d1, A1, n1, c1, d2, A2, n2, c2, rfl⟩ := RepG.shape hF10
      exact ⟨g, d1, A1, n1, c1, d2, A2, n2, c2, e, A, n, c, e', A', n', c', hg, hlt, hB, hF10, fun K hK => o_store4 (by first | exact Or.inl rfl | exact Or.inr rfl) rfl GdOk.none (ev_t hg) (ev_t hv10) hB hK⟩
    · intro l ac w h hd K hK
      obtain ⟨v11, hv11, rfl⟩ := h.fact 11 _ rfl (dep hd 11 (by kernel_rfl))
      exact o_assign rfl GdOk.none (ev_t hv11) (hK _ _ rfl (Below.refl _ _))
  · intro l ac w h hall
    obtain ⟨v115, q115, r115⟩ := h.fact 0 _ rfl (hall 0 (of_decide_eq_true (by kernel_rfl)))
    obtain ⟨v116, q116, r116⟩ := h.fact 1 _ rfl (hall 1 (of_decide_eq_true (by kernel_rfl)))
    obtain ⟨v117, q117, r117⟩ := h.fact 2 _ rfl (hall 2 (of_decide_eq_true (by kernel_rfl)))
    obtain ⟨v118, q118, r118⟩ := h.fact 3 _ rfl (hall 3 (of_decide_eq_true (by kernel_rfl)))
    obtain ⟨v119, q119, r119⟩ := h.fact 4 _ rfl (hall 4 (of_decide_eq_true (by kernel_rfl)))
    obtain ⟨v120, q120, r120⟩ := h.fact 5 _ rfl (hall 5 (of_decide_eq_true (by kernel_rfl)))
    obtain ⟨v121, q121, r121⟩ := h.fact 6 _ rfl (hall 6 (of_decide_eq_true (by kernel_rfl)))
    obtain ⟨v122, q122, r122⟩ := h.fact 7 _ rfl (hall 7 (of_decide_eq_true (by kernel_rfl)))
    obtain ⟨v123, q123, r123⟩ := h.fact 8 _ rfl (hall 8 (of_decide_eq_true (by kernel_rfl)))
    obtain ⟨v114, q114, r114⟩ := h.fact 9 _ rfl (hall 9 (of_decide_eq_true (by kernel_rfl)))
    obtain ⟨v124, q124, r124⟩ := h.fact 10 _ rfl (hall 10 (of_decide_eq_true (by kernel_rfl)))
    obtain ⟨v125, q125, r125⟩ := h.fact 11 _ rfl (hall 11 (of_decide_eq_true (by kernel_rfl)))
    obtain ⟨v25, q25, r25⟩ := h.fact 14 _ rfl (hall 14 (of_decide_eq_true (by kernel_rfl)))
    obtain ⟨g24, q24, l24, d24, A24, n24, c24, e24, E24, m24, f24, B24, F24⟩ := h.fact 13 _ rfl (hall 13 (of_decide_eq_true (by kernel_rfl)))
    have ha := act_of [(115, v115), (116, v116), (117, v117), (118, v118), (119, v119), (120, v120), (121, v121), (122, v122), (123, v123), (114, v114), (124, v124), (125, v125), (25, v25), (24, .pointer (some ⟨g24, 0, none⟩))] h.defers h.size (List.forall_mem_cons.2 ⟨q115, List.forall_mem_cons.2 ⟨q116, List.forall_mem_cons.2 ⟨q117, List.forall_mem_cons.2 ⟨q118, List.forall_mem_cons.2 ⟨q119, List.forall_mem_cons.2 ⟨q120, List.forall_mem_cons.2 ⟨q121, List.forall_mem_cons.2 ⟨q122, List.forall_mem_cons.2 ⟨q123, List.forall_mem_cons.2 ⟨q114, List.forall_mem_cons.2 ⟨q124, List.forall_mem_cons.2 ⟨q125, List.forall_mem_cons.2 ⟨q25, List.forall_mem_cons.2 ⟨q24, fun _ h => by cases h⟩⟩⟩⟩⟩⟩⟩⟩⟩⟩⟩⟩⟩⟩) (fun t ht => h.same t (fun hm => ht (in_dst (F := [115, 116, 117, 118, 119, 120, 121, 122, 123, 114, 124, 125, 25, 24]) (by kernel_rfl) hm)))
    rw [ha]
    exact hQ w _ _ _ _ _ _ _ _ _ _ _ _ _ _ _ _ _ _ _ _ _ _ h.below ⟨B24, F24⟩ l24 r25
end Go.Proofs.YtocooajlfpngdaaGreatDoor
