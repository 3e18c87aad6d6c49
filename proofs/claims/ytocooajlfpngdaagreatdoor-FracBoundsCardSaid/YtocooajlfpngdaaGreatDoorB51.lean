/- Layer 4's laws: the drawn regions of FracBounds. · Layer 4's laws: FracBounds. -/
import Derived.Test.YtocooajlfpngdaaGreatDoorB48
import Derived.Test.YtocooajlfpngdaaGreatDoorB44
namespace Go.Proofs.YtocooajlfpngdaaGreatDoor
open Go.RowKit
set_option linter.unusedVariables false

set_option maxHeartbeats 1000000 in
theorem around40 (n : Int) (w : World) (hn : -9223372036854775808 ≤ n ∧ n ≤ 9223372036854775807) : Calls Tryz.prog 37 #[.int .i64 n, .int .i64 40] w (fun e w' => ∃ r : Int, e = .returned (.int .i64 r) ∧ 0 ≤ r ∧ r < 40 ∧ w = w') := by
  obtain ⟨t, ht⟩ : ∃ t, t = n.tmod 40 := ⟨_, rfl⟩
  have htm : n.tmod 40 = t := ht.symm
  have hs1 : -40 < t ∧ t < 40 := ht ▸ ⟨Int.lt_tmod_of_pos n (by omega), Int.tmod_lt_of_pos n (by omega)⟩
  clear ht
  have HN := Lib.hid hn
  clear hn
  by_cases h0 : t < 0
  · have ew1 : IntKind.i64.wrap (t + 40) = t + 40 := IntWalk.i64_in _ (by omega)
    have ew2 : wrap64 (t + 40) = t + 40 := IntWalk.wrap64_in _ (by omega)
    go_enter Tryz.func37, Tryz.ntmps37
    go_wp2_with fail
    go_ret
    exact ⟨t + 40, rfl, by omega, by omega, rfl⟩
  · go_enter Tryz.func37, Tryz.ntmps37
    go_wp2_with fail
    go_ret
    exact ⟨t, rfl, by omega, by omega, rfl⟩
set_option maxHeartbeats 1000000 in
theorem around80 (n : Int) (w : World) (hn : -9223372036854775808 ≤ n ∧ n ≤ 9223372036854775807) : Calls Tryz.prog 37 #[.int .i64 n, .int .i64 80] w (fun e w' => ∃ r : Int, e = .returned (.int .i64 r) ∧ 0 ≤ r ∧ r < 80 ∧ w = w') := by
  obtain ⟨t, ht⟩ : ∃ t, t = n.tmod 80 := ⟨_, rfl⟩
  have htm : n.tmod 80 = t := ht.symm
  have hs1 : -80 < t ∧ t < 80 := ht ▸ ⟨Int.lt_tmod_of_pos n (by omega), Int.tmod_lt_of_pos n (by omega)⟩
  clear ht
  have HN := Lib.hid hn
  clear hn
  by_cases h0 : t < 0
  · have ew1 : IntKind.i64.wrap (t + 80) = t + 80 := IntWalk.i64_in _ (by omega)
    have ew2 : wrap64 (t + 80) = t + 80 := IntWalk.wrap64_in _ (by omega)
    go_enter Tryz.func37, Tryz.ntmps37
    go_wp2_with fail
    go_ret
    exact ⟨t + 80, rfl, by omega, by omega, rfl⟩
  · go_enter Tryz.func37, Tryz.ntmps37
    go_wp2_with fail
    go_ret
    exact ⟨t, rfl, by omega, by omega, rfl⟩
theorem pow_lim : ∃ P : Int, (∀ w, Calls Tryz.prog 14 #[.int .i64 16384] w (NewN P w)) ∧ Bits 16385 P ∧ P = lim := ⟨2 ^ 16384, fun w => power_any 16384 w (by omega), bits_pow 16384, by unfold lim; rfl⟩
theorem pow_half : ∃ P : Int, (∀ w, Calls Tryz.prog 14 #[.int .i64 8190] w (NewN P w)) ∧ InL P := ⟨2 ^ 8190, fun w => power_any 8190 w (by omega), bits_lt (bits_pow 8190) (by omega)⟩
theorem lim_big : (1000 : Int) < lim := by
  have h : (2 : Int) ^ 10 ≤ 2 ^ 16384 := pow_mono' (by omega) (by omega)
  have e : (2 : Int) ^ 10 = 1024 := by decide
  unfold lim
  omega
theorem top_in {P r : Int} (hP : P = lim) (h0 : 0 ≤ r) (h1 : r < 40) : InL (P - (1 + r)) := by
  have := lim_big
  unfold InL
  omega
theorem top_neg {z : Int} (h : InL z) : InL (-z) := by
  unfold InL at *
  rw [Int.natAbs_neg]
  exact h
theorem three_in : InL 3 := by
  have := lim_big
  unfold InL
  omega
theorem one_in : InL 1 := by
  have := lim_big
  unfold InL
  omega
theorem i64_in {n : Int} (h0 : -9223372036854775808 ≤ n) (h1 : n ≤ 9223372036854775807) : InL n := bits_lt (Bits.i64 h0 h1) (by omega)
theorem small_in {n : Int} (h0 : -100 ≤ n) (h1 : n ≤ 100) : InF (n : Rat) := by
  have h := quo_in (i64_in (n := n) (by omega) (by omega)) one_in
  rwa [divInt_one] at h
def bd_r5_ops : Array Oper := #[
  { dst := some 52, op := .load 24 (.tmp 7), type := 24, pos := "law.go:106", after := #[], guard := none },
  { dst := some 53, op := .call { callee := .value (.func 16), args := #[.const (.int .i64 1)], argTypes := #[3] }, type := 24, pos := "law.go:106", after := #[], guard := none },
  { dst := some 54, op := .call { callee := .value (.func 19), args := #[.tmp 52, .tmp 53], argTypes := #[24, 24] }, type := 43, pos := "law.go:106", after := #[⟨0, .data⟩, ⟨1, .data⟩, ⟨1, .chain⟩], guard := none },
  { dst := some 51, op := .move (.tmp 54), type := 43, pos := "law.go:106", after := #[⟨2, .data⟩], guard := none },
  { dst := some 55, op := .extract (.tmp 51) 0, type := 42, pos := "law.go:106", after := #[⟨3, .data⟩], guard := none },
  { dst := some 56, op := .extract (.tmp 51) 1, type := 37, pos := "law.go:106", after := #[⟨3, .data⟩, ⟨7, .gcOnly .lateStores⟩], guard := none },
  { dst := some 10, op := .alloc 42, type := 0, pos := "law.go:106", after := #[], guard := none },
  { dst := none, op := .store 42 (.tmp 10) (.tmp 55), type := 0, pos := "law.go:106", after := #[⟨6, .data⟩, ⟨4, .data⟩, ⟨2, .chain⟩, ⟨0, .phase⟩, ⟨1, .phase⟩, ⟨2, .phase⟩, ⟨3, .phase⟩, ⟨4, .phase⟩, ⟨5, .textOnly .lateStores⟩, ⟨6, .phase⟩], guard := none },
  { dst := some 11, op := .assign (.tmp 56), type := 37, pos := "law.go:106", after := #[⟨5, .data⟩, ⟨7, .chain⟩, ⟨0, .phase⟩, ⟨1, .phase⟩, ⟨2, .phase⟩, ⟨3, .phase⟩, ⟨4, .phase⟩, ⟨5, .phase⟩, ⟨6, .phase⟩, ⟨7, .phase⟩], guard := none }]
set_option maxRecDepth 100000 in
set_option maxHeartbeats 2000000 in
theorem bd_r5 {Q : Exit → Act → World → Prop} {a0 : Act} {w0 : World} {T : Int} {p7 : Nat} {d7 : Bool} {A7 : Option Addr} {n7 c7 : Nat} (hN : a0.tmps.size = 196) (t7 : a0.tmps[7]? = some (.pointer (some ⟨p7, 0, none⟩))) (H7 : HoldN w0 p7 T d7 A7 n7 c7) (tl : InL T)
    (hQ : ∀ (w : World) (v52 v53 v54 v51 v55 v56 v11 : Value) (g10 : Nat) (d10 : Bool) (A10 : Option Addr) (n10 c10 : Nat) (e10 : Bool) (E10 : Option Addr) (m10 f10 : Nat), Below w0.heap.size w0 w → HoldG w g10 (Rat.divInt (T) (1)) d10 A10 n10 c10 e10 E10 m10 f10 → w0.heap.size ≤ g10 → (Is (.int .i64 (makeE (1)))) v11 w → Q .normal ⟨([(52, v52), (53, v53), (54, v54), (51, v51), (55, v55), (56, v56), (11, v11), (10, .pointer (some ⟨g10, 0, none⟩))] : List (Nat × Value)).foldl (fun ts p => ts.setIfInBounds p.1 p.2) a0.tmps, a0.defers⟩ w) :
    (Code.region 5 bd_r5_ops true).wp Tryz.prog Q a0 w0 := by
  refine wp_region_boxes4' (ty := 42) (cl := [.val 52 (IsN (T)), .val 53 (IsN (1)), .val 54 (IsGE (Rat.divInt (T) (1)) (makeE (1))), .val 51 (IsGE (Rat.divInt (T) (1)) (makeE (1))), .val 55 (IsG (Rat.divInt (T) (1))), .val 56 (Is (.int .i64 (makeE (1)))), .new 10, .put 10 (IsG (Rat.divInt (T) (1))), .val 11 (Is (.int .i64 (makeE (1))))]) 196 (by kernel_rfl) hN (by kernel_rfl) ?_ ?_ ?_
  · exact ⟨IsN.stb4 _ _, IsN.stb4 _ _, IsGE.stb4 _ _ _, IsGE.stb4 _ _ _, IsG.stb4 _ _, Is.stb4 _ _, trivial, IsG.stb4 _ _, Is.stb4 _ _, trivial⟩
  · refine ⟨?_, ?_, ?_, ?_, ?_, ?_, ?_, ?_, ?_, trivial⟩
    · intro l ac w h hd K hK
      exact o_loadN rfl GdOk.none (ev_t ((h.same 7 (not_dst (by kernel_rfl))).trans t7)) (H7.below h.below).c0 (H7.below h.below).c1 (hK _ _ (H7.below h.below).2 (Below.refl _ _))
    · intro l ac w h hd K hK
      exact o_call1 rfl GdOk.none rfl (enters_of Tryz.func16 (by kernel_rfl) rfl) ((of_any 1 _ (by omega) (by omega)).mono fun e w' ⟨v, he, h1, h2⟩ => ⟨_, he, hK _ _ h1 h2⟩)
    · intro l ac w h hd K hK
      obtain ⟨v0, hv0, hF0⟩ := h.fact 0 _ rfl (dep hd 0 (by kernel_rfl))
      obtain ⟨v1, hv1, hF1⟩ := h.fact 1 _ rfl (dep hd 1 (by kernel_rfl))
      exact o_call2 rfl GdOk.none (ev_t hv0) (ev_t hv1) (enters_of Tryz.func19 (by kernel_rfl) rfl) ((gmake_any _ _ _ _ _ hF0 hF1 ((fit_bits tl).mono (by omega)) (((Bits.i64 (by omega) (by omega) : Bits 64 1)).mono (by omega))).mono fun e w' ⟨v, he, h1, h2⟩ => ⟨_, he, hK _ _ ⟨v, rfl, h1⟩ h2⟩)
    · intro l ac w h hd K hK
      obtain ⟨v2, hv2, u2, rfl, hF2⟩ := h.fact 2 _ rfl (dep hd 2 (by kernel_rfl))
      exact o_move rfl GdOk.none (ev_t hv2) (hK _ _ ⟨u2, rfl, hF2⟩ (Below.refl _ _))
    · intro l ac w h hd K hK
      obtain ⟨v3, hv3, u3, rfl, hF3⟩ := h.fact 3 _ rfl (dep hd 3 (by kernel_rfl))
      exact o_ext0 rfl GdOk.none (ev_t hv3) (hK _ _ hF3 (Below.refl _ _))
    · intro l ac w h hd K hK
      obtain ⟨v3, hv3, u3, rfl, hF3⟩ := h.fact 3 _ rfl (dep hd 3 (by kernel_rfl))
      exact o_ext1 rfl GdOk.none (ev_t hv3) (hK _ _ rfl (Below.refl _ _))
    · intro ac w K hK
      exact o_allocG rfl GdOk.none hK
    · refine ⟨⟨6, rfl⟩, fun l ac w h hd => ?_⟩
      obtain ⟨g, hg, hlt, e, A, n, c, e', A', n', c', hB⟩ := h.fact 6 _ rfl (dep hd 6 (by kernel_rfl))
      obtain ⟨v4, hv4, hF4⟩ := h.fact 4 _ rfl (dep hd 4 (by kernel_rfl))
      obtain ⟨d1, A1, n1, c1, d2, A2, n2, c2, rfl⟩ := RepG.shape hF4
      exact ⟨g, d1, A1, n1, c1, d2, A2, n2, c2, e, A, n, c, e', A', n', c', hg, hlt, hB, hF4, fun K hK => o_store4 (by first | exact Or.inl rfl | exact Or.inr rfl) rfl GdOk.none (ev_t hg) (ev_t hv4) hB hK⟩
    · intro l ac w h hd K hK
      obtain ⟨v5, hv5, rfl⟩ := h.fact 5 _ rfl (dep hd 5 (by kernel_rfl))
      exact o_assign rfl GdOk.none (ev_t hv5) (hK _ _ rfl (Below.refl _ _))
  · intro l ac w h hall
    obtain ⟨v52, q52, r52⟩ := h.fact 0 _ rfl (hall 0 (of_decide_eq_true (by kernel_rfl)))
    obtain ⟨v53, q53, r53⟩ := h.fact 1 _ rfl (hall 1 (of_decide_eq_true (by kernel_rfl)))
    obtain ⟨v54, q54, r54⟩ := h.fact 2 _ rfl (hall 2 (of_decide_eq_true (by kernel_rfl)))
    obtain ⟨v51, q51, r51⟩ := h.fact 3 _ rfl (hall 3 (of_decide_eq_true (by kernel_rfl)))
    obtain ⟨v55, q55, r55⟩ := h.fact 4 _ rfl (hall 4 (of_decide_eq_true (by kernel_rfl)))
    obtain ⟨v56, q56, r56⟩ := h.fact 5 _ rfl (hall 5 (of_decide_eq_true (by kernel_rfl)))
    obtain ⟨v11, q11, r11⟩ := h.fact 8 _ rfl (hall 8 (of_decide_eq_true (by kernel_rfl)))
    obtain ⟨g10, q10, l10, d10, A10, n10, c10, e10, E10, m10, f10, B10, F10⟩ := h.fact 7 _ rfl (hall 7 (of_decide_eq_true (by kernel_rfl)))
    have ha := act_of [(52, v52), (53, v53), (54, v54), (51, v51), (55, v55), (56, v56), (11, v11), (10, .pointer (some ⟨g10, 0, none⟩))] h.defers h.size (List.forall_mem_cons.2 ⟨q52, List.forall_mem_cons.2 ⟨q53, List.forall_mem_cons.2 ⟨q54, List.forall_mem_cons.2 ⟨q51, List.forall_mem_cons.2 ⟨q55, List.forall_mem_cons.2 ⟨q56, List.forall_mem_cons.2 ⟨q11, List.forall_mem_cons.2 ⟨q10, fun _ h => by cases h⟩⟩⟩⟩⟩⟩⟩⟩) (fun t ht => h.same t (fun hm => ht (in_dst (F := [52, 53, 54, 51, 55, 56, 11, 10]) (by kernel_rfl) hm)))
    rw [ha]
    exact hQ w _ _ _ _ _ _ _ _ _ _ _ _ _ _ _ _ h.below ⟨B10, F10⟩ l10 r11
def bd_r6_ops : Array Oper := #[
  { dst := some 58, op := .call { callee := .value (.func 38), args := #[.const (.int .i64 3)], argTypes := #[3] }, type := 34, pos := "law.go:107", after := #[], guard := none },
  { dst := some 59, op := .load 24 (.tmp 7), type := 24, pos := "law.go:107", after := #[], guard := none },
  { dst := some 60, op := .call { callee := .value (.func 18), args := #[.tmp 59], argTypes := #[24] }, type := 34, pos := "law.go:107", after := #[⟨1, .data⟩, ⟨0, .chain⟩], guard := none },
  { dst := some 61, op := .call { callee := .value (.func 17), args := #[.tmp 58, .tmp 60], argTypes := #[34, 34] }, type := 38, pos := "law.go:107", after := #[⟨0, .data⟩, ⟨2, .data⟩, ⟨2, .chain⟩], guard := none },
  { dst := some 57, op := .move (.tmp 61), type := 38, pos := "law.go:107", after := #[⟨3, .data⟩], guard := none },
  { dst := some 62, op := .extract (.tmp 57) 0, type := 36, pos := "law.go:107", after := #[⟨4, .data⟩], guard := none },
  { dst := some 63, op := .extract (.tmp 57) 1, type := 37, pos := "law.go:107", after := #[⟨4, .data⟩, ⟨8, .gcOnly .lateStores⟩], guard := none },
  { dst := some 12, op := .alloc 36, type := 0, pos := "law.go:107", after := #[], guard := none },
  { dst := none, op := .store 36 (.tmp 12) (.tmp 62), type := 0, pos := "law.go:107", after := #[⟨7, .data⟩, ⟨5, .data⟩, ⟨3, .chain⟩, ⟨0, .phase⟩, ⟨1, .phase⟩, ⟨2, .phase⟩, ⟨3, .phase⟩, ⟨4, .phase⟩, ⟨5, .phase⟩, ⟨6, .textOnly .lateStores⟩, ⟨7, .phase⟩], guard := none },
  { dst := some 13, op := .assign (.tmp 63), type := 37, pos := "law.go:107", after := #[⟨6, .data⟩, ⟨8, .chain⟩, ⟨0, .phase⟩, ⟨1, .phase⟩, ⟨2, .phase⟩, ⟨3, .phase⟩, ⟨4, .phase⟩, ⟨5, .phase⟩, ⟨6, .phase⟩, ⟨7, .phase⟩, ⟨8, .phase⟩], guard := none }]
set_option maxRecDepth 100000 in
set_option maxHeartbeats 2000000 in
theorem bd_r6 {Q : Exit → Act → World → Prop} {a0 : Act} {w0 : World} {T : Int} {p7 : Nat} {d7 : Bool} {A7 : Option Addr} {n7 c7 : Nat} (hN : a0.tmps.size = 196) (t7 : a0.tmps[7]? = some (.pointer (some ⟨p7, 0, none⟩))) (H7 : HoldN w0 p7 T d7 A7 n7 c7) (tl : InL T)
    (hQ : ∀ (w : World) (v58 v59 v60 v61 v57 v62 v63 v13 : Value) (g12 : Nat) (d12 : Bool) (A12 : Option Addr) (n12 c12 : Nat) (e12 : Bool) (E12 : Option Addr) (m12 f12 : Nat), Below w0.heap.size w0 w → HoldQ w g12 (Rat.divInt (3) (T)) d12 A12 n12 c12 e12 E12 m12 f12 → w0.heap.size ≤ g12 → (Is (.int .i64 (makeE (T)))) v13 w → Q .normal ⟨([(58, v58), (59, v59), (60, v60), (61, v61), (57, v57), (62, v62), (63, v63), (13, v13), (12, .pointer (some ⟨g12, 0, none⟩))] : List (Nat × Value)).foldl (fun ts p => ts.setIfInBounds p.1 p.2) a0.tmps, a0.defers⟩ w) :
    (Code.region 6 bd_r6_ops true).wp Tryz.prog Q a0 w0 := by
  refine wp_region_boxes4' (ty := 36) (cl := [.val 58 (IsI (3)), .val 59 (IsN (T)), .val 60 (IsI (T)), .val 61 (IsQE (Rat.divInt (3) (T)) (makeE (T))), .val 57 (IsQE (Rat.divInt (3) (T)) (makeE (T))), .val 62 (IsQ (Rat.divInt (3) (T))), .val 63 (Is (.int .i64 (makeE (T)))), .new 12, .put 12 (IsQ (Rat.divInt (3) (T))), .val 13 (Is (.int .i64 (makeE (T))))]) 196 (by kernel_rfl) hN (by kernel_rfl) ?_ ?_ ?_
  · exact ⟨IsI.stb4 _ _, IsN.stb4 _ _, IsI.stb4 _ _, IsQE.stb4 _ _ _, IsQE.stb4 _ _ _, IsQ.stb4 _ _, Is.stb4 _ _, trivial, IsQ.stb4 _ _, Is.stb4 _ _, trivial⟩
  · refine ⟨?_, ?_, ?_, ?_, ?_, ?_, ?_, ?_, ?_, ?_, trivial⟩
    · intro l ac w h hd K hK
      exact o_call1 rfl GdOk.none rfl (enters_of Tryz.func38 (by kernel_rfl) rfl) ((from_any 3 _ (by omega) (by omega)).mono fun e w' ⟨v, he, h1, h2⟩ => ⟨_, he, hK _ _ h1 h2⟩)
    · intro l ac w h hd K hK
      exact o_loadN rfl GdOk.none (ev_t ((h.same 7 (not_dst (by kernel_rfl))).trans t7)) (H7.below h.below).c0 (H7.below h.below).c1 (hK _ _ (H7.below h.below).2 (Below.refl _ _))
    · intro l ac w h hd K hK
      obtain ⟨v1, hv1, hF1⟩ := h.fact 1 _ rfl (dep hd 1 (by kernel_rfl))
      exact o_call1 rfl GdOk.none (ev_t hv1) (enters_of Tryz.func18 (by kernel_rfl) rfl) ((number_law _ _ _ hF1 tl).mono fun e w' ⟨v, he, h1, h2⟩ => ⟨_, he, hK _ _ h1 h2⟩)
    · intro l ac w h hd K hK
      obtain ⟨v0, hv0, hF0⟩ := h.fact 0 _ rfl (dep hd 0 (by kernel_rfl))
      obtain ⟨v2, hv2, hF2⟩ := h.fact 2 _ rfl (dep hd 2 (by kernel_rfl))
      exact o_call2 rfl GdOk.none (ev_t hv0) (ev_t hv2) (enters_of Tryz.func17 (by kernel_rfl) rfl) ((make_any _ _ _ _ _ hF0 hF2 (bits_lt ((Bits.i64 (by omega) (by omega) : Bits 64 3)) (by omega)) tl).mono fun e w' ⟨v, he, h1, h2⟩ => ⟨_, he, hK _ _ ⟨v, rfl, h1⟩ h2⟩)
    · intro l ac w h hd K hK
      obtain ⟨v3, hv3, u3, rfl, hF3⟩ := h.fact 3 _ rfl (dep hd 3 (by kernel_rfl))
      exact o_move rfl GdOk.none (ev_t hv3) (hK _ _ ⟨u3, rfl, hF3⟩ (Below.refl _ _))
    · intro l ac w h hd K hK
      obtain ⟨v4, hv4, u4, rfl, hF4⟩ := h.fact 4 _ rfl (dep hd 4 (by kernel_rfl))
      exact o_ext0 rfl GdOk.none (ev_t hv4) (hK _ _ hF4 (Below.refl _ _))
    · intro l ac w h hd K hK
      obtain ⟨v4, hv4, u4, rfl, hF4⟩ := h.fact 4 _ rfl (dep hd 4 (by kernel_rfl))
      exact o_ext1 rfl GdOk.none (ev_t hv4) (hK _ _ rfl (Below.refl _ _))
    · intro ac w K hK
      exact o_allocQ rfl GdOk.none hK
    · refine ⟨⟨7, rfl⟩, fun l ac w h hd => ?_⟩
      obtain ⟨g, hg, hlt, e, A, n, c, e', A', n', c', hB⟩ := h.fact 7 _ rfl (dep hd 7 (by kernel_rfl))
      obtain ⟨v5, hv5, hF5⟩ := h.fact 5 _ rfl (dep hd 5 (by kernel_rfl))
      obtain ⟨d1, A1, n1, c1, d2, A2, n2, c2, rfl⟩ := RepF.shape hF5
      exact ⟨g, d1, A1, n1, c1, d2, A2, n2, c2, e, A, n, c, e', A', n', c', hg, hlt, hB, hF5, fun K hK => o_store4 (by first | exact Or.inl rfl | exact Or.inr rfl) rfl GdOk.none (ev_t hg) (ev_t hv5) hB hK⟩
    · intro l ac w h hd K hK
      obtain ⟨v6, hv6, rfl⟩ := h.fact 6 _ rfl (dep hd 6 (by kernel_rfl))
      exact o_assign rfl GdOk.none (ev_t hv6) (hK _ _ rfl (Below.refl _ _))
  · intro l ac w h hall
    obtain ⟨v58, q58, r58⟩ := h.fact 0 _ rfl (hall 0 (of_decide_eq_true (by kernel_rfl)))
    obtain ⟨v59, q59, r59⟩ := h.fact 1 _ rfl (hall 1 (of_decide_eq_true (by kernel_rfl)))
    obtain ⟨v60, q60, r60⟩ := h.fact 2 _ rfl (hall 2 (of_decide_eq_true (by kernel_rfl)))
    obtain ⟨v61, q61, r61⟩ := h.fact 3 _ rfl (hall 3 (of_decide_eq_true (by kernel_rfl)))
    obtain ⟨v57, q57, r57⟩ := h.fact 4 _ rfl (hall 4 (of_decide_eq_true (by kernel_rfl)))
    obtain ⟨v62, q62, r62⟩ := h.fact 5 _ rfl (hall 5 (of_decide_eq_true (by kernel_rfl)))
    obtain ⟨v63, q63, r63⟩ := h.fact 6 _ rfl (hall 6 (of_decide_eq_true (by kernel_rfl)))
    obtain ⟨v13, q13, r13⟩ := h.fact 9 _ rfl (hall 9 (of_decide_eq_true (by kernel_rfl)))
    obtain ⟨g12, q12, l12, d12, A12, n12, c12, e12, E12, m12, f12, B12, F12⟩ := h.fact 8 _ rfl (hall 8 (of_decide_eq_true (by kernel_rfl)))
    have ha := act_of [(58, v58), (59, v59), (60, v60), (61, v61), (57, v57), (62, v62), (63, v63), (13, v13), (12, .pointer (some ⟨g12, 0, none⟩))] h.defers h.size (List.forall_mem_cons.2 ⟨q58, List.forall_mem_cons.2 ⟨q59, List.forall_mem_cons.2 ⟨q60, List.forall_mem_cons.2 ⟨q61, List.forall_mem_cons.2 ⟨q57, List.forall_mem_cons.2 ⟨q62, List.forall_mem_cons.2 ⟨q63, List.forall_mem_cons.2 ⟨q13, List.forall_mem_cons.2 ⟨q12, fun _ h => by cases h⟩⟩⟩⟩⟩⟩⟩⟩⟩) (fun t ht => h.same t (fun hm => ht (in_dst (F := [58, 59, 60, 61, 57, 62, 63, 13, 12]) (by kernel_rfl) hm)))
    rw [ha]
    exact hQ w _ _ _ _ _ _ _ _ _ _ _ _ _ _ _ _ _ h.below ⟨B12, F12⟩ l12 r13
def bd_r7_ops : Array Oper := #[
  { dst := some 65, op := .call { callee := .value (.func 16), args := #[.const (.int .i64 3)], argTypes := #[3] }, type := 24, pos := "law.go:108", after := #[], guard := none },
  { dst := some 66, op := .load 24 (.tmp 7), type := 24, pos := "law.go:108", after := #[], guard := none },
  { dst := some 67, op := .call { callee := .value (.func 19), args := #[.tmp 65, .tmp 66], argTypes := #[24, 24] }, type := 43, pos := "law.go:108", after := #[⟨0, .data⟩, ⟨1, .data⟩, ⟨0, .chain⟩], guard := none },
  { dst := some 64, op := .move (.tmp 67), type := 43, pos := "law.go:108", after := #[⟨2, .data⟩], guard := none },
  { dst := some 68, op := .extract (.tmp 64) 0, type := 42, pos := "law.go:108", after := #[⟨3, .data⟩], guard := none },
  { dst := some 69, op := .extract (.tmp 64) 1, type := 37, pos := "law.go:108", after := #[⟨3, .data⟩, ⟨7, .gcOnly .lateStores⟩], guard := none },
  { dst := some 14, op := .alloc 42, type := 0, pos := "law.go:108", after := #[], guard := none },
  { dst := none, op := .store 42 (.tmp 14) (.tmp 68), type := 0, pos := "law.go:108", after := #[⟨6, .data⟩, ⟨4, .data⟩, ⟨2, .chain⟩, ⟨0, .phase⟩, ⟨1, .phase⟩, ⟨2, .phase⟩, ⟨3, .phase⟩, ⟨4, .phase⟩, ⟨5, .textOnly .lateStores⟩, ⟨6, .phase⟩], guard := none },
  { dst := some 15, op := .assign (.tmp 69), type := 37, pos := "law.go:108", after := #[⟨5, .data⟩, ⟨7, .chain⟩, ⟨0, .phase⟩, ⟨1, .phase⟩, ⟨2, .phase⟩, ⟨3, .phase⟩, ⟨4, .phase⟩, ⟨5, .phase⟩, ⟨6, .phase⟩, ⟨7, .phase⟩], guard := none }]
set_option maxRecDepth 100000 in
set_option maxHeartbeats 2000000 in
theorem bd_r7 {Q : Exit → Act → World → Prop} {a0 : Act} {w0 : World} {T : Int} {p7 : Nat} {d7 : Bool} {A7 : Option Addr} {n7 c7 : Nat} (hN : a0.tmps.size = 196) (t7 : a0.tmps[7]? = some (.pointer (some ⟨p7, 0, none⟩))) (H7 : HoldN w0 p7 T d7 A7 n7 c7) (tl : InL T)
    (hQ : ∀ (w : World) (v65 v66 v67 v64 v68 v69 v15 : Value) (g14 : Nat) (d14 : Bool) (A14 : Option Addr) (n14 c14 : Nat) (e14 : Bool) (E14 : Option Addr) (m14 f14 : Nat), Below w0.heap.size w0 w → HoldG w g14 (Rat.divInt (3) (T)) d14 A14 n14 c14 e14 E14 m14 f14 → w0.heap.size ≤ g14 → (Is (.int .i64 (makeE (T)))) v15 w → Q .normal ⟨([(65, v65), (66, v66), (67, v67), (64, v64), (68, v68), (69, v69), (15, v15), (14, .pointer (some ⟨g14, 0, none⟩))] : List (Nat × Value)).foldl (fun ts p => ts.setIfInBounds p.1 p.2) a0.tmps, a0.defers⟩ w) :
    (Code.region 7 bd_r7_ops true).wp Tryz.prog Q a0 w0 := by
  refine wp_region_boxes4' (ty := 42) (cl := [.val 65 (IsN (3)), .val 66 (IsN (T)), .val 67 (IsGE (Rat.divInt (3) (T)) (makeE (T))), .val 64 (IsGE (Rat.divInt (3) (T)) (makeE (T))), .val 68 (IsG (Rat.divInt (3) (T))), .val 69 (Is (.int .i64 (makeE (T)))), .new 14, .put 14 (IsG (Rat.divInt (3) (T))), .val 15 (Is (.int .i64 (makeE (T))))]) 196 (by kernel_rfl) hN (by kernel_rfl) ?_ ?_ ?_
  · exact ⟨IsN.stb4 _ _, IsN.stb4 _ _, IsGE.stb4 _ _ _, IsGE.stb4 _ _ _, IsG.stb4 _ _, Is.stb4 _ _, trivial, IsG.stb4 _ _, Is.stb4 _ _, trivial⟩
  · refine ⟨?_, ?_, ?_, ?_, ?_, ?_, ?_, ?_, ?_, trivial⟩
    · intro l ac w h hd K hK
      exact o_call1 rfl GdOk.none rfl (enters_of Tryz.func16 (by kernel_rfl) rfl) ((of_any 3 _ (by omega) (by omega)).mono fun e w' ⟨v, he, h1, h2⟩ => ⟨_, he, hK _ _ h1 h2⟩)
    · intro l ac w h hd K hK
      exact o_loadN rfl GdOk.none (ev_t ((h.same 7 (not_dst (by kernel_rfl))).trans t7)) (H7.below h.below).c0 (H7.below h.below).c1 (hK _ _ (H7.below h.below).2 (Below.refl _ _))
    · intro l ac w h hd K hK
      obtain ⟨v0, hv0, hF0⟩ := h.fact 0 _ rfl (dep hd 0 (by kernel_rfl))
      obtain ⟨v1, hv1, hF1⟩ := h.fact 1 _ rfl (dep hd 1 (by kernel_rfl))
      exact o_call2 rfl GdOk.none (ev_t hv0) (ev_t hv1) (enters_of Tryz.func19 (by kernel_rfl) rfl) ((gmake_any _ _ _ _ _ hF0 hF1 (((Bits.i64 (by omega) (by omega) : Bits 64 3)).mono (by omega)) ((fit_bits tl).mono (by omega))).mono fun e w' ⟨v, he, h1, h2⟩ => ⟨_, he, hK _ _ ⟨v, rfl, h1⟩ h2⟩)
    · intro l ac w h hd K hK
      obtain ⟨v2, hv2, u2, rfl, hF2⟩ := h.fact 2 _ rfl (dep hd 2 (by kernel_rfl))
      exact o_move rfl GdOk.none (ev_t hv2) (hK _ _ ⟨u2, rfl, hF2⟩ (Below.refl _ _))
    · intro l ac w h hd K hK
      obtain ⟨v3, hv3, u3, rfl, hF3⟩ := h.fact 3 _ rfl (dep hd 3 (by kernel_rfl))
      exact o_ext0 rfl GdOk.none (ev_t hv3) (hK _ _ hF3 (Below.refl _ _))
    · intro l ac w h hd K hK
      obtain ⟨v3, hv3, u3, rfl, hF3⟩ := h.fact 3 _ rfl (dep hd 3 (by kernel_rfl))
      exact o_ext1 rfl GdOk.none (ev_t hv3) (hK _ _ rfl (Below.refl _ _))
    · intro ac w K hK
      exact o_allocG rfl GdOk.none hK
    · refine ⟨⟨6, rfl⟩, fun l ac w h hd => ?_⟩
      obtain ⟨g, hg, hlt, e, A, n, c, e', A', n', c', hB⟩ := h.fact 6 _ rfl (dep hd 6 (by kernel_rfl))
      obtain ⟨v4, hv4, hF4⟩ := h.fact 4 _ rfl (dep hd 4 (by kernel_rfl))
      obtain ⟨d1, A1, n1, c1, d2, A2, n2, c2, rfl⟩ := RepG.shape hF4
      exact ⟨g, d1, A1, n1, c1, d2, A2, n2, c2, e, A, n, c, e', A', n', c', hg, hlt, hB, hF4, fun K hK => o_store4 (by first | exact Or.inl rfl | exact Or.inr rfl) rfl GdOk.none (ev_t hg) (ev_t hv4) hB hK⟩
    · intro l ac w h hd K hK
      obtain ⟨v5, hv5, rfl⟩ := h.fact 5 _ rfl (dep hd 5 (by kernel_rfl))
      exact o_assign rfl GdOk.none (ev_t hv5) (hK _ _ rfl (Below.refl _ _))
  · intro l ac w h hall
    obtain ⟨v65, q65, r65⟩ := h.fact 0 _ rfl (hall 0 (of_decide_eq_true (by kernel_rfl)))
    obtain ⟨v66, q66, r66⟩ := h.fact 1 _ rfl (hall 1 (of_decide_eq_true (by kernel_rfl)))
    obtain ⟨v67, q67, r67⟩ := h.fact 2 _ rfl (hall 2 (of_decide_eq_true (by kernel_rfl)))
    obtain ⟨v64, q64, r64⟩ := h.fact 3 _ rfl (hall 3 (of_decide_eq_true (by kernel_rfl)))
    obtain ⟨v68, q68, r68⟩ := h.fact 4 _ rfl (hall 4 (of_decide_eq_true (by kernel_rfl)))
    obtain ⟨v69, q69, r69⟩ := h.fact 5 _ rfl (hall 5 (of_decide_eq_true (by kernel_rfl)))
    obtain ⟨v15, q15, r15⟩ := h.fact 8 _ rfl (hall 8 (of_decide_eq_true (by kernel_rfl)))
    obtain ⟨g14, q14, l14, d14, A14, n14, c14, e14, E14, m14, f14, B14, F14⟩ := h.fact 7 _ rfl (hall 7 (of_decide_eq_true (by kernel_rfl)))
    have ha := act_of [(65, v65), (66, v66), (67, v67), (64, v64), (68, v68), (69, v69), (15, v15), (14, .pointer (some ⟨g14, 0, none⟩))] h.defers h.size (List.forall_mem_cons.2 ⟨q65, List.forall_mem_cons.2 ⟨q66, List.forall_mem_cons.2 ⟨q67, List.forall_mem_cons.2 ⟨q64, List.forall_mem_cons.2 ⟨q68, List.forall_mem_cons.2 ⟨q69, List.forall_mem_cons.2 ⟨q15, List.forall_mem_cons.2 ⟨q14, fun _ h => by cases h⟩⟩⟩⟩⟩⟩⟩⟩) (fun t ht => h.same t (fun hm => ht (in_dst (F := [65, 66, 67, 64, 68, 69, 15, 14]) (by kernel_rfl) hm)))
    rw [ha]
    exact hQ w _ _ _ _ _ _ _ _ _ _ _ _ _ _ _ _ h.below ⟨B14, F14⟩ l14 r15
def bd_r11_ops : Array Oper := #[
  { dst := some 94, op := .load 36 (.tmp 8), type := 36, pos := "law.go:113", after := #[], guard := none },
  { dst := some 95, op := .move (.tmp 16), type := 3, pos := "law.go:113", after := #[], guard := none },
  { dst := some 96, op := .call { callee := .value (.func 22), args := #[.tmp 95], argTypes := #[3] }, type := 36, pos := "law.go:113", after := #[⟨1, .data⟩], guard := none },
  { dst := some 97, op := .call { callee := .value (.func 28), args := #[.tmp 94, .tmp 96], argTypes := #[36, 36] }, type := 38, pos := "law.go:113", after := #[⟨0, .data⟩, ⟨2, .data⟩, ⟨2, .chain⟩], guard := none },
  { dst := some 93, op := .move (.tmp 97), type := 38, pos := "law.go:113", after := #[⟨3, .data⟩], guard := none },
  { dst := some 98, op := .extract (.tmp 93) 0, type := 36, pos := "law.go:113", after := #[⟨4, .data⟩], guard := none },
  { dst := some 99, op := .extract (.tmp 93) 1, type := 37, pos := "law.go:113", after := #[⟨4, .data⟩, ⟨8, .gcOnly .lateStores⟩], guard := none },
  { dst := some 17, op := .alloc 36, type := 0, pos := "law.go:113", after := #[], guard := none },
  { dst := none, op := .store 36 (.tmp 17) (.tmp 98), type := 0, pos := "law.go:113", after := #[⟨7, .data⟩, ⟨5, .data⟩, ⟨3, .chain⟩, ⟨0, .phase⟩, ⟨1, .phase⟩, ⟨2, .phase⟩, ⟨3, .phase⟩, ⟨4, .phase⟩, ⟨5, .phase⟩, ⟨6, .textOnly .lateStores⟩, ⟨7, .phase⟩], guard := none },
  { dst := some 18, op := .assign (.tmp 99), type := 37, pos := "law.go:113", after := #[⟨6, .data⟩, ⟨8, .chain⟩, ⟨0, .phase⟩, ⟨1, .phase⟩, ⟨2, .phase⟩, ⟨3, .phase⟩, ⟨4, .phase⟩, ⟨5, .phase⟩, ⟨6, .phase⟩, ⟨7, .phase⟩, ⟨8, .phase⟩], guard := none }]
set_option maxRecDepth 100000 in
set_option maxHeartbeats 2000000 in
theorem bd_r11 {Q : Exit → Act → World → Prop} {a0 : Act} {w0 : World} {x : Rat} {k : Int} {p8 : Nat} {d8 : Bool} {A8 : Option Addr} {n8 c8 : Nat} {e8 : Bool} {E8 : Option Addr} {m8 f8 : Nat} (hN : a0.tmps.size = 196) (t16 : a0.tmps[16]? = some (.int .i64 k)) (hk : -100 ≤ k ∧ k ≤ 100) (t8 : a0.tmps[8]? = some (.pointer (some ⟨p8, 0, none⟩))) (H8 : HoldQ w0 p8 x d8 A8 n8 c8 e8 E8 m8 f8) (ix : InF x)
    (hQ : ∀ (w : World) (v94 v95 v96 v97 v93 v98 v99 v18 : Value) (g17 : Nat) (d17 : Bool) (A17 : Option Addr) (n17 c17 : Nat) (e17 : Bool) (E17 : Option Addr) (m17 f17 : Nat), Below w0.heap.size w0 w → HoldQ w g17 (addQ (x) (((k : Int) : Rat))) d17 A17 n17 c17 e17 E17 m17 f17 → w0.heap.size ≤ g17 → (Is (.int .i64 (addR (x) (((k : Int) : Rat))))) v18 w → Q .normal ⟨([(94, v94), (95, v95), (96, v96), (97, v97), (93, v93), (98, v98), (99, v99), (18, v18), (17, .pointer (some ⟨g17, 0, none⟩))] : List (Nat × Value)).foldl (fun ts p => ts.setIfInBounds p.1 p.2) a0.tmps, a0.defers⟩ w) :
    (Code.region 11 bd_r11_ops true).wp Tryz.prog Q a0 w0 := by
  refine wp_region_boxes4' (ty := 36) (cl := [.val 94 (IsQ (x)), .val 95 (Is (.int .i64 k)), .val 96 (IsQ (((k : Int) : Rat))), .val 97 (IsQE (addQ (x) (((k : Int) : Rat))) (addR (x) (((k : Int) : Rat)))), .val 93 (IsQE (addQ (x) (((k : Int) : Rat))) (addR (x) (((k : Int) : Rat)))), .val 98 (IsQ (addQ (x) (((k : Int) : Rat)))), .val 99 (Is (.int .i64 (addR (x) (((k : Int) : Rat))))), .new 17, .put 17 (IsQ (addQ (x) (((k : Int) : Rat)))), .val 18 (Is (.int .i64 (addR (x) (((k : Int) : Rat)))))]) 196 (by kernel_rfl) hN (by kernel_rfl) ?_ ?_ ?_
  · exact ⟨IsQ.stb4 _ _, Is.stb4 _ _, IsQ.stb4 _ _, IsQE.stb4 _ _ _, IsQE.stb4 _ _ _, IsQ.stb4 _ _, Is.stb4 _ _, trivial, IsQ.stb4 _ _, Is.stb4 _ _, trivial⟩
  · refine ⟨?_, ?_, ?_, ?_, ?_, ?_, ?_, ?_, ?_, ?_, trivial⟩
    · intro l ac w h hd K hK
      exact o_loadQ rfl GdOk.none (ev_t ((h.same 8 (not_dst (by kernel_rfl))).trans t8)) (H8.below h.below).c0 (H8.below h.below).c1 (H8.below h.below).c2 (H8.below h.below).c3 (hK _ _ (H8.below h.below).2 (Below.refl _ _))
    · intro l ac w h hd K hK
      exact o_move rfl GdOk.none (ev_t ((h.same 16 (not_dst (by kernel_rfl))).trans t16)) (hK _ _ rfl (Below.refl _ _))
    · intro l ac w h hd K hK
      obtain ⟨v1, hv1, rfl⟩ := h.fact 1 _ rfl (dep hd 1 (by kernel_rfl))
      exact o_call1 rfl GdOk.none (ev_t hv1) (enters_of Tryz.func22 (by kernel_rfl) rfl) ((whole_law k _ (by omega)).mono fun e w' ⟨v, he, h1, h2⟩ => ⟨_, he, hK _ _ h1 h2⟩)
    · intro l ac w h hd K hK
      obtain ⟨v0, hv0, hF0⟩ := h.fact 0 _ rfl (dep hd 0 (by kernel_rfl))
      obtain ⟨v2, hv2, hF2⟩ := h.fact 2 _ rfl (dep hd 2 (by kernel_rfl))
      exact o_call2 rfl GdOk.none (ev_t hv0) (ev_t hv2) (enters_of Tryz.func28 (by kernel_rfl) rfl) ((fadd_any _ _ _ _ _ hF0 hF2 ix (small_in hk.1 hk.2)).mono fun e w' ⟨v, he, h1, h2⟩ => ⟨_, he, hK _ _ ⟨v, rfl, h1⟩ h2⟩)
    · intro l ac w h hd K hK
      obtain ⟨v3, hv3, u3, rfl, hF3⟩ := h.fact 3 _ rfl (dep hd 3 (by kernel_rfl))
      exact o_move rfl GdOk.none (ev_t hv3) (hK _ _ ⟨u3, rfl, hF3⟩ (Below.refl _ _))
    · intro l ac w h hd K hK
      obtain ⟨v4, hv4, u4, rfl, hF4⟩ := h.fact 4 _ rfl (dep hd 4 (by kernel_rfl))
      exact o_ext0 rfl GdOk.none (ev_t hv4) (hK _ _ hF4 (Below.refl _ _))
    · intro l ac w h hd K hK
      obtain ⟨v4, hv4, u4, rfl, hF4⟩ := h.fact 4 _ rfl (dep hd 4 (by kernel_rfl))
      exact o_ext1 rfl GdOk.none (ev_t hv4) (hK _ _ rfl (Below.refl _ _))
    · intro ac w K hK
      exact o_allocQ rfl GdOk.none hK
    · refine ⟨⟨7, rfl⟩, fun l ac w h hd => ?_⟩
      obtain ⟨g, hg, hlt, e, A, n, c, e', A', n', c', hB⟩ := h.fact 7 _ rfl (dep hd 7 (by kernel_rfl))
      obtain ⟨v5, hv5, hF5⟩ := h.fact 5 _ rfl (dep hd 5 (by kernel_rfl))
      obtain ⟨d1, A1, n1, c1, d2, A2, n2, c2, rfl⟩ := RepF.shape hF5
      exact ⟨g, d1, A1, n1, c1, d2, A2, n2, c2, e, A, n, c, e', A', n', c', hg, hlt, hB, hF5, fun K hK => o_store4 (by first | exact Or.inl rfl | exact Or.inr rfl) rfl GdOk.none (ev_t hg) (ev_t hv5) hB hK⟩
    · intro l ac w h hd K hK
      obtain ⟨v6, hv6, rfl⟩ := h.fact 6 _ rfl (dep hd 6 (by kernel_rfl))
      exact o_assign rfl GdOk.none (ev_t hv6) (hK _ _ rfl (Below.refl _ _))
  · intro l ac w h hall
    obtain ⟨v94, q94, r94⟩ := h.fact 0 _ rfl (hall 0 (of_decide_eq_true (by kernel_rfl)))
    obtain ⟨v95, q95, r95⟩ := h.fact 1 _ rfl (hall 1 (of_decide_eq_true (by kernel_rfl)))
    obtain ⟨v96, q96, r96⟩ := h.fact 2 _ rfl (hall 2 (of_decide_eq_true (by kernel_rfl)))
    obtain ⟨v97, q97, r97⟩ := h.fact 3 _ rfl (hall 3 (of_decide_eq_true (by kernel_rfl)))
    obtain ⟨v93, q93, r93⟩ := h.fact 4 _ rfl (hall 4 (of_decide_eq_true (by kernel_rfl)))
    obtain ⟨v98, q98, r98⟩ := h.fact 5 _ rfl (hall 5 (of_decide_eq_true (by kernel_rfl)))
    obtain ⟨v99, q99, r99⟩ := h.fact 6 _ rfl (hall 6 (of_decide_eq_true (by kernel_rfl)))
    obtain ⟨v18, q18, r18⟩ := h.fact 9 _ rfl (hall 9 (of_decide_eq_true (by kernel_rfl)))
    obtain ⟨g17, q17, l17, d17, A17, n17, c17, e17, E17, m17, f17, B17, F17⟩ := h.fact 8 _ rfl (hall 8 (of_decide_eq_true (by kernel_rfl)))
    have ha := act_of [(94, v94), (95, v95), (96, v96), (97, v97), (93, v93), (98, v98), (99, v99), (18, v18), (17, .pointer (some ⟨g17, 0, none⟩))] h.defers h.size (List.forall_mem_cons.2 ⟨q94, List.forall_mem_cons.2 ⟨q95, List.forall_mem_cons.2 ⟨q96, List.forall_mem_cons.2 ⟨q97, List.forall_mem_cons.2 ⟨q93, List.forall_mem_cons.2 ⟨q98, List.forall_mem_cons.2 ⟨q99, List.forall_mem_cons.2 ⟨q18, List.forall_mem_cons.2 ⟨q17, fun _ h => by cases h⟩⟩⟩⟩⟩⟩⟩⟩⟩) (fun t ht => h.same t (fun hm => ht (in_dst (F := [94, 95, 96, 97, 93, 98, 99, 18, 17]) (by kernel_rfl) hm)))
    rw [ha]
    exact hQ w _ _ _ _ _ _ _ _ _ _ _ _ _ _ _ _ _ h.below ⟨B17, F17⟩ l17 r18
def bd_r12_ops : Array Oper := #[
  { dst := some 101, op := .load 42 (.tmp 10), type := 42, pos := "law.go:114", after := #[], guard := none },
  { dst := some 102, op := .move (.tmp 16), type := 3, pos := "law.go:114", after := #[], guard := none },
  { dst := some 103, op := .call { callee := .value (.func 23), args := #[.tmp 102], argTypes := #[3] }, type := 42, pos := "law.go:114", after := #[⟨1, .data⟩], guard := none },
  { dst := some 104, op := .call { callee := .value (.func 29), args := #[.tmp 101, .tmp 103], argTypes := #[42, 42] }, type := 43, pos := "law.go:114", after := #[⟨0, .data⟩, ⟨2, .data⟩, ⟨2, .chain⟩], guard := none },
  { dst := some 100, op := .move (.tmp 104), type := 43, pos := "law.go:114", after := #[⟨3, .data⟩], guard := none },
  { dst := some 105, op := .extract (.tmp 100) 0, type := 42, pos := "law.go:114", after := #[⟨4, .data⟩], guard := none },
  { dst := some 106, op := .extract (.tmp 100) 1, type := 37, pos := "law.go:114", after := #[⟨4, .data⟩, ⟨8, .gcOnly .lateStores⟩], guard := none },
  { dst := some 19, op := .alloc 42, type := 0, pos := "law.go:114", after := #[], guard := none },
  { dst := none, op := .store 42 (.tmp 19) (.tmp 105), type := 0, pos := "law.go:114", after := #[⟨7, .data⟩, ⟨5, .data⟩, ⟨3, .chain⟩, ⟨0, .phase⟩, ⟨1, .phase⟩, ⟨2, .phase⟩, ⟨3, .phase⟩, ⟨4, .phase⟩, ⟨5, .phase⟩, ⟨6, .textOnly .lateStores⟩, ⟨7, .phase⟩], guard := none },
  { dst := some 20, op := .assign (.tmp 106), type := 37, pos := "law.go:114", after := #[⟨6, .data⟩, ⟨8, .chain⟩, ⟨0, .phase⟩, ⟨1, .phase⟩, ⟨2, .phase⟩, ⟨3, .phase⟩, ⟨4, .phase⟩, ⟨5, .phase⟩, ⟨6, .phase⟩, ⟨7, .phase⟩, ⟨8, .phase⟩], guard := none }]
set_option maxRecDepth 100000 in
set_option maxHeartbeats 2000000 in
theorem bd_r12 {Q : Exit → Act → World → Prop} {a0 : Act} {w0 : World} {x : Rat} {k : Int} {p10 : Nat} {d10 : Bool} {A10 : Option Addr} {n10 c10 : Nat} {e10 : Bool} {E10 : Option Addr} {m10 f10 : Nat} (hN : a0.tmps.size = 196) (t16 : a0.tmps[16]? = some (.int .i64 k)) (hk : -100 ≤ k ∧ k ≤ 100) (t10 : a0.tmps[10]? = some (.pointer (some ⟨p10, 0, none⟩))) (H10 : HoldG w0 p10 x d10 A10 n10 c10 e10 E10 m10 f10) (ix : InF x)
    (hQ : ∀ (w : World) (v101 v102 v103 v104 v100 v105 v106 v20 : Value) (g19 : Nat) (d19 : Bool) (A19 : Option Addr) (n19 c19 : Nat) (e19 : Bool) (E19 : Option Addr) (m19 f19 : Nat), Below w0.heap.size w0 w → HoldG w g19 (addQ (x) (((k : Int) : Rat))) d19 A19 n19 c19 e19 E19 m19 f19 → w0.heap.size ≤ g19 → (Is (.int .i64 (addR (x) (((k : Int) : Rat))))) v20 w → Q .normal ⟨([(101, v101), (102, v102), (103, v103), (104, v104), (100, v100), (105, v105), (106, v106), (20, v20), (19, .pointer (some ⟨g19, 0, none⟩))] : List (Nat × Value)).foldl (fun ts p => ts.setIfInBounds p.1 p.2) a0.tmps, a0.defers⟩ w) :
    (Code.region 12 bd_r12_ops true).wp Tryz.prog Q a0 w0 := by
  refine wp_region_boxes4' (ty := 42) (cl := [.val 101 (IsG (x)), .val 102 (Is (.int .i64 k)), .val 103 (IsG (((k : Int) : Rat))), .val 104 (IsGE (addQ (x) (((k : Int) : Rat))) (addR (x) (((k : Int) : Rat)))), .val 100 (IsGE (addQ (x) (((k : Int) : Rat))) (addR (x) (((k : Int) : Rat)))), .val 105 (IsG (addQ (x) (((k : Int) : Rat)))), .val 106 (Is (.int .i64 (addR (x) (((k : Int) : Rat))))), .new 19, .put 19 (IsG (addQ (x) (((k : Int) : Rat)))), .val 20 (Is (.int .i64 (addR (x) (((k : Int) : Rat)))))]) 196 (by kernel_rfl) hN (by kernel_rfl) ?_ ?_ ?_
  · exact ⟨IsG.stb4 _ _, Is.stb4 _ _, IsG.stb4 _ _, IsGE.stb4 _ _ _, IsGE.stb4 _ _ _, IsG.stb4 _ _, Is.stb4 _ _, trivial, IsG.stb4 _ _, Is.stb4 _ _, trivial⟩
  · refine ⟨?_, ?_, ?_, ?_, ?_, ?_, ?_, ?_, ?_, ?_, trivial⟩
    · intro l ac w h hd K hK
      exact o_loadG rfl GdOk.none (ev_t ((h.same 10 (not_dst (by kernel_rfl))).trans t10)) (H10.below h.below).c0 (H10.below h.below).c1 (H10.below h.below).c2 (H10.below h.below).c3 (hK _ _ (H10.below h.below).2 (Below.refl _ _))
    · intro l ac w h hd K hK
      exact o_move rfl GdOk.none (ev_t ((h.same 16 (not_dst (by kernel_rfl))).trans t16)) (hK _ _ rfl (Below.refl _ _))
    · intro l ac w h hd K hK
      obtain ⟨v1, hv1, rfl⟩ := h.fact 1 _ rfl (dep hd 1 (by kernel_rfl))
      exact o_call1 rfl GdOk.none (ev_t hv1) (enters_of Tryz.func23 (by kernel_rfl) rfl) ((gof_any k _ (by omega)).mono fun e w' ⟨v, he, h1, h2⟩ => ⟨_, he, hK _ _ h1 h2⟩)
    · intro l ac w h hd K hK
      obtain ⟨v0, hv0, hF0⟩ := h.fact 0 _ rfl (dep hd 0 (by kernel_rfl))
      obtain ⟨v2, hv2, hF2⟩ := h.fact 2 _ rfl (dep hd 2 (by kernel_rfl))
      exact o_call2 rfl GdOk.none (ev_t hv0) (ev_t hv2) (enters_of Tryz.func29 (by kernel_rfl) rfl) ((gadd_any _ _ _ _ _ hF0 hF2 ix (small_in hk.1 hk.2)).mono fun e w' ⟨v, he, h1, h2⟩ => ⟨_, he, hK _ _ ⟨v, rfl, h1⟩ h2⟩)
    · intro l ac w h hd K hK
      obtain ⟨v3, hv3, u3, rfl, hF3⟩ := h.fact 3 _ rfl (dep hd 3 (by kernel_rfl))
      exact o_move rfl GdOk.none (ev_t hv3) (hK _ _ ⟨u3, rfl, hF3⟩ (Below.refl _ _))
    · intro l ac w h hd K hK
      obtain ⟨v4, hv4, u4, rfl, hF4⟩ := h.fact 4 _ rfl (dep hd 4 (by kernel_rfl))
      exact o_ext0 rfl GdOk.none (ev_t hv4) (hK _ _ hF4 (Below.refl _ _))
    · intro l ac w h hd K hK
      obtain ⟨v4, hv4, u4, rfl, hF4⟩ := h.fact 4 _ rfl (dep hd 4 (by kernel_rfl))
      exact o_ext1 rfl GdOk.none (ev_t hv4) (hK _ _ rfl (Below.refl _ _))
    · intro ac w K hK
      exact o_allocG rfl GdOk.none hK
    · refine ⟨⟨7, rfl⟩, fun l ac w h hd => ?_⟩
      obtain ⟨g, hg, hlt, e, A, n, c, e', A', n', c', hB⟩ := h.fact 7 _ rfl (dep hd 7 (by kernel_rfl))
      obtain ⟨v5, hv5, hF5⟩ := h.fact 5 _ rfl (dep hd 5 (by kernel_rfl))
      obtain ⟨d1, A1, n1, c1, d2, A2, n2, c2, rfl⟩ := RepG.shape hF5
      exact ⟨g, d1, A1, n1, c1, d2, A2, n2, c2, e, A, n, c, e', A', n', c', hg, hlt, hB, hF5, fun K hK => o_store4 (by first | exact Or.inl rfl | exact Or.inr rfl) rfl GdOk.none (ev_t hg) (ev_t hv5) hB hK⟩
    · intro l ac w h hd K hK
      obtain ⟨v6, hv6, rfl⟩ := h.fact 6 _ rfl (dep hd 6 (by kernel_rfl))
      exact o_assign rfl GdOk.none (ev_t hv6) (hK _ _ rfl (Below.refl _ _))
  · intro l ac w h hall
    obtain ⟨v101, q101, r101⟩ := h.fact 0 _ rfl (hall 0 (of_decide_eq_true (by kernel_rfl)))
    obtain ⟨v102, q102, r102⟩ := h.fact 1 _ rfl (hall 1 (of_decide_eq_true (by kernel_rfl)))
    obtain ⟨v103, q103, r103⟩ := h.fact 2 _ rfl (hall 2 (of_decide_eq_true (by kernel_rfl)))
    obtain ⟨v104, q104, r104⟩ := h.fact 3 _ rfl (hall 3 (of_decide_eq_true (by kernel_rfl)))
    obtain ⟨v100, q100, r100⟩ := h.fact 4 _ rfl (hall 4 (of_decide_eq_true (by kernel_rfl)))
    obtain ⟨v105, q105, r105⟩ := h.fact 5 _ rfl (hall 5 (of_decide_eq_true (by kernel_rfl)))
    obtain ⟨v106, q106, r106⟩ := h.fact 6 _ rfl (hall 6 (of_decide_eq_true (by kernel_rfl)))
    obtain ⟨v20, q20, r20⟩ := h.fact 9 _ rfl (hall 9 (of_decide_eq_true (by kernel_rfl)))
    obtain ⟨g19, q19, l19, d19, A19, n19, c19, e19, E19, m19, f19, B19, F19⟩ := h.fact 8 _ rfl (hall 8 (of_decide_eq_true (by kernel_rfl)))
    have ha := act_of [(101, v101), (102, v102), (103, v103), (104, v104), (100, v100), (105, v105), (106, v106), (20, v20), (19, .pointer (some ⟨g19, 0, none⟩))] h.defers h.size (List.forall_mem_cons.2 ⟨q101, List.forall_mem_cons.2 ⟨q102, List.forall_mem_cons.2 ⟨q103, List.forall_mem_cons.2 ⟨q104, List.forall_mem_cons.2 ⟨q100, List.forall_mem_cons.2 ⟨q105, List.forall_mem_cons.2 ⟨q106, List.forall_mem_cons.2 ⟨q20, List.forall_mem_cons.2 ⟨q19, fun _ h => by cases h⟩⟩⟩⟩⟩⟩⟩⟩⟩) (fun t ht => h.same t (fun hm => ht (in_dst (F := [101, 102, 103, 104, 100, 105, 106, 20, 19]) (by kernel_rfl) hm)))
    rw [ha]
    exact hQ w _ _ _ _ _ _ _ _ _ _ _ _ _ _ _ _ _ h.below ⟨B19, F19⟩ l19 r20
def bd_r14_ops : Array Oper := #[
  { dst := some 114, op := .load 42 (.tmp 21), type := 42, pos := "law.go:116", after := #[], guard := none },
  { dst := some 115, op := .call { callee := .value (.func 27), args := #[.tmp 114], argTypes := #[42] }, type := 36, pos := "law.go:116", after := #[⟨0, .data⟩], guard := none },
  { dst := some 116, op := .load 42 (.tmp 21), type := 42, pos := "law.go:116", after := #[], guard := none },
  { dst := some 117, op := .call { callee := .value (.func 27), args := #[.tmp 116], argTypes := #[42] }, type := 36, pos := "law.go:116", after := #[⟨2, .data⟩, ⟨1, .chain⟩], guard := none },
  { dst := some 118, op := .call { callee := .value (.func 32), args := #[.tmp 115, .tmp 117], argTypes := #[36, 36] }, type := 38, pos := "law.go:116", after := #[⟨1, .data⟩, ⟨3, .data⟩, ⟨3, .chain⟩], guard := none },
  { dst := some 113, op := .move (.tmp 118), type := 38, pos := "law.go:116", after := #[⟨4, .data⟩], guard := none },
  { dst := some 119, op := .extract (.tmp 113) 0, type := 36, pos := "law.go:116", after := #[⟨5, .data⟩], guard := none },
  { dst := some 120, op := .extract (.tmp 113) 1, type := 37, pos := "law.go:116", after := #[⟨5, .data⟩, ⟨9, .gcOnly .lateStores⟩], guard := none },
  { dst := some 23, op := .alloc 36, type := 0, pos := "law.go:116", after := #[], guard := none },
  { dst := none, op := .store 36 (.tmp 23) (.tmp 119), type := 0, pos := "law.go:116", after := #[⟨8, .data⟩, ⟨6, .data⟩, ⟨4, .chain⟩, ⟨0, .phase⟩, ⟨1, .phase⟩, ⟨2, .phase⟩, ⟨3, .phase⟩, ⟨4, .phase⟩, ⟨5, .phase⟩, ⟨6, .phase⟩, ⟨7, .textOnly .lateStores⟩, ⟨8, .phase⟩], guard := none },
  { dst := some 24, op := .assign (.tmp 120), type := 37, pos := "law.go:116", after := #[⟨7, .data⟩, ⟨9, .chain⟩, ⟨0, .phase⟩, ⟨1, .phase⟩, ⟨2, .phase⟩, ⟨3, .phase⟩, ⟨4, .phase⟩, ⟨5, .phase⟩, ⟨6, .phase⟩, ⟨7, .phase⟩, ⟨8, .phase⟩, ⟨9, .phase⟩], guard := none }]
set_option maxRecDepth 100000 in
set_option maxHeartbeats 2000000 in
theorem bd_r14 {Q : Exit → Act → World → Prop} {a0 : Act} {w0 : World} {x : Rat} {p21 : Nat} {d21 : Bool} {A21 : Option Addr} {n21 c21 : Nat} {e21 : Bool} {E21 : Option Addr} {m21 f21 : Nat} (hN : a0.tmps.size = 196) (t21 : a0.tmps[21]? = some (.pointer (some ⟨p21, 0, none⟩))) (H21 : HoldG w0 p21 x d21 A21 n21 c21 e21 E21 m21 f21) (ix : InF x)
    (hQ : ∀ (w : World) (v114 v115 v116 v117 v118 v113 v119 v120 v24 : Value) (g23 : Nat) (d23 : Bool) (A23 : Option Addr) (n23 c23 : Nat) (e23 : Bool) (E23 : Option Addr) (m23 f23 : Nat), Below w0.heap.size w0 w → HoldQ w g23 (fitQ (x * x)) d23 A23 n23 c23 e23 E23 m23 f23 → w0.heap.size ≤ g23 → (Is (.int .i64 (fitR (x * x)))) v24 w → Q .normal ⟨([(114, v114), (115, v115), (116, v116), (117, v117), (118, v118), (113, v113), (119, v119), (120, v120), (24, v24), (23, .pointer (some ⟨g23, 0, none⟩))] : List (Nat × Value)).foldl (fun ts p => ts.setIfInBounds p.1 p.2) a0.tmps, a0.defers⟩ w) :
    (Code.region 14 bd_r14_ops true).wp Tryz.prog Q a0 w0 := by
  refine wp_region_boxes4' (ty := 36) (cl := [.val 114 (IsG (x)), .val 115 (IsQ (x)), .val 116 (IsG (x)), .val 117 (IsQ (x)), .val 118 (IsQE (fitQ (x * x)) (fitR (x * x))), .val 113 (IsQE (fitQ (x * x)) (fitR (x * x))), .val 119 (IsQ (fitQ (x * x))), .val 120 (Is (.int .i64 (fitR (x * x)))), .new 23, .put 23 (IsQ (fitQ (x * x))), .val 24 (Is (.int .i64 (fitR (x * x))))]) 196 (by kernel_rfl) hN (by kernel_rfl) ?_ ?_ ?_
  · exact ⟨IsG.stb4 _ _, IsQ.stb4 _ _, IsG.stb4 _ _, IsQ.stb4 _ _, IsQE.stb4 _ _ _, IsQE.stb4 _ _ _, IsQ.stb4 _ _, Is.stb4 _ _, trivial, IsQ.stb4 _ _, Is.stb4 _ _, trivial⟩
  · refine ⟨?_, ?_, ?_, ?_, ?_, ?_, ?_, ?_, ?_, ?_, ?_, trivial⟩
    · intro l ac w h hd K hK
      exact o_loadG rfl GdOk.none (ev_t ((h.same 21 (not_dst (by kernel_rfl))).trans t21)) (H21.below h.below).c0 (H21.below h.below).c1 (H21.below h.below).c2 (H21.below h.below).c3 (hK _ _ (H21.below h.below).2 (Below.refl _ _))
    · intro l ac w h hd K hK
      obtain ⟨v0, hv0, hF0⟩ := h.fact 0 _ rfl (dep hd 0 (by kernel_rfl))
      exact o_call1 rfl GdOk.none (ev_t hv0) (enters_of Tryz.func27 (by kernel_rfl) rfl) ((of_law _ _ _ hF0 ix).mono fun e w' ⟨v, he, h1, h2⟩ => ⟨_, he, hK _ _ h1 h2⟩)
    · intro l ac w h hd K hK
      exact o_loadG rfl GdOk.none (ev_t ((h.same 21 (not_dst (by kernel_rfl))).trans t21)) (H21.below h.below).c0 (H21.below h.below).c1 (H21.below h.below).c2 (H21.below h.below).c3 (hK _ _ (H21.below h.below).2 (Below.refl _ _))
    · intro l ac w h hd K hK
      obtain ⟨v2, hv2, hF2⟩ := h.fact 2 _ rfl (dep hd 2 (by kernel_rfl))
      exact o_call1 rfl GdOk.none (ev_t hv2) (enters_of Tryz.func27 (by kernel_rfl) rfl) ((of_law _ _ _ hF2 ix).mono fun e w' ⟨v, he, h1, h2⟩ => ⟨_, he, hK _ _ h1 h2⟩)
    · intro l ac w h hd K hK
      obtain ⟨v1, hv1, hF1⟩ := h.fact 1 _ rfl (dep hd 1 (by kernel_rfl))
      obtain ⟨v3, hv3, hF3⟩ := h.fact 3 _ rfl (dep hd 3 (by kernel_rfl))
      exact o_call2 rfl GdOk.none (ev_t hv1) (ev_t hv3) (enters_of Tryz.func32 (by kernel_rfl) rfl) ((fmul_any _ _ _ _ _ hF1 hF3 ix ix).mono fun e w' ⟨v, he, h1, h2⟩ => ⟨_, he, hK _ _ ⟨v, rfl, h1⟩ h2⟩)
    · intro l ac w h hd K hK
      obtain ⟨v4, hv4, u4, rfl, hF4⟩ := h.fact 4 _ rfl (dep hd 4 (by kernel_rfl))
      exact o_move rfl GdOk.none (ev_t hv4) (hK _ _ ⟨u4, rfl, hF4⟩ (Below.refl _ _))
    · intro l ac w h hd K hK
      obtain ⟨v5, hv5, u5, rfl, hF5⟩ := h.fact 5 _ rfl (dep hd 5 (by kernel_rfl))
      exact o_ext0 rfl GdOk.none (ev_t hv5) (hK _ _ hF5 (Below.refl _ _))
    · intro l ac w h hd K hK
      obtain ⟨v5, hv5, u5, rfl, hF5⟩ := h.fact 5 _ rfl (dep hd 5 (by kernel_rfl))
      exact o_ext1 rfl GdOk.none (ev_t hv5) (hK _ _ rfl (Below.refl _ _))
    · intro ac w K hK
      exact o_allocQ rfl GdOk.none hK
    · refine ⟨⟨8, rfl⟩, fun l ac w h hd => ?_⟩
      obtain ⟨g, hg, hlt, e, A, n, c, e', A', n', c', hB⟩ := h.fact 8 _ rfl (dep hd 8 (by kernel_rfl))
      obtain ⟨v6, hv6, hF6⟩ := h.fact 6 _ rfl (dep hd 6 (by kernel_rfl))
      obtain ⟨d1, A1, n1, c1, d2, A2, n2, c2, rfl⟩ := RepF.shape hF6
      exact ⟨g, d1, A1, n1, c1, d2, A2, n2, c2, e, A, n, c, e', A', n', c', hg, hlt, hB, hF6, fun K hK => o_store4 (by first | exact Or.inl rfl | exact Or.inr rfl) rfl GdOk.none (ev_t hg) (ev_t hv6) hB hK⟩
    · intro l ac w h hd K hK
      obtain ⟨v7, hv7, rfl⟩ := h.fact 7 _ rfl (dep hd 7 (by kernel_rfl))
      exact o_assign rfl GdOk.none (ev_t hv7) (hK _ _ rfl (Below.refl _ _))
  · intro l ac w h hall
    obtain ⟨v114, q114, r114⟩ := h.fact 0 _ rfl (hall 0 (of_decide_eq_true (by kernel_rfl)))
    obtain ⟨v115, q115, r115⟩ := h.fact 1 _ rfl (hall 1 (of_decide_eq_true (by kernel_rfl)))
    obtain ⟨v116, q116, r116⟩ := h.fact 2 _ rfl (hall 2 (of_decide_eq_true (by kernel_rfl)))
    obtain ⟨v117, q117, r117⟩ := h.fact 3 _ rfl (hall 3 (of_decide_eq_true (by kernel_rfl)))
    obtain ⟨v118, q118, r118⟩ := h.fact 4 _ rfl (hall 4 (of_decide_eq_true (by kernel_rfl)))
    obtain ⟨v113, q113, r113⟩ := h.fact 5 _ rfl (hall 5 (of_decide_eq_true (by kernel_rfl)))
    obtain ⟨v119, q119, r119⟩ := h.fact 6 _ rfl (hall 6 (of_decide_eq_true (by kernel_rfl)))
    obtain ⟨v120, q120, r120⟩ := h.fact 7 _ rfl (hall 7 (of_decide_eq_true (by kernel_rfl)))
    obtain ⟨v24, q24, r24⟩ := h.fact 10 _ rfl (hall 10 (of_decide_eq_true (by kernel_rfl)))
    obtain ⟨g23, q23, l23, d23, A23, n23, c23, e23, E23, m23, f23, B23, F23⟩ := h.fact 9 _ rfl (hall 9 (of_decide_eq_true (by kernel_rfl)))
    have ha := act_of [(114, v114), (115, v115), (116, v116), (117, v117), (118, v118), (113, v113), (119, v119), (120, v120), (24, v24), (23, .pointer (some ⟨g23, 0, none⟩))] h.defers h.size (List.forall_mem_cons.2 ⟨q114, List.forall_mem_cons.2 ⟨q115, List.forall_mem_cons.2 ⟨q116, List.forall_mem_cons.2 ⟨q117, List.forall_mem_cons.2 ⟨q118, List.forall_mem_cons.2 ⟨q113, List.forall_mem_cons.2 ⟨q119, List.forall_mem_cons.2 ⟨q120, List.forall_mem_cons.2 ⟨q24, List.forall_mem_cons.2 ⟨q23, fun _ h => by cases h⟩⟩⟩⟩⟩⟩⟩⟩⟩⟩) (fun t ht => h.same t (fun hm => ht (in_dst (F := [114, 115, 116, 117, 118, 113, 119, 120, 24, 23]) (by kernel_rfl) hm)))
    rw [ha]
    exact hQ w _ _ _ _ _ _ _ _ _ _ _ _ _ _ _ _ _ _ h.below ⟨B23, F23⟩ l23 r24
def bd_r16_ops : Array Oper := #[
  { dst := some 128, op := .load 36 (.tmp 23), type := 36, pos := "law.go:118", after := #[], guard := none },
  { dst := some 129, op := .move (.tmp 16), type := 3, pos := "law.go:118", after := #[], guard := none },
  { dst := some 130, op := .call { callee := .value (.func 22), args := #[.tmp 129], argTypes := #[3] }, type := 36, pos := "law.go:118", after := #[⟨1, .data⟩], guard := none },
  { dst := some 131, op := .call { callee := .value (.func 32), args := #[.tmp 128, .tmp 130], argTypes := #[36, 36] }, type := 38, pos := "law.go:118", after := #[⟨0, .data⟩, ⟨2, .data⟩, ⟨2, .chain⟩], guard := none },
  { dst := some 127, op := .move (.tmp 131), type := 38, pos := "law.go:118", after := #[⟨3, .data⟩], guard := none },
  { dst := some 132, op := .extract (.tmp 127) 0, type := 36, pos := "law.go:118", after := #[⟨4, .data⟩], guard := none },
  { dst := some 133, op := .extract (.tmp 127) 1, type := 37, pos := "law.go:118", after := #[⟨4, .data⟩, ⟨8, .gcOnly .lateStores⟩], guard := none },
  { dst := some 27, op := .alloc 36, type := 0, pos := "law.go:118", after := #[], guard := none },
  { dst := none, op := .store 36 (.tmp 27) (.tmp 132), type := 0, pos := "law.go:118", after := #[⟨7, .data⟩, ⟨5, .data⟩, ⟨3, .chain⟩, ⟨0, .phase⟩, ⟨1, .phase⟩, ⟨2, .phase⟩, ⟨3, .phase⟩, ⟨4, .phase⟩, ⟨5, .phase⟩, ⟨6, .textOnly .lateStores⟩, ⟨7, .phase⟩], guard := none },
  { dst := some 28, op := .assign (.tmp 133), type := 37, pos := "law.go:118", after := #[⟨6, .data⟩, ⟨8, .chain⟩, ⟨0, .phase⟩, ⟨1, .phase⟩, ⟨2, .phase⟩, ⟨3, .phase⟩, ⟨4, .phase⟩, ⟨5, .phase⟩, ⟨6, .phase⟩, ⟨7, .phase⟩, ⟨8, .phase⟩], guard := none }]
set_option maxRecDepth 100000 in
set_option maxHeartbeats 2000000 in
theorem bd_r16 {Q : Exit → Act → World → Prop} {a0 : Act} {w0 : World} {x : Rat} {k : Int} {p23 : Nat} {d23 : Bool} {A23 : Option Addr} {n23 c23 : Nat} {e23 : Bool} {E23 : Option Addr} {m23 f23 : Nat} (hN : a0.tmps.size = 196) (t16 : a0.tmps[16]? = some (.int .i64 k)) (hk : -100 ≤ k ∧ k ≤ 100) (t23 : a0.tmps[23]? = some (.pointer (some ⟨p23, 0, none⟩))) (H23 : HoldQ w0 p23 x d23 A23 n23 c23 e23 E23 m23 f23) (ix : InF x)
    (hQ : ∀ (w : World) (v128 v129 v130 v131 v127 v132 v133 v28 : Value) (g27 : Nat) (d27 : Bool) (A27 : Option Addr) (n27 c27 : Nat) (e27 : Bool) (E27 : Option Addr) (m27 f27 : Nat), Below w0.heap.size w0 w → HoldQ w g27 (fitQ (x * ((k : Int) : Rat))) d27 A27 n27 c27 e27 E27 m27 f27 → w0.heap.size ≤ g27 → (Is (.int .i64 (fitR (x * ((k : Int) : Rat))))) v28 w → Q .normal ⟨([(128, v128), (129, v129), (130, v130), (131, v131), (127, v127), (132, v132), (133, v133), (28, v28), (27, .pointer (some ⟨g27, 0, none⟩))] : List (Nat × Value)).foldl (fun ts p => ts.setIfInBounds p.1 p.2) a0.tmps, a0.defers⟩ w) :
    (Code.region 16 bd_r16_ops true).wp Tryz.prog Q a0 w0 := by
  refine wp_region_boxes4' (ty := 36) (cl := [.val 128 (IsQ (x)), .val 129 (Is (.int .i64 k)), .val 130 (IsQ (((k : Int) : Rat))), .val 131 (IsQE (fitQ (x * ((k : Int) : Rat))) (fitR (x * ((k : Int) : Rat)))), .val 127 (IsQE (fitQ (x * ((k : Int) : Rat))) (fitR (x * ((k : Int) : Rat)))), .val 132 (IsQ (fitQ (x * ((k : Int) : Rat)))), .val 133 (Is (.int .i64 (fitR (x * ((k : Int) : Rat))))), .new 27, .put 27 (IsQ (fitQ (x * ((k : Int) : Rat)))), .val 28 (Is (.int .i64 (fitR (x * ((k : Int) : Rat)))))]) 196 (by kernel_rfl) hN (by kernel_rfl) ?_ ?_ ?_
  · exact ⟨IsQ.stb4 _ _, Is.stb4 _ _, IsQ.stb4 _ _, IsQE.stb4 _ _ _, IsQE.stb4 _ _ _, IsQ.stb4 _ _, Is.stb4 _ _, trivial, IsQ.stb4 _ _, Is.stb4 _ _, trivial⟩
  · refine ⟨?_, ?_, ?_, ?_, ?_, ?_, ?_, ?_, ?_, ?_, trivial⟩
    · intro l ac w h hd K hK
      exact o_loadQ rfl GdOk.none (ev_t ((h.same 23 (not_dst (by kernel_rfl))).trans t23)) (H23.below h.below).c0 (H23.below h.below).c1 (H23.below h.below).c2 (H23.below h.below).c3 (hK _ _ (H23.below h.below).2 (Below.refl _ _))
    · intro l ac w h hd K hK
      exact o_move rfl GdOk.none (ev_t ((h.same 16 (not_dst (by kernel_rfl))).trans t16)) (hK _ _ rfl (Below.refl _ _))
    · intro l ac w h hd K hK
      obtain ⟨v1, hv1, rfl⟩ := h.fact 1 _ rfl (dep hd 1 (by kernel_rfl))
      exact o_call1 rfl GdOk.none (ev_t hv1) (enters_of Tryz.func22 (by kernel_rfl) rfl) ((whole_law k _ (by omega)).mono fun e w' ⟨v, he, h1, h2⟩ => ⟨_, he, hK _ _ h1 h2⟩)
    · intro l ac w h hd K hK
      obtain ⟨v0, hv0, hF0⟩ := h.fact 0 _ rfl (dep hd 0 (by kernel_rfl))
      obtain ⟨v2, hv2, hF2⟩ := h.fact 2 _ rfl (dep hd 2 (by kernel_rfl))
      exact o_call2 rfl GdOk.none (ev_t hv0) (ev_t hv2) (enters_of Tryz.func32 (by kernel_rfl) rfl) ((fmul_any _ _ _ _ _ hF0 hF2 ix (small_in hk.1 hk.2)).mono fun e w' ⟨v, he, h1, h2⟩ => ⟨_, he, hK _ _ ⟨v, rfl, h1⟩ h2⟩)
    · intro l ac w h hd K hK
      obtain ⟨v3, hv3, u3, rfl, hF3⟩ := h.fact 3 _ rfl (dep hd 3 (by kernel_rfl))
      exact o_move rfl GdOk.none (ev_t hv3) (hK _ _ ⟨u3, rfl, hF3⟩ (Below.refl _ _))
    · intro l ac w h hd K hK
      obtain ⟨v4, hv4, u4, rfl, hF4⟩ := h.fact 4 _ rfl (dep hd 4 (by kernel_rfl))
      exact o_ext0 rfl GdOk.none (ev_t hv4) (hK _ _ hF4 (Below.refl _ _))
    · intro l ac w h hd K hK
      obtain ⟨v4, hv4, u4, rfl, hF4⟩ := h.fact 4 _ rfl (dep hd 4 (by kernel_rfl))
      exact o_ext1 rfl GdOk.none (ev_t hv4) (hK _ _ rfl (Below.refl _ _))
    · intro ac w K hK
      exact o_allocQ rfl GdOk.none hK
    · refine ⟨⟨7, rfl⟩, fun l ac w h hd => ?_⟩
      obtain ⟨g, hg, hlt, e, A, n, c, e', A', n', c', hB⟩ := h.fact 7 _ rfl (dep hd 7 (by kernel_rfl))
      obtain ⟨v5, hv5, hF5⟩ := h.fact 5 _ rfl (dep hd 5 (by kernel_rfl))
      obtain ⟨d1, A1, n1, c1, d2, A2, n2, c2, rfl⟩ := RepF.shape hF5
      exact ⟨g, d1, A1, n1, c1, d2, A2, n2, c2, e, A, n, c, e', A', n', c', hg, hlt, hB, hF5, fun K hK => o_store4 (by first | exact Or.inl rfl | exact Or.inr rfl) rfl GdOk.none (ev_t hg) (ev_t hv5) hB hK⟩
    · intro l ac w h hd K hK
      obtain ⟨v6, hv6, rfl⟩ := h.fact 6 _ rfl (dep hd 6 (by kernel_rfl))
      exact o_assign rfl GdOk.none (ev_t hv6) (hK _ _ rfl (Below.refl _ _))
  · intro l ac w h hall
    obtain ⟨v128, q128, r128⟩ := h.fact 0 _ rfl (hall 0 (of_decide_eq_true (by kernel_rfl)))
    obtain ⟨v129, q129, r129⟩ := h.fact 1 _ rfl (hall 1 (of_decide_eq_true (by kernel_rfl)))
    obtain ⟨v130, q130, r130⟩ := h.fact 2 _ rfl (hall 2 (of_decide_eq_true (by kernel_rfl)))
    obtain ⟨v131, q131, r131⟩ := h.fact 3 _ rfl (hall 3 (of_decide_eq_true (by kernel_rfl)))
    obtain ⟨v127, q127, r127⟩ := h.fact 4 _ rfl (hall 4 (of_decide_eq_true (by kernel_rfl)))
    obtain ⟨v132, q132, r132⟩ := h.fact 5 _ rfl (hall 5 (of_decide_eq_true (by kernel_rfl)))
    obtain ⟨v133, q133, r133⟩ := h.fact 6 _ rfl (hall 6 (of_decide_eq_true (by kernel_rfl)))
    obtain ⟨v28, q28, r28⟩ := h.fact 9 _ rfl (hall 9 (of_decide_eq_true (by kernel_rfl)))
    obtain ⟨g27, q27, l27, d27, A27, n27, c27, e27, E27, m27, f27, B27, F27⟩ := h.fact 8 _ rfl (hall 8 (of_decide_eq_true (by kernel_rfl)))
    have ha := act_of [(128, v128), (129, v129), (130, v130), (131, v131), (127, v127), (132, v132), (133, v133), (28, v28), (27, .pointer (some ⟨g27, 0, none⟩))] h.defers h.size (List.forall_mem_cons.2 ⟨q128, List.forall_mem_cons.2 ⟨q129, List.forall_mem_cons.2 ⟨q130, List.forall_mem_cons.2 ⟨q131, List.forall_mem_cons.2 ⟨q127, List.forall_mem_cons.2 ⟨q132, List.forall_mem_cons.2 ⟨q133, List.forall_mem_cons.2 ⟨q28, List.forall_mem_cons.2 ⟨q27, fun _ h => by cases h⟩⟩⟩⟩⟩⟩⟩⟩⟩) (fun t ht => h.same t (fun hm => ht (in_dst (F := [128, 129, 130, 131, 127, 132, 133, 28, 27]) (by kernel_rfl) hm)))
    rw [ha]
    exact hQ w _ _ _ _ _ _ _ _ _ _ _ _ _ _ _ _ _ h.below ⟨B27, F27⟩ l27 r28
def bd_r17_ops : Array Oper := #[
  { dst := some 135, op := .load 42 (.tmp 25), type := 42, pos := "law.go:119", after := #[], guard := none },
  { dst := some 136, op := .move (.tmp 16), type := 3, pos := "law.go:119", after := #[], guard := none },
  { dst := some 137, op := .call { callee := .value (.func 23), args := #[.tmp 136], argTypes := #[3] }, type := 42, pos := "law.go:119", after := #[⟨1, .data⟩], guard := none },
  { dst := some 138, op := .call { callee := .value (.func 33), args := #[.tmp 135, .tmp 137], argTypes := #[42, 42] }, type := 43, pos := "law.go:119", after := #[⟨0, .data⟩, ⟨2, .data⟩, ⟨2, .chain⟩], guard := none },
  { dst := some 134, op := .move (.tmp 138), type := 43, pos := "law.go:119", after := #[⟨3, .data⟩], guard := none },
  { dst := some 139, op := .extract (.tmp 134) 0, type := 42, pos := "law.go:119", after := #[⟨4, .data⟩], guard := none },
  { dst := some 140, op := .extract (.tmp 134) 1, type := 37, pos := "law.go:119", after := #[⟨4, .data⟩, ⟨8, .gcOnly .lateStores⟩], guard := none },
  { dst := some 29, op := .alloc 42, type := 0, pos := "law.go:119", after := #[], guard := none },
  { dst := none, op := .store 42 (.tmp 29) (.tmp 139), type := 0, pos := "law.go:119", after := #[⟨7, .data⟩, ⟨5, .data⟩, ⟨3, .chain⟩, ⟨0, .phase⟩, ⟨1, .phase⟩, ⟨2, .phase⟩, ⟨3, .phase⟩, ⟨4, .phase⟩, ⟨5, .phase⟩, ⟨6, .textOnly .lateStores⟩, ⟨7, .phase⟩], guard := none },
  { dst := some 30, op := .assign (.tmp 140), type := 37, pos := "law.go:119", after := #[⟨6, .data⟩, ⟨8, .chain⟩, ⟨0, .phase⟩, ⟨1, .phase⟩, ⟨2, .phase⟩, ⟨3, .phase⟩, ⟨4, .phase⟩, ⟨5, .phase⟩, ⟨6, .phase⟩, ⟨7, .phase⟩, ⟨8, .phase⟩], guard := none }]
set_option maxRecDepth 100000 in
set_option maxHeartbeats 2000000 in
theorem bd_r17 {Q : Exit → Act → World → Prop} {a0 : Act} {w0 : World} {x : Rat} {k : Int} {p25 : Nat} {d25 : Bool} {A25 : Option Addr} {n25 c25 : Nat} {e25 : Bool} {E25 : Option Addr} {m25 f25 : Nat} (hN : a0.tmps.size = 196) (t16 : a0.tmps[16]? = some (.int .i64 k)) (hk : -100 ≤ k ∧ k ≤ 100) (t25 : a0.tmps[25]? = some (.pointer (some ⟨p25, 0, none⟩))) (H25 : HoldG w0 p25 x d25 A25 n25 c25 e25 E25 m25 f25) (ix : InF x)
    (hQ : ∀ (w : World) (v135 v136 v137 v138 v134 v139 v140 v30 : Value) (g29 : Nat) (d29 : Bool) (A29 : Option Addr) (n29 c29 : Nat) (e29 : Bool) (E29 : Option Addr) (m29 f29 : Nat), Below w0.heap.size w0 w → HoldG w g29 (fitQ (x * ((k : Int) : Rat))) d29 A29 n29 c29 e29 E29 m29 f29 → w0.heap.size ≤ g29 → (Is (.int .i64 (fitR (x * ((k : Int) : Rat))))) v30 w → Q .normal ⟨([(135, v135), (136, v136), (137, v137), (138, v138), (134, v134), (139, v139), (140, v140), (30, v30), (29, .pointer (some ⟨g29, 0, none⟩))] : List (Nat × Value)).foldl (fun ts p => ts.setIfInBounds p.1 p.2) a0.tmps, a0.defers⟩ w) :
    (Code.region 17 bd_r17_ops true).wp Tryz.prog Q a0 w0 := by
  refine wp_region_boxes4' (ty := 42) (cl := [.val 135 (IsG (x)), .val 136 (Is (.int .i64 k)), .val 137 (IsG (((k : Int) : Rat))), .val 138 (IsGE (fitQ (x * ((k : Int) : Rat))) (fitR (x * ((k : Int) : Rat)))), .val 134 (IsGE (fitQ (x * ((k : Int) : Rat))) (fitR (x * ((k : Int) : Rat)))), .val 139 (IsG (fitQ (x * ((k : Int) : Rat)))), .val 140 (Is (.int .i64 (fitR (x * ((k : Int) : Rat))))), .new 29, .put 29 (IsG (fitQ (x * ((k : Int) : Rat)))), .val 30 (Is (.int .i64 (fitR (x * ((k : Int) : Rat)))))]) 196 (by kernel_rfl) hN (by kernel_rfl) ?_ ?_ ?_
  · exact ⟨IsG.stb4 _ _, Is.stb4 _ _, IsG.stb4 _ _, IsGE.stb4 _ _ _, IsGE.stb4 _ _ _, IsG.stb4 _ _, Is.stb4 _ _, trivial, IsG.stb4 _ _, Is.stb4 _ _, trivial⟩
  · refine ⟨?_, ?_, ?_, ?_, ?_, ?_, ?_, ?_, ?_, ?_, trivial⟩
    · intro l ac w h hd K hK
      exact o_loadG rfl GdOk.none (ev_t ((h.same 25 (not_dst (by kernel_rfl))).trans t25)) (H25.below h.below).c0 (H25.below h.below).c1 (H25.below h.below).c2 (H25.below h.below).c3 (hK _ _ (H25.below h.below).2 (Below.refl _ _))
    · intro l ac w h hd K hK
      exact o_move rfl GdOk.none (ev_t ((h.same 16 (not_dst (by kernel_rfl))).trans t16)) (hK _ _ rfl (Below.refl _ _))
    · intro l ac w h hd K hK
      obtain ⟨v1, hv1, rfl⟩ := h.fact 1 _ rfl (dep hd 1 (by kernel_rfl))
      exact o_call1 rfl GdOk.none (ev_t hv1) (enters_of Tryz.func23 (by kernel_rfl) rfl) ((gof_any k _ (by omega)).mono fun e w' ⟨v, he, h1, h2⟩ => ⟨_, he, hK _ _ h1 h2⟩)
    · intro l ac w h hd K hK
      obtain ⟨v0, hv0, hF0⟩ := h.fact 0 _ rfl (dep hd 0 (by kernel_rfl))
      obtain ⟨v2, hv2, hF2⟩ := h.fact 2 _ rfl (dep hd 2 (by kernel_rfl))
      exact o_call2 rfl GdOk.none (ev_t hv0) (ev_t hv2) (enters_of Tryz.func33 (by kernel_rfl) rfl) ((gmul_in hF0 hF2 ix (small_in hk.1 hk.2)).mono fun e w' ⟨v, he, h1, h2⟩ => ⟨_, he, hK _ _ ⟨v, rfl, h1⟩ h2⟩)
    · intro l ac w h hd K hK
      obtain ⟨v3, hv3, u3, rfl, hF3⟩ := h.fact 3 _ rfl (dep hd 3 (by kernel_rfl))
      exact o_move rfl GdOk.none (ev_t hv3) (hK _ _ ⟨u3, rfl, hF3⟩ (Below.refl _ _))
    · intro l ac w h hd K hK
      obtain ⟨v4, hv4, u4, rfl, hF4⟩ := h.fact 4 _ rfl (dep hd 4 (by kernel_rfl))
      exact o_ext0 rfl GdOk.none (ev_t hv4) (hK _ _ hF4 (Below.refl _ _))
    · intro l ac w h hd K hK
      obtain ⟨v4, hv4, u4, rfl, hF4⟩ := h.fact 4 _ rfl (dep hd 4 (by kernel_rfl))
      exact o_ext1 rfl GdOk.none (ev_t hv4) (hK _ _ rfl (Below.refl _ _))
    · intro ac w K hK
      exact o_allocG rfl GdOk.none hK
    · refine ⟨⟨7, rfl⟩, fun l ac w h hd => ?_⟩
      obtain ⟨g, hg, hlt, e, A, n, c, e', A', n', c', hB⟩ := h.fact 7 _ rfl (dep hd 7 (by kernel_rfl))
      obtain ⟨v5, hv5, hF5⟩ := h.fact 5 _ rfl (dep hd 5 (by kernel_rfl))
      obtain ⟨d1, A1, n1, c1, d2, A2, n2, c2, rfl⟩ := RepG.shape hF5
      exact ⟨g, d1, A1, n1, c1, d2, A2, n2, c2, e, A, n, c, e', A', n', c', hg, hlt, hB, hF5, fun K hK => o_store4 (by first | exact Or.inl rfl | exact Or.inr rfl) rfl GdOk.none (ev_t hg) (ev_t hv5) hB hK⟩
    · intro l ac w h hd K hK
      obtain ⟨v6, hv6, rfl⟩ := h.fact 6 _ rfl (dep hd 6 (by kernel_rfl))
      exact o_assign rfl GdOk.none (ev_t hv6) (hK _ _ rfl (Below.refl _ _))
  · intro l ac w h hall
    obtain ⟨v135, q135, r135⟩ := h.fact 0 _ rfl (hall 0 (of_decide_eq_true (by kernel_rfl)))
    obtain ⟨v136, q136, r136⟩ := h.fact 1 _ rfl (hall 1 (of_decide_eq_true (by kernel_rfl)))
    obtain ⟨v137, q137, r137⟩ := h.fact 2 _ rfl (hall 2 (of_decide_eq_true (by kernel_rfl)))
    obtain ⟨v138, q138, r138⟩ := h.fact 3 _ rfl (hall 3 (of_decide_eq_true (by kernel_rfl)))
    obtain ⟨v134, q134, r134⟩ := h.fact 4 _ rfl (hall 4 (of_decide_eq_true (by kernel_rfl)))
    obtain ⟨v139, q139, r139⟩ := h.fact 5 _ rfl (hall 5 (of_decide_eq_true (by kernel_rfl)))
    obtain ⟨v140, q140, r140⟩ := h.fact 6 _ rfl (hall 6 (of_decide_eq_true (by kernel_rfl)))
    obtain ⟨v30, q30, r30⟩ := h.fact 9 _ rfl (hall 9 (of_decide_eq_true (by kernel_rfl)))
    obtain ⟨g29, q29, l29, d29, A29, n29, c29, e29, E29, m29, f29, B29, F29⟩ := h.fact 8 _ rfl (hall 8 (of_decide_eq_true (by kernel_rfl)))
    have ha := act_of [(135, v135), (136, v136), (137, v137), (138, v138), (134, v134), (139, v139), (140, v140), (30, v30), (29, .pointer (some ⟨g29, 0, none⟩))] h.defers h.size (List.forall_mem_cons.2 ⟨q135, List.forall_mem_cons.2 ⟨q136, List.forall_mem_cons.2 ⟨q137, List.forall_mem_cons.2 ⟨q138, List.forall_mem_cons.2 ⟨q134, List.forall_mem_cons.2 ⟨q139, List.forall_mem_cons.2 ⟨q140, List.forall_mem_cons.2 ⟨q30, List.forall_mem_cons.2 ⟨q29, fun _ h => by cases h⟩⟩⟩⟩⟩⟩⟩⟩⟩) (fun t ht => h.same t (fun hm => ht (in_dst (F := [135, 136, 137, 138, 134, 139, 140, 30, 29]) (by kernel_rfl) hm)))
    rw [ha]
    exact hQ w _ _ _ _ _ _ _ _ _ _ _ _ _ _ _ _ _ h.below ⟨B29, F29⟩ l29 r30
def bd_r18_ops : Array Oper := #[
  { dst := some 142, op := .load 36 (.tmp 12), type := 36, pos := "law.go:120", after := #[], guard := none },
  { dst := some 143, op := .move (.tmp 16), type := 3, pos := "law.go:120", after := #[], guard := none },
  { dst := some 144, op := .call { callee := .value (.func 22), args := #[.tmp 143], argTypes := #[3] }, type := 36, pos := "law.go:120", after := #[⟨1, .data⟩], guard := none },
  { dst := some 145, op := .call { callee := .value (.func 34), args := #[.tmp 142, .tmp 144], argTypes := #[36, 36] }, type := 38, pos := "law.go:120", after := #[⟨0, .data⟩, ⟨2, .data⟩, ⟨2, .chain⟩], guard := none },
  { dst := some 141, op := .move (.tmp 145), type := 38, pos := "law.go:120", after := #[⟨3, .data⟩], guard := none },
  { dst := some 146, op := .extract (.tmp 141) 0, type := 36, pos := "law.go:120", after := #[⟨4, .data⟩], guard := none },
  { dst := some 147, op := .extract (.tmp 141) 1, type := 37, pos := "law.go:120", after := #[⟨4, .data⟩, ⟨8, .gcOnly .lateStores⟩], guard := none },
  { dst := some 31, op := .alloc 36, type := 0, pos := "law.go:120", after := #[], guard := none },
  { dst := none, op := .store 36 (.tmp 31) (.tmp 146), type := 0, pos := "law.go:120", after := #[⟨7, .data⟩, ⟨5, .data⟩, ⟨3, .chain⟩, ⟨0, .phase⟩, ⟨1, .phase⟩, ⟨2, .phase⟩, ⟨3, .phase⟩, ⟨4, .phase⟩, ⟨5, .phase⟩, ⟨6, .textOnly .lateStores⟩, ⟨7, .phase⟩], guard := none },
  { dst := some 32, op := .assign (.tmp 147), type := 37, pos := "law.go:120", after := #[⟨6, .data⟩, ⟨8, .chain⟩, ⟨0, .phase⟩, ⟨1, .phase⟩, ⟨2, .phase⟩, ⟨3, .phase⟩, ⟨4, .phase⟩, ⟨5, .phase⟩, ⟨6, .phase⟩, ⟨7, .phase⟩, ⟨8, .phase⟩], guard := none }]
set_option maxRecDepth 100000 in
set_option maxHeartbeats 2000000 in
theorem bd_r18 {Q : Exit → Act → World → Prop} {a0 : Act} {w0 : World} {x : Rat} {k : Int} {p12 : Nat} {d12 : Bool} {A12 : Option Addr} {n12 c12 : Nat} {e12 : Bool} {E12 : Option Addr} {m12 f12 : Nat} (hN : a0.tmps.size = 196) (t16 : a0.tmps[16]? = some (.int .i64 k)) (hk : -100 ≤ k ∧ k ≤ 100) (t12 : a0.tmps[12]? = some (.pointer (some ⟨p12, 0, none⟩))) (H12 : HoldQ w0 p12 x d12 A12 n12 c12 e12 E12 m12 f12) (ix : InF x)
    (hQ : ∀ (w : World) (v142 v143 v144 v145 v141 v146 v147 v32 : Value) (g31 : Nat) (d31 : Bool) (A31 : Option Addr) (n31 c31 : Nat) (e31 : Bool) (E31 : Option Addr) (m31 f31 : Nat), Below w0.heap.size w0 w → HoldQ w g31 (divQ (x) (((k : Int) : Rat))) d31 A31 n31 c31 e31 E31 m31 f31 → w0.heap.size ≤ g31 → (Is (.int .i64 (divR (x) (((k : Int) : Rat))))) v32 w → Q .normal ⟨([(142, v142), (143, v143), (144, v144), (145, v145), (141, v141), (146, v146), (147, v147), (32, v32), (31, .pointer (some ⟨g31, 0, none⟩))] : List (Nat × Value)).foldl (fun ts p => ts.setIfInBounds p.1 p.2) a0.tmps, a0.defers⟩ w) :
    (Code.region 18 bd_r18_ops true).wp Tryz.prog Q a0 w0 := by
  refine wp_region_boxes4' (ty := 36) (cl := [.val 142 (IsQ (x)), .val 143 (Is (.int .i64 k)), .val 144 (IsQ (((k : Int) : Rat))), .val 145 (IsQE (divQ (x) (((k : Int) : Rat))) (divR (x) (((k : Int) : Rat)))), .val 141 (IsQE (divQ (x) (((k : Int) : Rat))) (divR (x) (((k : Int) : Rat)))), .val 146 (IsQ (divQ (x) (((k : Int) : Rat)))), .val 147 (Is (.int .i64 (divR (x) (((k : Int) : Rat))))), .new 31, .put 31 (IsQ (divQ (x) (((k : Int) : Rat)))), .val 32 (Is (.int .i64 (divR (x) (((k : Int) : Rat)))))]) 196 (by kernel_rfl) hN (by kernel_rfl) ?_ ?_ ?_
  · exact ⟨IsQ.stb4 _ _, Is.stb4 _ _, IsQ.stb4 _ _, IsQE.stb4 _ _ _, IsQE.stb4 _ _ _, IsQ.stb4 _ _, Is.stb4 _ _, trivial, IsQ.stb4 _ _, Is.stb4 _ _, trivial⟩
  · refine ⟨?_, ?_, ?_, ?_, ?_, ?_, ?_, ?_, ?_, ?_, trivial⟩
    · intro l ac w h hd K hK
      exact o_loadQ rfl GdOk.none (ev_t ((h.same 12 (not_dst (by kernel_rfl))).trans t12)) (H12.below h.below).c0 (H12.below h.below).c1 (H12.below h.below).c2 (H12.below h.below).c3 (hK _ _ (H12.below h.below).2 (Below.refl _ _))
    · intro l ac w h hd K hK
      exact o_move rfl GdOk.none (ev_t ((h.same 16 (not_dst (by kernel_rfl))).trans t16)) (hK _ _ rfl (Below.refl _ _))
    · intro l ac w h hd K hK
      obtain ⟨v1, hv1, rfl⟩ := h.fact 1 _ rfl (dep hd 1 (by kernel_rfl))
      exact o_call1 rfl GdOk.none (ev_t hv1) (enters_of Tryz.func22 (by kernel_rfl) rfl) ((whole_law k _ (by omega)).mono fun e w' ⟨v, he, h1, h2⟩ => ⟨_, he, hK _ _ h1 h2⟩)
    · intro l ac w h hd K hK
      obtain ⟨v0, hv0, hF0⟩ := h.fact 0 _ rfl (dep hd 0 (by kernel_rfl))
      obtain ⟨v2, hv2, hF2⟩ := h.fact 2 _ rfl (dep hd 2 (by kernel_rfl))
      exact o_call2 rfl GdOk.none (ev_t hv0) (ev_t hv2) (enters_of Tryz.func34 (by kernel_rfl) rfl) ((fdiv_all hF0 hF2 ix (small_in hk.1 hk.2)).mono fun e w' ⟨v, he, h1, h2⟩ => ⟨_, he, hK _ _ ⟨v, rfl, h1⟩ h2⟩)
    · intro l ac w h hd K hK
      obtain ⟨v3, hv3, u3, rfl, hF3⟩ := h.fact 3 _ rfl (dep hd 3 (by kernel_rfl))
      exact o_move rfl GdOk.none (ev_t hv3) (hK _ _ ⟨u3, rfl, hF3⟩ (Below.refl _ _))
    · intro l ac w h hd K hK
      obtain ⟨v4, hv4, u4, rfl, hF4⟩ := h.fact 4 _ rfl (dep hd 4 (by kernel_rfl))
      exact o_ext0 rfl GdOk.none (ev_t hv4) (hK _ _ hF4 (Below.refl _ _))
    · intro l ac w h hd K hK
      obtain ⟨v4, hv4, u4, rfl, hF4⟩ := h.fact 4 _ rfl (dep hd 4 (by kernel_rfl))
      exact o_ext1 rfl GdOk.none (ev_t hv4) (hK _ _ rfl (Below.refl _ _))
    · intro ac w K hK
      exact o_allocQ rfl GdOk.none hK
    · refine ⟨⟨7, rfl⟩, fun l ac w h hd => ?_⟩
      obtain ⟨g, hg, hlt, e, A, n, c, e', A', n', c', hB⟩ := h.fact 7 _ rfl (dep hd 7 (by kernel_rfl))
      obtain ⟨v5, hv5, hF5⟩ := h.fact 5 _ rfl (dep hd 5 (by kernel_rfl))
      obtain ⟨d1, A1, n1, c1, d2, A2, n2, c2, rfl⟩ := RepF.shape hF5
      exact ⟨g, d1, A1, n1, c1, d2, A2, n2, c2, e, A, n, c, e', A', n', c', hg, hlt, hB, hF5, fun K hK => o_store4 (by first | exact Or.inl rfl | exact Or.inr rfl) rfl GdOk.none (ev_t hg) (ev_t hv5) hB hK⟩
    · intro l ac w h hd K hK
      obtain ⟨v6, hv6, rfl⟩ := h.fact 6 _ rfl (dep hd 6 (by kernel_rfl))
      exact o_assign rfl GdOk.none (ev_t hv6) (hK _ _ rfl (Below.refl _ _))
  · intro l ac w h hall
    obtain ⟨v142, q142, r142⟩ := h.fact 0 _ rfl (hall 0 (of_decide_eq_true (by kernel_rfl)))
    obtain ⟨v143, q143, r143⟩ := h.fact 1 _ rfl (hall 1 (of_decide_eq_true (by kernel_rfl)))
    obtain ⟨v144, q144, r144⟩ := h.fact 2 _ rfl (hall 2 (of_decide_eq_true (by kernel_rfl)))
    obtain ⟨v145, q145, r145⟩ := h.fact 3 _ rfl (hall 3 (of_decide_eq_true (by kernel_rfl)))
    obtain ⟨v141, q141, r141⟩ := h.fact 4 _ rfl (hall 4 (of_decide_eq_true (by kernel_rfl)))
    obtain ⟨v146, q146, r146⟩ := h.fact 5 _ rfl (hall 5 (of_decide_eq_true (by kernel_rfl)))
    obtain ⟨v147, q147, r147⟩ := h.fact 6 _ rfl (hall 6 (of_decide_eq_true (by kernel_rfl)))
    obtain ⟨v32, q32, r32⟩ := h.fact 9 _ rfl (hall 9 (of_decide_eq_true (by kernel_rfl)))
    obtain ⟨g31, q31, l31, d31, A31, n31, c31, e31, E31, m31, f31, B31, F31⟩ := h.fact 8 _ rfl (hall 8 (of_decide_eq_true (by kernel_rfl)))
    have ha := act_of [(142, v142), (143, v143), (144, v144), (145, v145), (141, v141), (146, v146), (147, v147), (32, v32), (31, .pointer (some ⟨g31, 0, none⟩))] h.defers h.size (List.forall_mem_cons.2 ⟨q142, List.forall_mem_cons.2 ⟨q143, List.forall_mem_cons.2 ⟨q144, List.forall_mem_cons.2 ⟨q145, List.forall_mem_cons.2 ⟨q141, List.forall_mem_cons.2 ⟨q146, List.forall_mem_cons.2 ⟨q147, List.forall_mem_cons.2 ⟨q32, List.forall_mem_cons.2 ⟨q31, fun _ h => by cases h⟩⟩⟩⟩⟩⟩⟩⟩⟩) (fun t ht => h.same t (fun hm => ht (in_dst (F := [142, 143, 144, 145, 141, 146, 147, 32, 31]) (by kernel_rfl) hm)))
    rw [ha]
    exact hQ w _ _ _ _ _ _ _ _ _ _ _ _ _ _ _ _ _ h.below ⟨B31, F31⟩ l31 r32
def bd_r19_ops : Array Oper := #[
  { dst := some 149, op := .load 42 (.tmp 14), type := 42, pos := "law.go:121", after := #[], guard := none },
  { dst := some 150, op := .move (.tmp 16), type := 3, pos := "law.go:121", after := #[], guard := none },
  { dst := some 151, op := .call { callee := .value (.func 23), args := #[.tmp 150], argTypes := #[3] }, type := 42, pos := "law.go:121", after := #[⟨1, .data⟩], guard := none },
  { dst := some 152, op := .call { callee := .value (.func 35), args := #[.tmp 149, .tmp 151], argTypes := #[42, 42] }, type := 43, pos := "law.go:121", after := #[⟨0, .data⟩, ⟨2, .data⟩, ⟨2, .chain⟩], guard := none },
  { dst := some 148, op := .move (.tmp 152), type := 43, pos := "law.go:121", after := #[⟨3, .data⟩], guard := none },
  { dst := some 153, op := .extract (.tmp 148) 0, type := 42, pos := "law.go:121", after := #[⟨4, .data⟩], guard := none },
  { dst := some 154, op := .extract (.tmp 148) 1, type := 37, pos := "law.go:121", after := #[⟨4, .data⟩, ⟨8, .gcOnly .lateStores⟩], guard := none },
  { dst := some 33, op := .alloc 42, type := 0, pos := "law.go:121", after := #[], guard := none },
  { dst := none, op := .store 42 (.tmp 33) (.tmp 153), type := 0, pos := "law.go:121", after := #[⟨7, .data⟩, ⟨5, .data⟩, ⟨3, .chain⟩, ⟨0, .phase⟩, ⟨1, .phase⟩, ⟨2, .phase⟩, ⟨3, .phase⟩, ⟨4, .phase⟩, ⟨5, .phase⟩, ⟨6, .textOnly .lateStores⟩, ⟨7, .phase⟩], guard := none },
  { dst := some 34, op := .assign (.tmp 154), type := 37, pos := "law.go:121", after := #[⟨6, .data⟩, ⟨8, .chain⟩, ⟨0, .phase⟩, ⟨1, .phase⟩, ⟨2, .phase⟩, ⟨3, .phase⟩, ⟨4, .phase⟩, ⟨5, .phase⟩, ⟨6, .phase⟩, ⟨7, .phase⟩, ⟨8, .phase⟩], guard := none }]
set_option maxRecDepth 100000 in
set_option maxHeartbeats 2000000 in
theorem bd_r19 {Q : Exit → Act → World → Prop} {a0 : Act} {w0 : World} {x : Rat} {k : Int} {p14 : Nat} {d14 : Bool} {A14 : Option Addr} {n14 c14 : Nat} {e14 : Bool} {E14 : Option Addr} {m14 f14 : Nat} (hN : a0.tmps.size = 196) (t16 : a0.tmps[16]? = some (.int .i64 k)) (hk : -100 ≤ k ∧ k ≤ 100) (t14 : a0.tmps[14]? = some (.pointer (some ⟨p14, 0, none⟩))) (H14 : HoldG w0 p14 x d14 A14 n14 c14 e14 E14 m14 f14) (ix : InF x)
    (hQ : ∀ (w : World) (v149 v150 v151 v152 v148 v153 v154 v34 : Value) (g33 : Nat) (d33 : Bool) (A33 : Option Addr) (n33 c33 : Nat) (e33 : Bool) (E33 : Option Addr) (m33 f33 : Nat), Below w0.heap.size w0 w → HoldG w g33 (divQ (x) (((k : Int) : Rat))) d33 A33 n33 c33 e33 E33 m33 f33 → w0.heap.size ≤ g33 → (Is (.int .i64 (divR (x) (((k : Int) : Rat))))) v34 w → Q .normal ⟨([(149, v149), (150, v150), (151, v151), (152, v152), (148, v148), (153, v153), (154, v154), (34, v34), (33, .pointer (some ⟨g33, 0, none⟩))] : List (Nat × Value)).foldl (fun ts p => ts.setIfInBounds p.1 p.2) a0.tmps, a0.defers⟩ w) :
    (Code.region 19 bd_r19_ops true).wp Tryz.prog Q a0 w0 := by
  refine wp_region_boxes4' (ty := 42) (cl := [.val 149 (IsG (x)), .val 150 (Is (.int .i64 k)), .val 151 (IsG (((k : Int) : Rat))), .val 152 (IsGE (divQ (x) (((k : Int) : Rat))) (divR (x) (((k : Int) : Rat)))), .val 148 (IsGE (divQ (x) (((k : Int) : Rat))) (divR (x) (((k : Int) : Rat)))), .val 153 (IsG (divQ (x) (((k : Int) : Rat)))), .val 154 (Is (.int .i64 (divR (x) (((k : Int) : Rat))))), .new 33, .put 33 (IsG (divQ (x) (((k : Int) : Rat)))), .val 34 (Is (.int .i64 (divR (x) (((k : Int) : Rat)))))]) 196 (by kernel_rfl) hN (by kernel_rfl) ?_ ?_ ?_
  · exact ⟨IsG.stb4 _ _, Is.stb4 _ _, IsG.stb4 _ _, IsGE.stb4 _ _ _, IsGE.stb4 _ _ _, IsG.stb4 _ _, Is.stb4 _ _, trivial, IsG.stb4 _ _, Is.stb4 _ _, trivial⟩
  · refine ⟨?_, ?_, ?_, ?_, ?_, ?_, ?_, ?_, ?_, ?_, trivial⟩
    · intro l ac w h hd K hK
      exact o_loadG rfl GdOk.none (ev_t ((h.same 14 (not_dst (by kernel_rfl))).trans t14)) (H14.below h.below).c0 (H14.below h.below).c1 (H14.below h.below).c2 (H14.below h.below).c3 (hK _ _ (H14.below h.below).2 (Below.refl _ _))
    · intro l ac w h hd K hK
      exact o_move rfl GdOk.none (ev_t ((h.same 16 (not_dst (by kernel_rfl))).trans t16)) (hK _ _ rfl (Below.refl _ _))
    · intro l ac w h hd K hK
      obtain ⟨v1, hv1, rfl⟩ := h.fact 1 _ rfl (dep hd 1 (by kernel_rfl))
      exact o_call1 rfl GdOk.none (ev_t hv1) (enters_of Tryz.func23 (by kernel_rfl) rfl) ((gof_any k _ (by omega)).mono fun e w' ⟨v, he, h1, h2⟩ => ⟨_, he, hK _ _ h1 h2⟩)
    · intro l ac w h hd K hK
      obtain ⟨v0, hv0, hF0⟩ := h.fact 0 _ rfl (dep hd 0 (by kernel_rfl))
      obtain ⟨v2, hv2, hF2⟩ := h.fact 2 _ rfl (dep hd 2 (by kernel_rfl))
      exact o_call2 rfl GdOk.none (ev_t hv0) (ev_t hv2) (enters_of Tryz.func35 (by kernel_rfl) rfl) ((gdiv_all hF0 hF2 ix (small_in hk.1 hk.2)).mono fun e w' ⟨v, he, h1, h2⟩ => ⟨_, he, hK _ _ ⟨v, rfl, h1⟩ h2⟩)
    · intro l ac w h hd K hK
      obtain ⟨v3, hv3, u3, rfl, hF3⟩ := h.fact 3 _ rfl (dep hd 3 (by kernel_rfl))
      exact o_move rfl GdOk.none (ev_t hv3) (hK _ _ ⟨u3, rfl, hF3⟩ (Below.refl _ _))
    · intro l ac w h hd K hK
      obtain ⟨v4, hv4, u4, rfl, hF4⟩ := h.fact 4 _ rfl (dep hd 4 (by kernel_rfl))
      exact o_ext0 rfl GdOk.none (ev_t hv4) (hK _ _ hF4 (Below.refl _ _))
    · intro l ac w h hd K hK
      obtain ⟨v4, hv4, u4, rfl, hF4⟩ := h.fact 4 _ rfl (dep hd 4 (by kernel_rfl))
      exact o_ext1 rfl GdOk.none (ev_t hv4) (hK _ _ rfl (Below.refl _ _))
    · intro ac w K hK
      exact o_allocG rfl GdOk.none hK
    · refine ⟨⟨7, rfl⟩, fun l ac w h hd => ?_⟩
      obtain ⟨g, hg, hlt, e, A, n, c, e', A', n', c', hB⟩ := h.fact 7 _ rfl (dep hd 7 (by kernel_rfl))
      obtain ⟨v5, hv5, hF5⟩ := h.fact 5 _ rfl (dep hd 5 (by kernel_rfl))
      obtain ⟨d1, A1, n1, c1, d2, A2, n2, c2, rfl⟩ := RepG.shape hF5
      exact ⟨g, d1, A1, n1, c1, d2, A2, n2, c2, e, A, n, c, e', A', n', c', hg, hlt, hB, hF5, fun K hK => o_store4 (by first | exact Or.inl rfl | exact Or.inr rfl) rfl GdOk.none (ev_t hg) (ev_t hv5) hB hK⟩
    · intro l ac w h hd K hK
      obtain ⟨v6, hv6, rfl⟩ := h.fact 6 _ rfl (dep hd 6 (by kernel_rfl))
      exact o_assign rfl GdOk.none (ev_t hv6) (hK _ _ rfl (Below.refl _ _))
  · intro l ac w h hall
    obtain ⟨v149, q149, r149⟩ := h.fact 0 _ rfl (hall 0 (of_decide_eq_true (by kernel_rfl)))
    obtain ⟨v150, q150, r150⟩ := h.fact 1 _ rfl (hall 1 (of_decide_eq_true (by kernel_rfl)))
    obtain ⟨v151, q151, r151⟩ := h.fact 2 _ rfl (hall 2 (of_decide_eq_true (by kernel_rfl)))
    obtain ⟨v152, q152, r152⟩ := h.fact 3 _ rfl (hall 3 (of_decide_eq_true (by kernel_rfl)))
    obtain ⟨v148, q148, r148⟩ := h.fact 4 _ rfl (hall 4 (of_decide_eq_true (by kernel_rfl)))
    obtain ⟨v153, q153, r153⟩ := h.fact 5 _ rfl (hall 5 (of_decide_eq_true (by kernel_rfl)))
    obtain ⟨v154, q154, r154⟩ := h.fact 6 _ rfl (hall 6 (of_decide_eq_true (by kernel_rfl)))
    obtain ⟨v34, q34, r34⟩ := h.fact 9 _ rfl (hall 9 (of_decide_eq_true (by kernel_rfl)))
    obtain ⟨g33, q33, l33, d33, A33, n33, c33, e33, E33, m33, f33, B33, F33⟩ := h.fact 8 _ rfl (hall 8 (of_decide_eq_true (by kernel_rfl)))
    have ha := act_of [(149, v149), (150, v150), (151, v151), (152, v152), (148, v148), (153, v153), (154, v154), (34, v34), (33, .pointer (some ⟨g33, 0, none⟩))] h.defers h.size (List.forall_mem_cons.2 ⟨q149, List.forall_mem_cons.2 ⟨q150, List.forall_mem_cons.2 ⟨q151, List.forall_mem_cons.2 ⟨q152, List.forall_mem_cons.2 ⟨q148, List.forall_mem_cons.2 ⟨q153, List.forall_mem_cons.2 ⟨q154, List.forall_mem_cons.2 ⟨q34, List.forall_mem_cons.2 ⟨q33, fun _ h => by cases h⟩⟩⟩⟩⟩⟩⟩⟩⟩) (fun t ht => h.same t (fun hm => ht (in_dst (F := [149, 150, 151, 152, 148, 153, 154, 34, 33]) (by kernel_rfl) hm)))
    rw [ha]
    exact hQ w _ _ _ _ _ _ _ _ _ _ _ _ _ _ _ _ _ h.below ⟨B33, F33⟩ l33 r34
end Go.Proofs.YtocooajlfpngdaaGreatDoor
namespace Go.Proofs.YtocooajlfpngdaaGreatDoor
open Go.RowKit
set_option linter.unusedVariables false

set_option maxRecDepth 100000 in
set_option maxHeartbeats 8000000 in
theorem fracBounds_law (n m : Int) (neg : Bool) (w : World) (hn : -9223372036854775808 ≤ n ∧ n ≤ 9223372036854775807) (hm : -9223372036854775808 ≤ m ∧ m ≤ 9223372036854775807) :
    Calls Tryz.prog 5 #[.int .i64 n, .int .i64 m, .bool neg] w (fun e w' => e = .returned (.bool true) ∧ Below w.heap.size w w') := by
  obtain ⟨PL, C1, B1, hPL⟩ := pow_lim
  obtain ⟨PH, C2, B2⟩ := pow_half
  replace C1 := Lib.hid C1
  replace B1 := Lib.hid B1
  have HPL := Lib.hid hPL
  replace C2 := Lib.hid C2
  replace B2 := Lib.hid B2
  have HN := Lib.hid hn
  have HM := Lib.hid hm
  clear hn hm hPL
  have HB := Lib.hid (Below.refl w.heap.size w)
  go_enter Tryz.func5, Tryz.ntmps5
  go_wp2_with fail
  refine (C1.out _).mono ?_
  rintro e w51 ⟨v, rfl, h, b⟩
  obtain ⟨d51, A51, n51, c51, rfl⟩ := h.shape'
  have z51 := b.size
  replace z51 := Lib.hid z51
  replace HB := Lib.hid (bstep HB.out b)
  have V51 := Lib.hid h
  clear h b
  go_wp2_with fail
  refine (around40 n _ HN.out).mono ?_
  rintro e w_ ⟨r40, rfl, p40, q40, rfl⟩
  have e40 : IntKind.i64.wrap (1 + r40) = 1 + r40 := IntWalk.i64_in _ (by omega)
  have f40 : wrap64 (1 + r40) = 1 + r40 := IntWalk.wrap64_in _ (by omega)
  go_wp2_with fail
  refine (of_any (1 + r40) _ (by omega) (by omega)).mono ?_
  rintro e w52 ⟨v, rfl, h, b⟩
  obtain ⟨d52, A52, n52, c52, rfl⟩ := h.shape'
  have z52 := b.size
  replace z52 := Lib.hid z52
  replace HB := Lib.hid (bstep HB.out b)
  replace V51 := Lib.hid (V51.out.step b)
  have V52 := Lib.hid h
  clear h b
  go_wp2_with fail
  refine (sub_any PL (1 + r40) _ _ _ V51.out V52.out (B1.out.mono (by omega)) ((Bits.i64 (by omega) (by omega)).mono (by omega))).mono ?_
  rintro e w53 ⟨v, rfl, h, b⟩
  obtain ⟨d53, A53, n53, c53, rfl⟩ := h.shape'
  have z53 := b.size
  replace z53 := Lib.hid z53
  replace HB := Lib.hid (bstep HB.out b)
  replace V51 := Lib.hid (V51.out.step b)
  replace V52 := Lib.hid (V52.out.step b)
  have V53 := Lib.hid h
  clear h b
  clear V51
  clear V52
  have TL := Lib.hid (top_in HPL.out p40 q40)
  clear B1 HPL C1 HN e40 f40
  have h := HoldN.new V53.out
  have b := al_below w53 (.cells #[.bool d53, .slice A53 n53 c53] 24)
  replace HB := Lib.hid (bstep HB.out b)
  clear b
  have H53 := Lib.hid h
  clear h V53
  cases neg
  · obtain ⟨T, hT⟩ : ∃ T, PL - (1 + r40) = T := ⟨_, rfl⟩
    rw [hT] at H53 TL
    clear hT p40 q40
    have gH530 := H53.out.c0
    have gH531 := H53.out.c1
    go_wp2_with fail
    refine (number_law T _ _ H53.out.2 TL.out).mono ?_
    rintro e w54 ⟨v, rfl, h, b⟩
    obtain ⟨d54, A54, n54, c54, rfl⟩ := h.shape
    clear gH530 gH531
    have z54 := b.size
    simp only [World.size_alloc] at z54
    replace z54 := Lib.hid z54
    replace HB := Lib.hid (bstep HB.out b)
    replace H53 := Lib.hid (H53.out.below b)
    have V54 := Lib.hid h
    clear h b
    go_wp2_with fail
    refine (from_any 1 _ (by omega) (by omega)).mono ?_
    rintro e w55 ⟨v, rfl, h, b⟩
    obtain ⟨d55, A55, n55, c55, rfl⟩ := h.shape
    have z55 := b.size
    replace z55 := Lib.hid z55
    replace HB := Lib.hid (bstep HB.out b)
    replace H53 := Lib.hid (H53.out.below b)
    replace V54 := Lib.hid (V54.out.step b)
    have V55 := Lib.hid h
    clear h b
    go_wp2_with fail
    refine (make_any T 1 _ _ _ V54.out V55.out TL.out one_in).mono ?_
    rintro e w56 ⟨v, rfl, h, b⟩
    obtain ⟨d56, A56, n56, c56, e56, E56, m56, f56, rfl⟩ := h.shape
    have z56 := b.size
    replace z56 := Lib.hid z56
    replace HB := Lib.hid (bstep HB.out b)
    replace H53 := Lib.hid (H53.out.below b)
    replace V54 := Lib.hid (V54.out.step b)
    replace V55 := Lib.hid (V55.out.step b)
    have V56 := Lib.hid h
    clear h b
    clear V54
    clear V55
    have h := HoldQ.new V56.out
    have b := al_below w56 (.cells #[.bool d56, .slice A56 n56 c56, .bool e56, .slice E56 m56 f56] 36)
    replace HB := Lib.hid (bstep HB.out b)
    replace H53 := Lib.hid (H53.out.below b)
    clear b
    have H56 := Lib.hid h
    clear h V56
    go_wp2_with fail
    refine bd_r5 rfl rfl H53.out TL.out ?_
    intro w57 u52 u53 u54 u51 u55 u56 u11 g10 d10 A10 n10 c10 e10 E10 m10 f10 b h10 l10 o11
    obtain rfl := o11
    simp only [List.foldl_cons, List.foldl_nil, List.setIfInBounds_toArray, List.set_cons_zero, List.set_cons_succ]
    simp only [World.size_alloc] at l10
    have z57 := b.size
    simp only [World.size_alloc] at z57
    replace z57 := Lib.hid z57
    replace HB := Lib.hid (bstep HB.out b)
    replace H53 := Lib.hid (H53.out.below b)
    replace H56 := Lib.hid (H56.out.below b)
    have H10 := Lib.hid h10
    have L10 := Lib.hid l10
    clear h10 l10
    clear b
    go_wp2_with fail
    refine bd_r6 rfl rfl H53.out TL.out ?_
    intro w58 u58 u59 u60 u61 u57 u62 u63 u13 g12 d12 A12 n12 c12 e12 E12 m12 f12 b h12 l12 o13
    obtain rfl := o13
    simp only [List.foldl_cons, List.foldl_nil, List.setIfInBounds_toArray, List.set_cons_zero, List.set_cons_succ]
    have z58 := b.size
    replace z58 := Lib.hid z58
    replace HB := Lib.hid (bstep HB.out b)
    replace H53 := Lib.hid (H53.out.below b)
    replace H56 := Lib.hid (H56.out.below b)
    replace H10 := Lib.hid (H10.out.below b)
    have H12 := Lib.hid h12
    have L12 := Lib.hid l12
    clear h12 l12
    clear b
    go_wp2_with fail
    refine bd_r7 rfl rfl H53.out TL.out ?_
    intro w59 u65 u66 u67 u64 u68 u69 u15 g14 d14 A14 n14 c14 e14 E14 m14 f14 b h14 l14 o15
    obtain rfl := o15
    simp only [List.foldl_cons, List.foldl_nil, List.setIfInBounds_toArray, List.set_cons_zero, List.set_cons_succ]
    have z59 := b.size
    replace z59 := Lib.hid z59
    replace HB := Lib.hid (bstep HB.out b)
    replace H53 := Lib.hid (H53.out.below b)
    replace H56 := Lib.hid (H56.out.below b)
    replace H10 := Lib.hid (H10.out.below b)
    replace H12 := Lib.hid (H12.out.below b)
    have H14 := Lib.hid h14
    have L14 := Lib.hid l14
    clear h14 l14
    clear b
    clear H53
    obtain ⟨E1, hE⟩ : ∃ E, makeE 1 = E := ⟨_, rfl⟩
    rw [hE]
    clear hE
    obtain ⟨E2, hE⟩ : ∃ E, makeE T = E := ⟨_, rfl⟩
    rw [hE]
    clear hE
    have Ia := Lib.hid (quo_in TL.out one_in)
    have Ic := Lib.hid (quo_in three_in TL.out)
    obtain ⟨qa, hq⟩ : ∃ q, Rat.divInt T 1 = q := ⟨_, rfl⟩
    rw [hq] at H56 H10 Ia
    clear hq
    obtain ⟨qc, hq⟩ : ∃ q, Rat.divInt 3 T = q := ⟨_, rfl⟩
    rw [hq] at H12 H14 Ic
    clear hq TL
    have gH560 := H56.out.c0
    have gH561 := H56.out.c1
    have gH562 := H56.out.c2
    have gH563 := H56.out.c3
    have gH100 := H10.out.c0
    have gH101 := H10.out.c1
    have gH102 := H10.out.c2
    have gH103 := H10.out.c3
    go_wp2_with fail
    refine (same_law _ _ _ _ H56.out.2 H10.out.2 (Ia.out)).mono ?_
    rintro e w60 ⟨rfl, b⟩
    clear gH560 gH561 gH562 gH563 gH100 gH101 gH102 gH103
    have z60 := b.size
    replace z60 := Lib.hid z60
    replace HB := Lib.hid (bstep HB.out b)
    replace H56 := Lib.hid (H56.out.below b)
    replace H10 := Lib.hid (H10.out.below b)
    replace H12 := Lib.hid (H12.out.below b)
    replace H14 := Lib.hid (H14.out.below b)
    clear b
    have gH120 := H12.out.c0
    have gH121 := H12.out.c1
    have gH122 := H12.out.c2
    have gH123 := H12.out.c3
    have gH140 := H14.out.c0
    have gH141 := H14.out.c1
    have gH142 := H14.out.c2
    have gH143 := H14.out.c3
    go_wp2_with fail
    refine (same_law _ _ _ _ H12.out.2 H14.out.2 (Ic.out)).mono ?_
    rintro e w61 ⟨rfl, b⟩
    clear gH120 gH121 gH122 gH123 gH140 gH141 gH142 gH143
    have z61 := b.size
    replace z61 := Lib.hid z61
    replace HB := Lib.hid (bstep HB.out b)
    replace H56 := Lib.hid (H56.out.below b)
    replace H10 := Lib.hid (H10.out.below b)
    replace H12 := Lib.hid (H12.out.below b)
    replace H14 := Lib.hid (H14.out.below b)
    clear b
    go_wp2_with fail
    refine (around80 m _ HM.out).mono ?_
    rintro e w_ ⟨r80, rfl, p80, q80, rfl⟩
    have e80 : IntKind.i64.wrap (r80 - 40) = r80 - 40 := IntWalk.i64_in _ (by omega)
    have f80 : wrap64 (r80 - 40) = r80 - 40 := IntWalk.wrap64_in _ (by omega)
    go_wp2_with fail
    obtain ⟨k, hk⟩ : ∃ k, r80 - 40 = k := ⟨_, rfl⟩
    have HK := Lib.hid (show -100 ≤ k ∧ k ≤ 100 by omega)
    clear e80 f80
    rw [hk]
    clear hk p80 q80
    refine bd_r11 rfl rfl HK.out rfl H56.out Ia.out ?_
    intro w62 u94 u95 u96 u97 u93 u98 u99 u18 g17 d17 A17 n17 c17 e17 E17 m17 f17 b h17 l17 o18
    obtain rfl := o18
    simp only [List.foldl_cons, List.foldl_nil, List.setIfInBounds_toArray, List.set_cons_zero, List.set_cons_succ]
    have z62 := b.size
    replace z62 := Lib.hid z62
    replace HB := Lib.hid (bstep HB.out b)
    replace H56 := Lib.hid (H56.out.below b)
    replace H10 := Lib.hid (H10.out.below b)
    replace H12 := Lib.hid (H12.out.below b)
    replace H14 := Lib.hid (H14.out.below b)
    have H17 := Lib.hid h17
    have L17 := Lib.hid l17
    clear h17 l17
    clear b
    go_wp2_with fail
    refine bd_r12 rfl rfl HK.out rfl H10.out Ia.out ?_
    intro w63 u101 u102 u103 u104 u100 u105 u106 u20 g19 d19 A19 n19 c19 e19 E19 m19 f19 b h19 l19 o20
    obtain rfl := o20
    simp only [List.foldl_cons, List.foldl_nil, List.setIfInBounds_toArray, List.set_cons_zero, List.set_cons_succ]
    have z63 := b.size
    replace z63 := Lib.hid z63
    replace HB := Lib.hid (bstep HB.out b)
    replace H56 := Lib.hid (H56.out.below b)
    replace H10 := Lib.hid (H10.out.below b)
    replace H12 := Lib.hid (H12.out.below b)
    replace H14 := Lib.hid (H14.out.below b)
    replace H17 := Lib.hid (H17.out.below b)
    have H19 := Lib.hid h19
    have L19 := Lib.hid l19
    clear h19 l19
    clear b
    clear H56
    clear H10
    go_wp2_with fail
    refine (C2.out _).mono ?_
    rintro e w64 ⟨v, rfl, h, b⟩
    obtain ⟨d64, A64, n64, c64, rfl⟩ := h.shape'
    have z64 := b.size
    replace z64 := Lib.hid z64
    replace HB := Lib.hid (bstep HB.out b)
    replace H12 := Lib.hid (H12.out.below b)
    replace H14 := Lib.hid (H14.out.below b)
    replace H17 := Lib.hid (H17.out.below b)
    replace H19 := Lib.hid (H19.out.below b)
    have V64 := Lib.hid h
    clear h b
    go_wp2_with fail
    refine (of_any 3 _ (by omega) (by omega)).mono ?_
    rintro e w65 ⟨v, rfl, h, b⟩
    obtain ⟨d65, A65, n65, c65, rfl⟩ := h.shape'
    have z65 := b.size
    replace z65 := Lib.hid z65
    replace HB := Lib.hid (bstep HB.out b)
    replace H12 := Lib.hid (H12.out.below b)
    replace H14 := Lib.hid (H14.out.below b)
    replace H17 := Lib.hid (H17.out.below b)
    replace H19 := Lib.hid (H19.out.below b)
    replace V64 := Lib.hid (V64.out.step b)
    have V65 := Lib.hid h
    clear h b
    go_wp2_with fail
    refine (gmake_any PH 3 _ _ _ V64.out V65.out (fit_bits B2.out) (fit_bits three_in)).mono ?_
    rintro e w66 ⟨v, rfl, h, b⟩
    obtain ⟨d66, A66, n66, c66, e66, E66, m66, f66, rfl⟩ := h.shape
    have z66 := b.size
    replace z66 := Lib.hid z66
    replace HB := Lib.hid (bstep HB.out b)
    replace H12 := Lib.hid (H12.out.below b)
    replace H14 := Lib.hid (H14.out.below b)
    replace H17 := Lib.hid (H17.out.below b)
    replace H19 := Lib.hid (H19.out.below b)
    replace V64 := Lib.hid (V64.out.step b)
    replace V65 := Lib.hid (V65.out.step b)
    have V66 := Lib.hid h
    clear h b
    clear V64
    clear V65
    have h := HoldG.new V66.out
    have b := al_below w66 (.cells #[.bool d66, .slice A66 n66 c66, .bool e66, .slice E66 m66 f66] 42)
    replace HB := Lib.hid (bstep HB.out b)
    replace H12 := Lib.hid (H12.out.below b)
    replace H14 := Lib.hid (H14.out.below b)
    replace H17 := Lib.hid (H17.out.below b)
    replace H19 := Lib.hid (H19.out.below b)
    clear b
    have H66 := Lib.hid h
    clear h V66
    have Ih := Lib.hid (quo_in B2.out three_in)
    obtain ⟨qh, hq⟩ : ∃ q, Rat.divInt PH 3 = q := ⟨_, rfl⟩
    rw [hq] at H66 Ih
    clear hq C2 B2
    go_wp2_with fail
    refine bd_r14 rfl rfl H66.out Ih.out ?_
    intro w67 u114 u115 u116 u117 u118 u113 u119 u120 u24 g23 d23 A23 n23 c23 e23 E23 m23 f23 b h23 l23 o24
    obtain rfl := o24
    simp only [List.foldl_cons, List.foldl_nil, List.setIfInBounds_toArray, List.set_cons_zero, List.set_cons_succ]
    simp only [World.size_alloc] at l23
    have z67 := b.size
    simp only [World.size_alloc] at z67
    replace z67 := Lib.hid z67
    replace HB := Lib.hid (bstep HB.out b)
    replace H12 := Lib.hid (H12.out.below b)
    replace H14 := Lib.hid (H14.out.below b)
    replace H17 := Lib.hid (H17.out.below b)
    replace H19 := Lib.hid (H19.out.below b)
    replace H66 := Lib.hid (H66.out.below b)
    have H23 := Lib.hid h23
    have L23 := Lib.hid l23
    clear h23 l23
    clear b
    have gH660 := H66.out.c0
    have gH661 := H66.out.c1
    have gH662 := H66.out.c2
    have gH663 := H66.out.c3
    go_wp2_with fail
    refine (gmul_in H66.out.2 H66.out.2 Ih.out Ih.out).mono ?_
    rintro e w68 ⟨v, rfl, h, b⟩
    obtain ⟨d68, A68, n68, c68, e68, E68, m68, f68, rfl⟩ := h.shape
    clear gH660 gH661 gH662 gH663
    have z68 := b.size
    replace z68 := Lib.hid z68
    replace HB := Lib.hid (bstep HB.out b)
    replace H12 := Lib.hid (H12.out.below b)
    replace H14 := Lib.hid (H14.out.below b)
    replace H17 := Lib.hid (H17.out.below b)
    replace H19 := Lib.hid (H19.out.below b)
    replace H66 := Lib.hid (H66.out.below b)
    replace H23 := Lib.hid (H23.out.below b)
    have V68 := Lib.hid h
    clear h b
    have h := HoldG.new V68.out
    have b := al_below w68 (.cells #[.bool d68, .slice A68 n68 c68, .bool e68, .slice E68 m68 f68] 42)
    replace HB := Lib.hid (bstep HB.out b)
    replace H12 := Lib.hid (H12.out.below b)
    replace H14 := Lib.hid (H14.out.below b)
    replace H17 := Lib.hid (H17.out.below b)
    replace H19 := Lib.hid (H19.out.below b)
    replace H66 := Lib.hid (H66.out.below b)
    replace H23 := Lib.hid (H23.out.below b)
    clear b
    have H68 := Lib.hid h
    clear h V68
    clear H66
    go_wp2_with fail
    refine bd_r16 rfl rfl HK.out rfl H23.out (fitQ_bd _) ?_
    intro w69 u128 u129 u130 u131 u127 u132 u133 u28 g27 d27 A27 n27 c27 e27 E27 m27 f27 b h27 l27 o28
    obtain rfl := o28
    simp only [List.foldl_cons, List.foldl_nil, List.setIfInBounds_toArray, List.set_cons_zero, List.set_cons_succ]
    simp only [World.size_alloc] at l27
    have z69 := b.size
    simp only [World.size_alloc] at z69
    replace z69 := Lib.hid z69
    replace HB := Lib.hid (bstep HB.out b)
    replace H12 := Lib.hid (H12.out.below b)
    replace H14 := Lib.hid (H14.out.below b)
    replace H17 := Lib.hid (H17.out.below b)
    replace H19 := Lib.hid (H19.out.below b)
    replace H23 := Lib.hid (H23.out.below b)
    replace H68 := Lib.hid (H68.out.below b)
    have H27 := Lib.hid h27
    have L27 := Lib.hid l27
    clear h27 l27
    clear b
    go_wp2_with fail
    refine bd_r17 rfl rfl HK.out rfl H68.out (fitQ_bd _) ?_
    intro w70 u135 u136 u137 u138 u134 u139 u140 u30 g29 d29 A29 n29 c29 e29 E29 m29 f29 b h29 l29 o30
    obtain rfl := o30
    simp only [List.foldl_cons, List.foldl_nil, List.setIfInBounds_toArray, List.set_cons_zero, List.set_cons_succ]
    have z70 := b.size
    replace z70 := Lib.hid z70
    replace HB := Lib.hid (bstep HB.out b)
    replace H12 := Lib.hid (H12.out.below b)
    replace H14 := Lib.hid (H14.out.below b)
    replace H17 := Lib.hid (H17.out.below b)
    replace H19 := Lib.hid (H19.out.below b)
    replace H23 := Lib.hid (H23.out.below b)
    replace H68 := Lib.hid (H68.out.below b)
    replace H27 := Lib.hid (H27.out.below b)
    have H29 := Lib.hid h29
    have L29 := Lib.hid l29
    clear h29 l29
    clear b
    go_wp2_with fail
    refine bd_r18 rfl rfl HK.out rfl H12.out Ic.out ?_
    intro w71 u142 u143 u144 u145 u141 u146 u147 u32 g31 d31 A31 n31 c31 e31 E31 m31 f31 b h31 l31 o32
    obtain rfl := o32
    simp only [List.foldl_cons, List.foldl_nil, List.setIfInBounds_toArray, List.set_cons_zero, List.set_cons_succ]
    have z71 := b.size
    replace z71 := Lib.hid z71
    replace HB := Lib.hid (bstep HB.out b)
    replace H12 := Lib.hid (H12.out.below b)
    replace H14 := Lib.hid (H14.out.below b)
    replace H17 := Lib.hid (H17.out.below b)
    replace H19 := Lib.hid (H19.out.below b)
    replace H23 := Lib.hid (H23.out.below b)
    replace H68 := Lib.hid (H68.out.below b)
    replace H27 := Lib.hid (H27.out.below b)
    replace H29 := Lib.hid (H29.out.below b)
    have H31 := Lib.hid h31
    have L31 := Lib.hid l31
    clear h31 l31
    clear b
    go_wp2_with fail
    refine bd_r19 rfl rfl HK.out rfl H14.out Ic.out ?_
    intro w72 u149 u150 u151 u152 u148 u153 u154 u34 g33 d33 A33 n33 c33 e33 E33 m33 f33 b h33 l33 o34
    obtain rfl := o34
    simp only [List.foldl_cons, List.foldl_nil, List.setIfInBounds_toArray, List.set_cons_zero, List.set_cons_succ]
    have z72 := b.size
    replace z72 := Lib.hid z72
    replace HB := Lib.hid (bstep HB.out b)
    replace H12 := Lib.hid (H12.out.below b)
    replace H14 := Lib.hid (H14.out.below b)
    replace H17 := Lib.hid (H17.out.below b)
    replace H19 := Lib.hid (H19.out.below b)
    replace H23 := Lib.hid (H23.out.below b)
    replace H68 := Lib.hid (H68.out.below b)
    replace H27 := Lib.hid (H27.out.below b)
    replace H29 := Lib.hid (H29.out.below b)
    replace H31 := Lib.hid (H31.out.below b)
    have H33 := Lib.hid h33
    have L33 := Lib.hid l33
    clear h33 l33
    clear b
    clear H12
    clear H14
    obtain ⟨F0, hE⟩ : ∃ E, addR qa (k : Rat) = E := ⟨_, rfl⟩
    rw [hE]
    clear hE
    obtain ⟨F1, hE⟩ : ∃ E, fitR (qh * qh) = E := ⟨_, rfl⟩
    rw [hE]
    clear hE
    obtain ⟨F2, hE⟩ : ∃ E, fitR (fitQ (qh * qh) * (k : Rat)) = E := ⟨_, rfl⟩
    rw [hE]
    clear hE
    obtain ⟨F3, hE⟩ : ∃ E, divR qc (k : Rat) = E := ⟨_, rfl⟩
    rw [hE]
    clear hE
    have gH170 := H17.out.c0
    have gH171 := H17.out.c1
    have gH172 := H17.out.c2
    have gH173 := H17.out.c3
    have gH190 := H19.out.c0
    have gH191 := H19.out.c1
    have gH192 := H19.out.c2
    have gH193 := H19.out.c3
    go_wp2_with fail
    refine (same_law _ _ _ _ H17.out.2 H19.out.2 (addQ_bd _ _)).mono ?_
    rintro e w73 ⟨rfl, b⟩
    clear gH170 gH171 gH172 gH173 gH190 gH191 gH192 gH193
    have z73 := b.size
    replace z73 := Lib.hid z73
    replace HB := Lib.hid (bstep HB.out b)
    replace H17 := Lib.hid (H17.out.below b)
    replace H19 := Lib.hid (H19.out.below b)
    replace H23 := Lib.hid (H23.out.below b)
    replace H68 := Lib.hid (H68.out.below b)
    replace H27 := Lib.hid (H27.out.below b)
    replace H29 := Lib.hid (H29.out.below b)
    replace H31 := Lib.hid (H31.out.below b)
    replace H33 := Lib.hid (H33.out.below b)
    clear b
    clear H17
    clear H19
    have gH230 := H23.out.c0
    have gH231 := H23.out.c1
    have gH232 := H23.out.c2
    have gH233 := H23.out.c3
    have gH680 := H68.out.c0
    have gH681 := H68.out.c1
    have gH682 := H68.out.c2
    have gH683 := H68.out.c3
    go_wp2_with fail
    refine (same_law _ _ _ _ H23.out.2 H68.out.2 (fitQ_bd _)).mono ?_
    rintro e w74 ⟨rfl, b⟩
    clear gH230 gH231 gH232 gH233 gH680 gH681 gH682 gH683
    have z74 := b.size
    replace z74 := Lib.hid z74
    replace HB := Lib.hid (bstep HB.out b)
    replace H23 := Lib.hid (H23.out.below b)
    replace H68 := Lib.hid (H68.out.below b)
    replace H27 := Lib.hid (H27.out.below b)
    replace H29 := Lib.hid (H29.out.below b)
    replace H31 := Lib.hid (H31.out.below b)
    replace H33 := Lib.hid (H33.out.below b)
    clear b
    clear H23
    clear H68
    have gH270 := H27.out.c0
    have gH271 := H27.out.c1
    have gH272 := H27.out.c2
    have gH273 := H27.out.c3
    have gH290 := H29.out.c0
    have gH291 := H29.out.c1
    have gH292 := H29.out.c2
    have gH293 := H29.out.c3
    go_wp2_with fail
    refine (same_law _ _ _ _ H27.out.2 H29.out.2 (fitQ_bd _)).mono ?_
    rintro e w75 ⟨rfl, b⟩
    clear gH270 gH271 gH272 gH273 gH290 gH291 gH292 gH293
    have z75 := b.size
    replace z75 := Lib.hid z75
    replace HB := Lib.hid (bstep HB.out b)
    replace H27 := Lib.hid (H27.out.below b)
    replace H29 := Lib.hid (H29.out.below b)
    replace H31 := Lib.hid (H31.out.below b)
    replace H33 := Lib.hid (H33.out.below b)
    clear b
    clear H27
    clear H29
    have gH310 := H31.out.c0
    have gH311 := H31.out.c1
    have gH312 := H31.out.c2
    have gH313 := H31.out.c3
    have gH330 := H33.out.c0
    have gH331 := H33.out.c1
    have gH332 := H33.out.c2
    have gH333 := H33.out.c3
    go_wp2_with fail
    refine (same_law _ _ _ _ H31.out.2 H33.out.2 (divQ_bd _ _)).mono ?_
    rintro e w76 ⟨rfl, b⟩
    clear gH310 gH311 gH312 gH313 gH330 gH331 gH332 gH333
    have z76 := b.size
    replace z76 := Lib.hid z76
    replace HB := Lib.hid (bstep HB.out b)
    replace H31 := Lib.hid (H31.out.below b)
    replace H33 := Lib.hid (H33.out.below b)
    clear b
    clear H31
    clear H33
    go_wp2_with fail
    refine (lives_law _).mono ?_
    rintro e w77 ⟨rfl, b⟩
    have z77 := b.size
    replace z77 := Lib.hid z77
    replace HB := Lib.hid (bstep HB.out b)
    clear b
    have HF := HB.out
    clear HB
    go_wp2_with fail
    go_ret
    exact ⟨rfl, HF⟩
  · have gH530 := H53.out.c0
    have gH531 := H53.out.c1
    go_wp2_with fail
    refine (neg_any _ _ _ H53.out.2).mono ?_
    rintro e w54 ⟨v, rfl, h, b⟩
    obtain ⟨d54, A54, n54, c54, rfl⟩ := h.shape'
    clear gH530 gH531
    have z54 := b.size
    simp only [World.size_alloc] at z54
    replace z54 := Lib.hid z54
    replace HB := Lib.hid (bstep HB.out b)
    replace H53 := Lib.hid (H53.out.below b)
    have V54 := Lib.hid h
    clear h b
    have z51_ := z51.out
    have z52_ := z52.out
    have z53_ := z53.out
    have z54_ := z54.out
    have sH53n0 := H53.out.c0
    have tH53n0 := H53.out.1.f0
    have sH53n1 := H53.out.c1
    have tH53n1 := H53.out.1.f1
    have BK := Lib.hid H53.out.1
    have NB := Lib.hid (HoldN.made V54.out H53.out.1)
    replace HB := Lib.hid (below_off (u := .bool d54) (u' := .slice A54 n54 c54) (g := w53.heap.size) HB.out (by omega))
    replace V54 := Lib.hid (V54.out.st (u := .bool d54) (u' := .slice A54 n54 c54) BK.out)
    clear H53 BK
    have H53 := NB
    clear NB
    clear z51_ z52_ z53_ z54_
    clear V54
    replace TL := Lib.hid (top_neg TL.out)
    obtain ⟨T, hT⟩ : ∃ T, -(PL - (1 + r40)) = T := ⟨_, rfl⟩
    rw [hT] at H53 TL
    clear hT p40 q40
    have gH530 := H53.out.c0
    have gH531 := H53.out.c1
    go_wp2_with fail
    refine (number_law T _ _ H53.out.2 TL.out).mono ?_
    rintro e w55 ⟨v, rfl, h, b⟩
    obtain ⟨d55, A55, n55, c55, rfl⟩ := h.shape
    clear gH530 gH531
    have z55 := b.size
    simp only [size_setc] at z55
    replace z55 := Lib.hid z55
    replace HB := Lib.hid (bstep HB.out b)
    replace H53 := Lib.hid (H53.out.below b)
    have V55 := Lib.hid h
    clear h b
    go_wp2_with fail
    refine (from_any 1 _ (by omega) (by omega)).mono ?_
    rintro e w56 ⟨v, rfl, h, b⟩
    obtain ⟨d56, A56, n56, c56, rfl⟩ := h.shape
    have z56 := b.size
    replace z56 := Lib.hid z56
    replace HB := Lib.hid (bstep HB.out b)
    replace H53 := Lib.hid (H53.out.below b)
    replace V55 := Lib.hid (V55.out.step b)
    have V56 := Lib.hid h
    clear h b
    go_wp2_with fail
    refine (make_any T 1 _ _ _ V55.out V56.out TL.out one_in).mono ?_
    rintro e w57 ⟨v, rfl, h, b⟩
    obtain ⟨d57, A57, n57, c57, e57, E57, m57, f57, rfl⟩ := h.shape
    have z57 := b.size
    replace z57 := Lib.hid z57
    replace HB := Lib.hid (bstep HB.out b)
    replace H53 := Lib.hid (H53.out.below b)
    replace V55 := Lib.hid (V55.out.step b)
    replace V56 := Lib.hid (V56.out.step b)
    have V57 := Lib.hid h
    clear h b
    clear V55
    clear V56
    have h := HoldQ.new V57.out
    have b := al_below w57 (.cells #[.bool d57, .slice A57 n57 c57, .bool e57, .slice E57 m57 f57] 36)
    replace HB := Lib.hid (bstep HB.out b)
    replace H53 := Lib.hid (H53.out.below b)
    clear b
    have H57 := Lib.hid h
    clear h V57
    go_wp2_with fail
    refine bd_r5 rfl rfl H53.out TL.out ?_
    intro w58 u52 u53 u54 u51 u55 u56 u11 g10 d10 A10 n10 c10 e10 E10 m10 f10 b h10 l10 o11
    obtain rfl := o11
    simp only [List.foldl_cons, List.foldl_nil, List.setIfInBounds_toArray, List.set_cons_zero, List.set_cons_succ]
    simp only [World.size_alloc] at l10
    have z58 := b.size
    simp only [World.size_alloc] at z58
    replace z58 := Lib.hid z58
    replace HB := Lib.hid (bstep HB.out b)
    replace H53 := Lib.hid (H53.out.below b)
    replace H57 := Lib.hid (H57.out.below b)
    have H10 := Lib.hid h10
    have L10 := Lib.hid l10
    clear h10 l10
    clear b
    go_wp2_with fail
    refine bd_r6 rfl rfl H53.out TL.out ?_
    intro w59 u58 u59 u60 u61 u57 u62 u63 u13 g12 d12 A12 n12 c12 e12 E12 m12 f12 b h12 l12 o13
    obtain rfl := o13
    simp only [List.foldl_cons, List.foldl_nil, List.setIfInBounds_toArray, List.set_cons_zero, List.set_cons_succ]
    have z59 := b.size
    replace z59 := Lib.hid z59
    replace HB := Lib.hid (bstep HB.out b)
    replace H53 := Lib.hid (H53.out.below b)
    replace H57 := Lib.hid (H57.out.below b)
    replace H10 := Lib.hid (H10.out.below b)
    have H12 := Lib.hid h12
    have L12 := Lib.hid l12
    clear h12 l12
    clear b
    go_wp2_with fail
    refine bd_r7 rfl rfl H53.out TL.out ?_
    intro w60 u65 u66 u67 u64 u68 u69 u15 g14 d14 A14 n14 c14 e14 E14 m14 f14 b h14 l14 o15
    obtain rfl := o15
    simp only [List.foldl_cons, List.foldl_nil, List.setIfInBounds_toArray, List.set_cons_zero, List.set_cons_succ]
    have z60 := b.size
    replace z60 := Lib.hid z60
    replace HB := Lib.hid (bstep HB.out b)
    replace H53 := Lib.hid (H53.out.below b)
    replace H57 := Lib.hid (H57.out.below b)
    replace H10 := Lib.hid (H10.out.below b)
    replace H12 := Lib.hid (H12.out.below b)
    have H14 := Lib.hid h14
    have L14 := Lib.hid l14
    clear h14 l14
    clear b
    clear H53
    obtain ⟨E1, hE⟩ : ∃ E, makeE 1 = E := ⟨_, rfl⟩
    rw [hE]
    clear hE
    obtain ⟨E2, hE⟩ : ∃ E, makeE T = E := ⟨_, rfl⟩
    rw [hE]
    clear hE
    have Ia := Lib.hid (quo_in TL.out one_in)
    have Ic := Lib.hid (quo_in three_in TL.out)
    obtain ⟨qa, hq⟩ : ∃ q, Rat.divInt T 1 = q := ⟨_, rfl⟩
    rw [hq] at H57 H10 Ia
    clear hq
    obtain ⟨qc, hq⟩ : ∃ q, Rat.divInt 3 T = q := ⟨_, rfl⟩
    rw [hq] at H12 H14 Ic
    clear hq TL
    have gH570 := H57.out.c0
    have gH571 := H57.out.c1
    have gH572 := H57.out.c2
    have gH573 := H57.out.c3
    have gH100 := H10.out.c0
    have gH101 := H10.out.c1
    have gH102 := H10.out.c2
    have gH103 := H10.out.c3
    go_wp2_with fail
    refine (same_law _ _ _ _ H57.out.2 H10.out.2 (Ia.out)).mono ?_
    rintro e w61 ⟨rfl, b⟩
    clear gH570 gH571 gH572 gH573 gH100 gH101 gH102 gH103
    have z61 := b.size
    replace z61 := Lib.hid z61
    replace HB := Lib.hid (bstep HB.out b)
    replace H57 := Lib.hid (H57.out.below b)
    replace H10 := Lib.hid (H10.out.below b)
    replace H12 := Lib.hid (H12.out.below b)
    replace H14 := Lib.hid (H14.out.below b)
    clear b
    have gH120 := H12.out.c0
    have gH121 := H12.out.c1
    have gH122 := H12.out.c2
    have gH123 := H12.out.c3
    have gH140 := H14.out.c0
    have gH141 := H14.out.c1
    have gH142 := H14.out.c2
    have gH143 := H14.out.c3
    go_wp2_with fail
    refine (same_law _ _ _ _ H12.out.2 H14.out.2 (Ic.out)).mono ?_
    rintro e w62 ⟨rfl, b⟩
    clear gH120 gH121 gH122 gH123 gH140 gH141 gH142 gH143
    have z62 := b.size
    replace z62 := Lib.hid z62
    replace HB := Lib.hid (bstep HB.out b)
    replace H57 := Lib.hid (H57.out.below b)
    replace H10 := Lib.hid (H10.out.below b)
    replace H12 := Lib.hid (H12.out.below b)
    replace H14 := Lib.hid (H14.out.below b)
    clear b
    go_wp2_with fail
    refine (around80 m _ HM.out).mono ?_
    rintro e w_ ⟨r80, rfl, p80, q80, rfl⟩
    have e80 : IntKind.i64.wrap (r80 - 40) = r80 - 40 := IntWalk.i64_in _ (by omega)
    have f80 : wrap64 (r80 - 40) = r80 - 40 := IntWalk.wrap64_in _ (by omega)
    go_wp2_with fail
    obtain ⟨k, hk⟩ : ∃ k, r80 - 40 = k := ⟨_, rfl⟩
    have HK := Lib.hid (show -100 ≤ k ∧ k ≤ 100 by omega)
    clear e80 f80
    rw [hk]
    clear hk p80 q80
    refine bd_r11 rfl rfl HK.out rfl H57.out Ia.out ?_
    intro w63 u94 u95 u96 u97 u93 u98 u99 u18 g17 d17 A17 n17 c17 e17 E17 m17 f17 b h17 l17 o18
    obtain rfl := o18
    simp only [List.foldl_cons, List.foldl_nil, List.setIfInBounds_toArray, List.set_cons_zero, List.set_cons_succ]
    have z63 := b.size
    replace z63 := Lib.hid z63
    replace HB := Lib.hid (bstep HB.out b)
    replace H57 := Lib.hid (H57.out.below b)
    replace H10 := Lib.hid (H10.out.below b)
    replace H12 := Lib.hid (H12.out.below b)
    replace H14 := Lib.hid (H14.out.below b)
    have H17 := Lib.hid h17
    have L17 := Lib.hid l17
    clear h17 l17
    clear b
    go_wp2_with fail
    refine bd_r12 rfl rfl HK.out rfl H10.out Ia.out ?_
    intro w64 u101 u102 u103 u104 u100 u105 u106 u20 g19 d19 A19 n19 c19 e19 E19 m19 f19 b h19 l19 o20
    obtain rfl := o20
    simp only [List.foldl_cons, List.foldl_nil, List.setIfInBounds_toArray, List.set_cons_zero, List.set_cons_succ]
    have z64 := b.size
    replace z64 := Lib.hid z64
    replace HB := Lib.hid (bstep HB.out b)
    replace H57 := Lib.hid (H57.out.below b)
    replace H10 := Lib.hid (H10.out.below b)
    replace H12 := Lib.hid (H12.out.below b)
    replace H14 := Lib.hid (H14.out.below b)
    replace H17 := Lib.hid (H17.out.below b)
    have H19 := Lib.hid h19
    have L19 := Lib.hid l19
    clear h19 l19
    clear b
    clear H57
    clear H10
    go_wp2_with fail
    refine (C2.out _).mono ?_
    rintro e w65 ⟨v, rfl, h, b⟩
    obtain ⟨d65, A65, n65, c65, rfl⟩ := h.shape'
    have z65 := b.size
    replace z65 := Lib.hid z65
    replace HB := Lib.hid (bstep HB.out b)
    replace H12 := Lib.hid (H12.out.below b)
    replace H14 := Lib.hid (H14.out.below b)
    replace H17 := Lib.hid (H17.out.below b)
    replace H19 := Lib.hid (H19.out.below b)
    have V65 := Lib.hid h
    clear h b
    go_wp2_with fail
    refine (of_any 3 _ (by omega) (by omega)).mono ?_
    rintro e w66 ⟨v, rfl, h, b⟩
    obtain ⟨d66, A66, n66, c66, rfl⟩ := h.shape'
    have z66 := b.size
    replace z66 := Lib.hid z66
    replace HB := Lib.hid (bstep HB.out b)
    replace H12 := Lib.hid (H12.out.below b)
    replace H14 := Lib.hid (H14.out.below b)
    replace H17 := Lib.hid (H17.out.below b)
    replace H19 := Lib.hid (H19.out.below b)
    replace V65 := Lib.hid (V65.out.step b)
    have V66 := Lib.hid h
    clear h b
    go_wp2_with fail
    refine (gmake_any PH 3 _ _ _ V65.out V66.out (fit_bits B2.out) (fit_bits three_in)).mono ?_
    rintro e w67 ⟨v, rfl, h, b⟩
    obtain ⟨d67, A67, n67, c67, e67, E67, m67, f67, rfl⟩ := h.shape
    have z67 := b.size
    replace z67 := Lib.hid z67
    replace HB := Lib.hid (bstep HB.out b)
    replace H12 := Lib.hid (H12.out.below b)
    replace H14 := Lib.hid (H14.out.below b)
    replace H17 := Lib.hid (H17.out.below b)
    replace H19 := Lib.hid (H19.out.below b)
    replace V65 := Lib.hid (V65.out.step b)
    replace V66 := Lib.hid (V66.out.step b)
    have V67 := Lib.hid h
    clear h b
    clear V65
    clear V66
    have h := HoldG.new V67.out
    have b := al_below w67 (.cells #[.bool d67, .slice A67 n67 c67, .bool e67, .slice E67 m67 f67] 42)
    replace HB := Lib.hid (bstep HB.out b)
    replace H12 := Lib.hid (H12.out.below b)
    replace H14 := Lib.hid (H14.out.below b)
    replace H17 := Lib.hid (H17.out.below b)
    replace H19 := Lib.hid (H19.out.below b)
    clear b
    have H67 := Lib.hid h
    clear h V67
    have Ih := Lib.hid (quo_in B2.out three_in)
    obtain ⟨qh, hq⟩ : ∃ q, Rat.divInt PH 3 = q := ⟨_, rfl⟩
    rw [hq] at H67 Ih
    clear hq C2 B2
    go_wp2_with fail
    refine bd_r14 rfl rfl H67.out Ih.out ?_
    intro w68 u114 u115 u116 u117 u118 u113 u119 u120 u24 g23 d23 A23 n23 c23 e23 E23 m23 f23 b h23 l23 o24
    obtain rfl := o24
    simp only [List.foldl_cons, List.foldl_nil, List.setIfInBounds_toArray, List.set_cons_zero, List.set_cons_succ]
    simp only [World.size_alloc] at l23
    have z68 := b.size
    simp only [World.size_alloc] at z68
    replace z68 := Lib.hid z68
    replace HB := Lib.hid (bstep HB.out b)
    replace H12 := Lib.hid (H12.out.below b)
    replace H14 := Lib.hid (H14.out.below b)
    replace H17 := Lib.hid (H17.out.below b)
    replace H19 := Lib.hid (H19.out.below b)
    replace H67 := Lib.hid (H67.out.below b)
    have H23 := Lib.hid h23
    have L23 := Lib.hid l23
    clear h23 l23
    clear b
    have gH670 := H67.out.c0
    have gH671 := H67.out.c1
    have gH672 := H67.out.c2
    have gH673 := H67.out.c3
    go_wp2_with fail
    refine (gmul_in H67.out.2 H67.out.2 Ih.out Ih.out).mono ?_
    rintro e w69 ⟨v, rfl, h, b⟩
    obtain ⟨d69, A69, n69, c69, e69, E69, m69, f69, rfl⟩ := h.shape
    clear gH670 gH671 gH672 gH673
    have z69 := b.size
    replace z69 := Lib.hid z69
    replace HB := Lib.hid (bstep HB.out b)
    replace H12 := Lib.hid (H12.out.below b)
    replace H14 := Lib.hid (H14.out.below b)
    replace H17 := Lib.hid (H17.out.below b)
    replace H19 := Lib.hid (H19.out.below b)
    replace H67 := Lib.hid (H67.out.below b)
    replace H23 := Lib.hid (H23.out.below b)
    have V69 := Lib.hid h
    clear h b
    have h := HoldG.new V69.out
    have b := al_below w69 (.cells #[.bool d69, .slice A69 n69 c69, .bool e69, .slice E69 m69 f69] 42)
    replace HB := Lib.hid (bstep HB.out b)
    replace H12 := Lib.hid (H12.out.below b)
    replace H14 := Lib.hid (H14.out.below b)
    replace H17 := Lib.hid (H17.out.below b)
    replace H19 := Lib.hid (H19.out.below b)
    replace H67 := Lib.hid (H67.out.below b)
    replace H23 := Lib.hid (H23.out.below b)
    clear b
    have H69 := Lib.hid h
    clear h V69
    clear H67
    go_wp2_with fail
    refine bd_r16 rfl rfl HK.out rfl H23.out (fitQ_bd _) ?_
    intro w70 u128 u129 u130 u131 u127 u132 u133 u28 g27 d27 A27 n27 c27 e27 E27 m27 f27 b h27 l27 o28
    obtain rfl := o28
    simp only [List.foldl_cons, List.foldl_nil, List.setIfInBounds_toArray, List.set_cons_zero, List.set_cons_succ]
    simp only [World.size_alloc] at l27
    have z70 := b.size
    simp only [World.size_alloc] at z70
    replace z70 := Lib.hid z70
    replace HB := Lib.hid (bstep HB.out b)
    replace H12 := Lib.hid (H12.out.below b)
    replace H14 := Lib.hid (H14.out.below b)
    replace H17 := Lib.hid (H17.out.below b)
    replace H19 := Lib.hid (H19.out.below b)
    replace H23 := Lib.hid (H23.out.below b)
    replace H69 := Lib.hid (H69.out.below b)
    have H27 := Lib.hid h27
    have L27 := Lib.hid l27
    clear h27 l27
    clear b
    go_wp2_with fail
    refine bd_r17 rfl rfl HK.out rfl H69.out (fitQ_bd _) ?_
    intro w71 u135 u136 u137 u138 u134 u139 u140 u30 g29 d29 A29 n29 c29 e29 E29 m29 f29 b h29 l29 o30
    obtain rfl := o30
    simp only [List.foldl_cons, List.foldl_nil, List.setIfInBounds_toArray, List.set_cons_zero, List.set_cons_succ]
    have z71 := b.size
    replace z71 := Lib.hid z71
    replace HB := Lib.hid (bstep HB.out b)
    replace H12 := Lib.hid (H12.out.below b)
    replace H14 := Lib.hid (H14.out.below b)
    replace H17 := Lib.hid (H17.out.below b)
    replace H19 := Lib.hid (H19.out.below b)
    replace H23 := Lib.hid (H23.out.below b)
    replace H69 := Lib.hid (H69.out.below b)
    replace H27 := Lib.hid (H27.out.below b)
    have H29 := Lib.hid h29
    have L29 := Lib.hid l29
    clear h29 l29
    clear b
    go_wp2_with fail
    refine bd_r18 rfl rfl HK.out rfl H12.out Ic.out ?_
    intro w72 u142 u143 u144 u145 u141 u146 u147 u32 g31 d31 A31 n31 c31 e31 E31 m31 f31 b h31 l31 o32
    obtain rfl := o32
    simp only [List.foldl_cons, List.foldl_nil, List.setIfInBounds_toArray, List.set_cons_zero, List.set_cons_succ]
    have z72 := b.size
    replace z72 := Lib.hid z72
    replace HB := Lib.hid (bstep HB.out b)
    replace H12 := Lib.hid (H12.out.below b)
    replace H14 := Lib.hid (H14.out.below b)
    replace H17 := Lib.hid (H17.out.below b)
    replace H19 := Lib.hid (H19.out.below b)
    replace H23 := Lib.hid (H23.out.below b)
    replace H69 := Lib.hid (H69.out.below b)
    replace H27 := Lib.hid (H27.out.below b)
    replace H29 := Lib.hid (H29.out.below b)
    have H31 := Lib.hid h31
    have L31 := Lib.hid l31
    clear h31 l31
    clear b
    go_wp2_with fail
    refine bd_r19 rfl rfl HK.out rfl H14.out Ic.out ?_
    intro w73 u149 u150 u151 u152 u148 u153 u154 u34 g33 d33 A33 n33 c33 e33 E33 m33 f33 b h33 l33 o34
    obtain rfl := o34
    simp only [List.foldl_cons, List.foldl_nil, List.setIfInBounds_toArray, List.set_cons_zero, List.set_cons_succ]
    have z73 := b.size
    replace z73 := Lib.hid z73
    replace HB := Lib.hid (bstep HB.out b)
    replace H12 := Lib.hid (H12.out.below b)
    replace H14 := Lib.hid (H14.out.below b)
    replace H17 := Lib.hid (H17.out.below b)
    replace H19 := Lib.hid (H19.out.below b)
    replace H23 := Lib.hid (H23.out.below b)
    replace H69 := Lib.hid (H69.out.below b)
    replace H27 := Lib.hid (H27.out.below b)
    replace H29 := Lib.hid (H29.out.below b)
    replace H31 := Lib.hid (H31.out.below b)
    have H33 := Lib.hid h33
    have L33 := Lib.hid l33
    clear h33 l33
    clear b
    clear H12
    clear H14
    obtain ⟨F0, hE⟩ : ∃ E, addR qa (k : Rat) = E := ⟨_, rfl⟩
    rw [hE]
    clear hE
    obtain ⟨F1, hE⟩ : ∃ E, fitR (qh * qh) = E := ⟨_, rfl⟩
    rw [hE]
    clear hE
    obtain ⟨F2, hE⟩ : ∃ E, fitR (fitQ (qh * qh) * (k : Rat)) = E := ⟨_, rfl⟩
    rw [hE]
    clear hE
    obtain ⟨F3, hE⟩ : ∃ E, divR qc (k : Rat) = E := ⟨_, rfl⟩
    rw [hE]
    clear hE
    have gH170 := H17.out.c0
    have gH171 := H17.out.c1
    have gH172 := H17.out.c2
    have gH173 := H17.out.c3
    have gH190 := H19.out.c0
    have gH191 := H19.out.c1
    have gH192 := H19.out.c2
    have gH193 := H19.out.c3
    go_wp2_with fail
    refine (same_law _ _ _ _ H17.out.2 H19.out.2 (addQ_bd _ _)).mono ?_
    rintro e w74 ⟨rfl, b⟩
    clear gH170 gH171 gH172 gH173 gH190 gH191 gH192 gH193
    have z74 := b.size
    replace z74 := Lib.hid z74
    replace HB := Lib.hid (bstep HB.out b)
    replace H17 := Lib.hid (H17.out.below b)
    replace H19 := Lib.hid (H19.out.below b)
    replace H23 := Lib.hid (H23.out.below b)
    replace H69 := Lib.hid (H69.out.below b)
    replace H27 := Lib.hid (H27.out.below b)
    replace H29 := Lib.hid (H29.out.below b)
    replace H31 := Lib.hid (H31.out.below b)
    replace H33 := Lib.hid (H33.out.below b)
    clear b
    clear H17
    clear H19
    have gH230 := H23.out.c0
    have gH231 := H23.out.c1
    have gH232 := H23.out.c2
    have gH233 := H23.out.c3
    have gH690 := H69.out.c0
    have gH691 := H69.out.c1
    have gH692 := H69.out.c2
    have gH693 := H69.out.c3
    go_wp2_with fail
    refine (same_law _ _ _ _ H23.out.2 H69.out.2 (fitQ_bd _)).mono ?_
    rintro e w75 ⟨rfl, b⟩
    clear gH230 gH231 gH232 gH233 gH690 gH691 gH692 gH693
    have z75 := b.size
    replace z75 := Lib.hid z75
    replace HB := Lib.hid (bstep HB.out b)
    replace H23 := Lib.hid (H23.out.below b)
    replace H69 := Lib.hid (H69.out.below b)
    replace H27 := Lib.hid (H27.out.below b)
    replace H29 := Lib.hid (H29.out.below b)
    replace H31 := Lib.hid (H31.out.below b)
    replace H33 := Lib.hid (H33.out.below b)
    clear b
    clear H23
    clear H69
    have gH270 := H27.out.c0
    have gH271 := H27.out.c1
    have gH272 := H27.out.c2
    have gH273 := H27.out.c3
    have gH290 := H29.out.c0
    have gH291 := H29.out.c1
    have gH292 := H29.out.c2
    have gH293 := H29.out.c3
    go_wp2_with fail
    refine (same_law _ _ _ _ H27.out.2 H29.out.2 (fitQ_bd _)).mono ?_
    rintro e w76 ⟨rfl, b⟩
    clear gH270 gH271 gH272 gH273 gH290 gH291 gH292 gH293
    have z76 := b.size
    replace z76 := Lib.hid z76
    replace HB := Lib.hid (bstep HB.out b)
    replace H27 := Lib.hid (H27.out.below b)
    replace H29 := Lib.hid (H29.out.below b)
    replace H31 := Lib.hid (H31.out.below b)
    replace H33 := Lib.hid (H33.out.below b)
    clear b
    clear H27
    clear H29
    have gH310 := H31.out.c0
    have gH311 := H31.out.c1
    have gH312 := H31.out.c2
    have gH313 := H31.out.c3
    have gH330 := H33.out.c0
    have gH331 := H33.out.c1
    have gH332 := H33.out.c2
    have gH333 := H33.out.c3
    go_wp2_with fail
    refine (same_law _ _ _ _ H31.out.2 H33.out.2 (divQ_bd _ _)).mono ?_
    rintro e w77 ⟨rfl, b⟩
    clear gH310 gH311 gH312 gH313 gH330 gH331 gH332 gH333
    have z77 := b.size
    replace z77 := Lib.hid z77
    replace HB := Lib.hid (bstep HB.out b)
    replace H31 := Lib.hid (H31.out.below b)
    replace H33 := Lib.hid (H33.out.below b)
    clear b
    clear H31
    clear H33
    go_wp2_with fail
    refine (lives_law _).mono ?_
    rintro e w78 ⟨rfl, b⟩
    have z78 := b.size
    replace z78 := Lib.hid z78
    replace HB := Lib.hid (bstep HB.out b)
    clear b
    have HF := HB.out
    clear HB
    go_wp2_with fail
    go_ret
    exact ⟨rfl, HF⟩
end Go.Proofs.YtocooajlfpngdaaGreatDoor
