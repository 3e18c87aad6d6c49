/- Layer 4's laws: what FracTexts needs. · Layer 4's laws: FracTexts. -/
import Derived.Test.YtocooajlfpngdaaGreatDoorB54
import Derived.Test.YtocooajlfpngdaaGreatDoorB24
import Derived.Deep.LoopGhost
import Derived.Test.YtocooajlfpngdaaGreatDoorB44
namespace Go.Proofs.YtocooajlfpngdaaGreatDoor
open Go.RowKit
set_option linter.unusedVariables false
set_option linter.unusedSimpArgs false

set_option maxRecDepth 100000 in
theorem conv_w (w : World) (s : ByteArray) (hm : s.size ≤ maxLen) : ∃ cap w1, (convert 9 76 (.string s)).run Tryz.prog w = .ok (.slice (some ⟨w.heap.size, 0, none⟩) s.size cap) w1 ∧ Below w.heap.size w w1 ∧ w1.heap.size = w.heap.size + 1 ∧
    Sl .u8 w1 w1.heap.size (some ⟨w.heap.size, 0, none⟩) s.size (sB s) ∧ s.size ≤ cap ∧ ∀ j < s.size, w1.frozen? ⟨w.heap.size, j, none⟩ = false := by
  refine ⟨_, _, Lib.run_convert_string_bytes w 9 76 5 s Tryz.underlying9 Tryz.underlying76 Tryz.underlying5, bytesWorld_below w _ s, Lib.bytesWorld_size _ _ _, ⟨sB_len s, .inr ⟨_, 0, rfl, by rw [Lib.bytesWorld_size]; omega, fun j hj => ?_⟩⟩, grownCap_ge w s.size 0 _, fun j hj => ?_⟩
  · rw [Nat.zero_add, Lib.bytesWorld_cell w _ s j hj, sB_at s j hj]
  · unfold World.frozen?
    rw [show (Lib.bytesWorld w 5 s).heap[w.heap.size]? = _ from Lib.bytesWorld_at_new w _ s]
    have h1 : s.size ≤ (Lib.bytesCells w 5 s).size := by unfold Lib.bytesCells; rw [Array.size_append, Array.size_map]; exact Nat.le_add_right _ _
    have h2 : decide ((Lib.bytesCells w 5 s).size ≤ j) = false := decide_eq_false (by omega)
    simp [h2]
/-- block g holds six strings -/
def ArrS6 (W : World) (g : Nat) : Prop := g < W.heap.size ∧ ∀ i : Nat, i < 6 → ∃ s : ByteArray, W.cell? ⟨g, i, none⟩ = some (.string s) ∧ s.size ≤ maxLen
theorem ArrS6.below {W W' : World} {g : Nat} (h : ArrS6 W g) (hb : Below W.heap.size W W') : ArrS6 W' g := by
  obtain ⟨h1, h2⟩ := h
  refine ⟨Nat.lt_of_lt_of_le h1 hb.size, fun i hi => ?_⟩
  obtain ⟨s, a1, a2⟩ := h2 i hi
  exact ⟨s, (hb.cell (p := ⟨g, i, none⟩) h1).trans a1, a2⟩
def IsRowS : Value → World → Prop := fun v w => ∃ g cs t, v = .slice (some ⟨g, 0, none⟩) 6 6 ∧ w.heap[g]? = some (.cells cs t (0, 0)) ∧ cs.size ≠ 4 ∧ ArrS6 w g
theorem IsRowS.stb4 (ty : TypeId) : Stb4 ty IsRowS := ⟨fun _ _ _ ⟨g, cs, t, e, h1, h2, h3⟩ b => ⟨g, cs, t, e, (b.block g h3.1).trans h1, h2, h3.below b⟩, fun _ _ _ _ _ _ _ _ _ _ _ _ _ _ _ ⟨g, cs, t, e, h1, h2, h3⟩ k => ⟨g, cs, t, e, (set4_heap _ _ _ _ _ _ _ (blk_ne h1 h2 k)).trans h1, h2, by rw [set4_size]; exact h3.1, fun i hi => by
  obtain ⟨s, a1, a2⟩ := h3.2 i hi
  exact ⟨s, cell_set4 a1 (blk_ne h1 h2 k), a2⟩⟩⟩
set_option maxRecDepth 100000 in
theorem o_len {ops : Array Oper} {Q : Exit → Act → World → Prop} {k : Nat} {K : Act → World → Prop} {a : Act} {w : World} {d : Tmp} {ty : TypeId} {pos : String} {af : Array Edge} {gd : Option (Nat × Bool)} {x : Operand} {A : Option Addr} {n c : Nat} (ho : ops[k]? = some { dst := some d, op := .call { callee := .builtin .len, args := #[x], argTypes := #[76] }, type := ty, pos := pos, after := af, guard := gd }) (hg : GdOk ops a gd)
    (hx : a.eval x = .slice A n c) (hK : K (a.put (some d) (.int .i64 n)) w) : wpOp Tryz.prog ops Q k K a w := by
  refine op_wpg ho hg ?_
  have hr : (Builtin.len_ #[76] ty #[.slice A n c]).run Tryz.prog w = .ok (.int .i64 n) w := by simp [Builtin.len_, go_sem, Tryz.underlying76]
  unfold Oper.wp
  simp [execOp, resolve, invoke, builtin, hx, hr, Result.andThen]
  exact hK
set_option maxRecDepth 100000 in
theorem o_min {ops : Array Oper} {Q : Exit → Act → World → Prop} {k : Nat} {K : Act → World → Prop} {a : Act} {w : World} {d : Tmp} {ty : TypeId} {pos : String} {af : Array Edge} {gd : Option (Nat × Bool)} {x y : Operand} {p q m : Int} (ho : ops[k]? = some { dst := some d, op := .call { callee := .builtin .min, args := #[x, y], argTypes := #[3, 3] }, type := ty, pos := pos, after := af, guard := gd }) (hg : GdOk ops a gd)
    (hx : a.eval x = .int .i64 p) (hy : a.eval y = .int .i64 q) (hm : min p q = m) (hK : K (a.put (some d) (.int .i64 m)) w) : wpOp Tryz.prog ops Q k K a w := by
  refine op_wpg ho hg ?_
  have hr : (Builtin.min_ #[3, 3] ty #[.int .i64 p, .int .i64 q]).run Tryz.prog w = .ok (.int .i64 m) w := by
    subst hm
    simp [Builtin.min_, Builtin.min2]
    repeat' split
    all_goals omega
  unfold Oper.wp
  simp [execOp, resolve, invoke, builtin, hx, hy, hr, Result.andThen]
  exact hK
set_option maxRecDepth 100000 in
theorem o_slice {ops : Array Oper} {Q : Exit → Act → World → Prop} {k : Nat} {K : Act → World → Prop} {a : Act} {w : World} {d : Tmp} {ty : TypeId} {pos : String} {af : Array Edge} {gd : Option (Nat × Bool)} {x y : Operand} {g n c m : Nat} (ho : ops[k]? = some { dst := some d, op := .slice 76 x none (some y) none, type := ty, pos := pos, after := af, guard := gd }) (hg : GdOk ops a gd)
    (hx : a.eval x = .slice (some ⟨g, 0, none⟩) n c) (hy : a.eval y = .int .i64 m) (h1 : m ≤ n) (h2 : n ≤ c) (hK : K (a.put (some d) (.slice (some ⟨g, 0, none⟩) m c)) w) : wpOp Tryz.prog ops Q k K a w := by
  refine op_wpg ho hg ?_
  have h3 : m ≤ c := Nat.le_trans h1 h2
  have h4 : ¬ ((m : Int) < 0) := by omega
  unfold Oper.wp
  simp only [execOp, hx, Option.map_some, Option.map_none, hy]
  simp [go_sem, h3, h4]
  exact hK
set_option maxRecDepth 100000 in
theorem o_convS {ops : Array Oper} {Q : Exit → Act → World → Prop} {k : Nat} {K : Act → World → Prop} {a : Act} {w : World} {d : Tmp} {ty : TypeId} {pos : String} {af : Array Edge} {gd : Option (Nat × Bool)} {x : Operand} {A : Option Addr} {n c B : Nat} {zs : List Int} (ho : ops[k]? = some { dst := some d, op := .convert 76 9 x, type := ty, pos := pos, after := af, guard := gd }) (hg : GdOk ops a gd)
    (hx : a.eval x = .slice A n c) (h : Sl .u8 w B A n zs) (hz : ∀ x ∈ zs, byteI x) (hK : K (a.put (some d) (.string (strOf zs))) w) : wpOp Tryz.prog ops Q k K a w := by
  refine op_wpg ho hg ?_
  have hr := conv_sl (P := Tryz.prog) w 76 9 5 A n c B zs Tryz.underlying76 Tryz.underlying5 Tryz.underlying9 h hz
  unfold Oper.wp
  simp only [execOp, hx]
  simp [go_sem, hr]
  exact hK
set_option maxRecDepth 100000 in
theorem o_sadd {ops : Array Oper} {Q : Exit → Act → World → Prop} {k : Nat} {K : Act → World → Prop} {a : Act} {w : World} {d : Tmp} {ty : TypeId} {pos : String} {af : Array Edge} {gd : Option (Nat × Bool)} {x y : Operand} {s t : ByteArray} (ho : ops[k]? = some { dst := some d, op := .binOp .add 9 x y 9, type := ty, pos := pos, after := af, guard := gd }) (hg : GdOk ops a gd)
    (hx : a.eval x = .string s) (hy : a.eval y = .string t) (hl : s.size + t.size ≤ 9223372036854775807) (hK : K (a.put (some d) (.string (s ++ t))) w) : wpOp Tryz.prog ops Q k K a w := by
  refine op_wpg ho hg ?_
  have h1 : ¬ 9223372036854775807 < s.size + t.size := by omega
  unfold Oper.wp
  simp only [execOp, hx, hy]
  simp [go_sem, hx, hy, h1]
  exact hK
set_option maxRecDepth 100000 in
theorem o_build6S {ops : Array Oper} {Q : Exit → Act → World → Prop} {k : Nat} {K : Act → World → Prop} {a : Act} {w : World} {d : Tmp} {ty : TypeId} {pos : String} {af : Array Edge} {gd : Option (Nat × Bool)} {x0 x1 x2 x3 x4 x5 : Operand} {s0 s1 s2 s3 s4 s5 : ByteArray} (ho : ops[k]? = some { dst := some d, op := .buildSlice 77 6 #[(0, x0), (1, x1), (2, x2), (3, x3), (4, x4), (5, x5)], type := ty, pos := pos, after := af, guard := gd }) (hg : GdOk ops a gd)
    (e0 : a.eval x0 = .string s0) (e1 : a.eval x1 = .string s1) (e2 : a.eval x2 = .string s2) (e3 : a.eval x3 = .string s3) (e4 : a.eval x4 = .string s4) (e5 : a.eval x5 = .string s5) (h0 : s0.size ≤ maxLen) (h1 : s1.size ≤ maxLen) (h2 : s2.size ≤ maxLen) (h3 : s3.size ≤ maxLen) (h4 : s4.size ≤ maxLen) (h5 : s5.size ≤ maxLen) (hK : ∀ v w', IsRowS v w' → Below w.heap.size w w' → K (a.put (some d) v) w') : wpOp Tryz.prog ops Q k K a w := by
  refine op_wpg ho hg ?_
  have hb := al_below w (.cells #[.string s0, .string s1, .string s2, .string s3, .string s4, .string s5] 9)
  have hn : (w.alloc (.cells #[.string s0, .string s1, .string s2, .string s3, .string s4, .string s5] 9)).heap[w.heap.size]? = some (.cells #[.string s0, .string s1, .string s2, .string s3, .string s4, .string s5] 9 (0, 0)) := World.alloc_heap_new _ _
  have HK := hK (.slice (some ⟨w.heap.size, 0, none⟩) 6 6) _ ⟨w.heap.size, _, _, rfl, hn, by simp, by rw [World.size_alloc]; omega, fun i hi => by
    rcases (show i = 0 ∨ i = 1 ∨ i = 2 ∨ i = 3 ∨ i = 4 ∨ i = 5 by omega) with rfl | rfl | rfl | rfl | rfl | rfl
    · exact ⟨_, cell_at hn rfl, h0⟩
    · exact ⟨_, cell_at hn rfl, h1⟩
    · exact ⟨_, cell_at hn rfl, h2⟩
    · exact ⟨_, cell_at hn rfl, h3⟩
    · exact ⟨_, cell_at hn rfl, h4⟩
    · exact ⟨_, cell_at hn rfl, h5⟩⟩ hb
  unfold Oper.wp
  simp only [execOp, e0, e1, e2, e3, e4, e5, List.map_toArray, List.map_cons, List.map_nil]
  simp [go_sem, e0, e1, e2, e3, e4, e5]
  exact HK
def tx_r12_ops : Array Oper := #[
  { dst := some 64, op := .move (.tmp 13), type := 76, pos := "law.go:266", after := #[], guard := none },
  { dst := some 65, op := .move (.tmp 13), type := 76, pos := "law.go:266", after := #[], guard := none },
  { dst := some 66, op := .call { callee := .builtin .len, args := #[.tmp 65], argTypes := #[76] }, type := 3, pos := "law.go:266", after := #[⟨1, .data⟩], guard := none },
  { dst := some 67, op := .call { callee := .builtin .min, args := #[.tmp 66, .const (.int .i64 60)], argTypes := #[3, 3] }, type := 3, pos := "law.go:266", after := #[⟨2, .data⟩], guard := none },
  { dst := some 68, op := .slice 76 (.tmp 64) none (some (.tmp 67)) none, type := 76, pos := "law.go:266", after := #[⟨0, .data⟩, ⟨3, .data⟩], guard := none },
  { dst := some 69, op := .convert 76 9 (.tmp 68), type := 9, pos := "law.go:266", after := #[⟨4, .data⟩], guard := none },
  { dst := some 70, op := .move (.tmp 14), type := 76, pos := "law.go:266", after := #[], guard := none },
  { dst := some 71, op := .convert 76 9 (.tmp 70), type := 9, pos := "law.go:266", after := #[⟨6, .data⟩], guard := none },
  { dst := some 72, op := .move (.tmp 10), type := 9, pos := "law.go:266", after := #[], guard := none },
  { dst := some 73, op := .binOp .add 9 (.tmp 72) (.const (.string { data := #[47, 49] })) 9, type := 9, pos := "law.go:266", after := #[⟨8, .data⟩], guard := none },
  { dst := some 74, op := .move (.tmp 10), type := 9, pos := "law.go:266", after := #[], guard := none },
  { dst := some 75, op := .binOp .add 9 (.const (.string { data := #[48] })) (.tmp 74) 9, type := 9, pos := "law.go:266", after := #[⟨10, .data⟩], guard := none },
  { dst := some 76, op := .move (.tmp 10), type := 9, pos := "law.go:266", after := #[], guard := none },
  { dst := some 77, op := .binOp .add 9 (.const (.string { data := #[45] })) (.tmp 76) 9, type := 9, pos := "law.go:266", after := #[⟨12, .data⟩], guard := none },
  { dst := some 78, op := .move (.tmp 10), type := 9, pos := "law.go:266", after := #[], guard := none },
  { dst := some 79, op := .binOp .add 9 (.tmp 78) (.const (.string { data := #[47] })) 9, type := 9, pos := "law.go:266", after := #[⟨14, .data⟩], guard := none },
  { dst := some 80, op := .buildSlice 77 6 #[(0, .tmp 69), (1, .tmp 71), (2, .tmp 73), (3, .tmp 75), (4, .tmp 77), (5, .tmp 79)], type := 77, pos := "law.go:266", after := #[⟨5, .data⟩, ⟨7, .data⟩, ⟨9, .data⟩, ⟨11, .data⟩, ⟨13, .data⟩, ⟨15, .data⟩], guard := none },
  { dst := some 16, op := .assign (.tmp 80), type := 77, pos := "law.go:266", after := #[⟨16, .data⟩, ⟨0, .phase⟩, ⟨1, .phase⟩, ⟨2, .phase⟩, ⟨3, .phase⟩, ⟨4, .phase⟩, ⟨5, .phase⟩, ⟨6, .phase⟩, ⟨7, .phase⟩, ⟨8, .phase⟩, ⟨9, .phase⟩, ⟨10, .phase⟩, ⟨11, .phase⟩, ⟨12, .phase⟩, ⟨13, .phase⟩, ⟨14, .phase⟩, ⟨15, .phase⟩, ⟨16, .phase⟩], guard := none }]
set_option maxRecDepth 100000 in
set_option maxHeartbeats 2000000 in
theorem tx_r12 {Q : Exit → Act → World → Prop} {a0 : Act} {w0 : World} {T : ByteArray} {p13 p14 n13 n14 c13 c14 m : Nat} {z13 z14 : List Int} (hN : a0.tmps.size = 113) (t10 : a0.tmps[10]? = some (.string T)) (t13 : a0.tmps[13]? = some (.slice (some ⟨p13, 0, none⟩) n13 c13)) (F13 : Sl .u8 w0 w0.heap.size (some ⟨p13, 0, none⟩) n13 z13) (b13 : ∀ x ∈ z13, byteI x) (t14 : a0.tmps[14]? = some (.slice (some ⟨p14, 0, none⟩) n14 c14)) (F14 : Sl .u8 w0 w0.heap.size (some ⟨p14, 0, none⟩) n14 z14) (b14 : ∀ x ∈ z14, byteI x) (hm : min (n13 : Int) 60 = (m : Int)) (h1 : m ≤ n13) (h2 : n13 ≤ c13) (hT : T.size ≤ 10000) (hn14 : n14 ≤ maxLen) (hn13 : n13 ≤ maxLen)
    (hQ : ∀ (w : World) (v64 v65 v66 v67 v68 v69 v70 v71 v72 v73 v74 v75 v76 v77 v78 v79 v80 v16 : Value) , Below w0.heap.size w0 w → (IsRowS) v16 w → Q .normal ⟨([(64, v64), (65, v65), (66, v66), (67, v67), (68, v68), (69, v69), (70, v70), (71, v71), (72, v72), (73, v73), (74, v74), (75, v75), (76, v76), (77, v77), (78, v78), (79, v79), (80, v80), (16, v16)] : List (Nat × Value)).foldl (fun ts p => ts.setIfInBounds p.1 p.2) a0.tmps, a0.defers⟩ w) :
    (Code.region 12 tx_r12_ops true).wp Tryz.prog Q a0 w0 := by
  refine wp_region_boxes4' (ty := 0) (cl := [.val 64 (Is (.slice (some ⟨p13, 0, none⟩) n13 c13)), .val 65 (Is (.slice (some ⟨p13, 0, none⟩) n13 c13)), .val 66 (Is (.int .i64 n13)), .val 67 (Is (.int .i64 m)), .val 68 (Is (.slice (some ⟨p13, 0, none⟩) m c13)), .val 69 (Is (.string (strOf (z13.take m)))), .val 70 (Is (.slice (some ⟨p14, 0, none⟩) n14 c14)), .val 71 (Is (.string (strOf (z14)))), .val 72 (Is (.string T)), .val 73 (Is (.string (T ++ { data := #[47, 49] }))), .val 74 (Is (.string T)), .val 75 (Is (.string ({ data := #[48] } ++ T))), .val 76 (Is (.string T)), .val 77 (Is (.string ({ data := #[45] } ++ T))), .val 78 (Is (.string T)), .val 79 (Is (.string (T ++ { data := #[47] }))), .val 80 (IsRowS), .val 16 (IsRowS)]) 113 (by kernel_rfl) hN (by kernel_rfl) ?_ ?_ ?_
  · exact ⟨Is.stb4 _ _, Is.stb4 _ _, Is.stb4 _ _, Is.stb4 _ _, Is.stb4 _ _, Is.stb4 _ _, Is.stb4 _ _, Is.stb4 _ _, Is.stb4 _ _, Is.stb4 _ _, Is.stb4 _ _, Is.stb4 _ _, Is.stb4 _ _, Is.stb4 _ _, Is.stb4 _ _, Is.stb4 _ _, IsRowS.stb4 _, IsRowS.stb4 _, trivial⟩
  · refine ⟨?_, ?_, ?_, ?_, ?_, ?_, ?_, ?_, ?_, ?_, ?_, ?_, ?_, ?_, ?_, ?_, ?_, ?_, trivial⟩
    · intro l ac w h hd K hK
      exact o_move rfl GdOk.none (ev_t ((h.same 13 (not_dst (by kernel_rfl))).trans t13)) (hK _ _ rfl (Below.refl _ _))
    · intro l ac w h hd K hK
      exact o_move rfl GdOk.none (ev_t ((h.same 13 (not_dst (by kernel_rfl))).trans t13)) (hK _ _ rfl (Below.refl _ _))
    · intro l ac w h hd K hK
      obtain ⟨v1, hv1, rfl⟩ := h.fact 1 _ rfl (dep hd 1 (by kernel_rfl))
      exact o_len rfl GdOk.none (ev_t hv1) (hK _ _ rfl (Below.refl _ _))
    · intro l ac w h hd K hK
      obtain ⟨v2, hv2, rfl⟩ := h.fact 2 _ rfl (dep hd 2 (by kernel_rfl))
      exact o_min rfl GdOk.none (ev_t hv2) rfl (hm) (hK _ _ rfl (Below.refl _ _))
    · intro l ac w h hd K hK
      obtain ⟨v0, hv0, rfl⟩ := h.fact 0 _ rfl (dep hd 0 (by kernel_rfl))
      obtain ⟨v3, hv3, rfl⟩ := h.fact 3 _ rfl (dep hd 3 (by kernel_rfl))
      exact o_slice rfl GdOk.none (ev_t hv0) (ev_t hv3) h1 h2 (hK _ _ rfl (Below.refl _ _))
    · intro l ac w h hd K hK
      obtain ⟨v4, hv4, rfl⟩ := h.fact 4 _ rfl (dep hd 4 (by kernel_rfl))
      exact o_convS rfl GdOk.none (ev_t hv4) ((F13.below h.below).take m h1) (fun x hx => b13 x (List.mem_of_mem_take hx)) (hK _ _ rfl (Below.refl _ _))
    · intro l ac w h hd K hK
      exact o_move rfl GdOk.none (ev_t ((h.same 14 (not_dst (by kernel_rfl))).trans t14)) (hK _ _ rfl (Below.refl _ _))
    · intro l ac w h hd K hK
      obtain ⟨v6, hv6, rfl⟩ := h.fact 6 _ rfl (dep hd 6 (by kernel_rfl))
      exact o_convS rfl GdOk.none (ev_t hv6) ((F14.below h.below)) (b14) (hK _ _ rfl (Below.refl _ _))
    · intro l ac w h hd K hK
      exact o_move rfl GdOk.none (ev_t ((h.same 10 (not_dst (by kernel_rfl))).trans t10)) (hK _ _ rfl (Below.refl _ _))
    · intro l ac w h hd K hK
      obtain ⟨v8, hv8, rfl⟩ := h.fact 8 _ rfl (dep hd 8 (by kernel_rfl))
      exact o_sadd rfl GdOk.none (ev_t hv8) rfl (by have : ByteArray.size ⟨#[47, 49]⟩ = 2 := rfl; omega) (hK _ _ rfl (Below.refl _ _))
    · intro l ac w h hd K hK
      exact o_move rfl GdOk.none (ev_t ((h.same 10 (not_dst (by kernel_rfl))).trans t10)) (hK _ _ rfl (Below.refl _ _))
    · intro l ac w h hd K hK
      obtain ⟨v10, hv10, rfl⟩ := h.fact 10 _ rfl (dep hd 10 (by kernel_rfl))
      exact o_sadd rfl GdOk.none rfl (ev_t hv10) (by have : ByteArray.size ⟨#[48]⟩ = 1 := rfl; omega) (hK _ _ rfl (Below.refl _ _))
    · intro l ac w h hd K hK
      exact o_move rfl GdOk.none (ev_t ((h.same 10 (not_dst (by kernel_rfl))).trans t10)) (hK _ _ rfl (Below.refl _ _))
    · intro l ac w h hd K hK
      obtain ⟨v12, hv12, rfl⟩ := h.fact 12 _ rfl (dep hd 12 (by kernel_rfl))
      exact o_sadd rfl GdOk.none rfl (ev_t hv12) (by have : ByteArray.size ⟨#[45]⟩ = 1 := rfl; omega) (hK _ _ rfl (Below.refl _ _))
    · intro l ac w h hd K hK
      exact o_move rfl GdOk.none (ev_t ((h.same 10 (not_dst (by kernel_rfl))).trans t10)) (hK _ _ rfl (Below.refl _ _))
    · intro l ac w h hd K hK
      obtain ⟨v14, hv14, rfl⟩ := h.fact 14 _ rfl (dep hd 14 (by kernel_rfl))
      exact o_sadd rfl GdOk.none (ev_t hv14) rfl (by have : ByteArray.size ⟨#[47]⟩ = 1 := rfl; omega) (hK _ _ rfl (Below.refl _ _))
    · intro l ac w h hd K hK
      obtain ⟨v5, hv5, rfl⟩ := h.fact 5 _ rfl (dep hd 5 (by kernel_rfl))
      obtain ⟨v7, hv7, rfl⟩ := h.fact 7 _ rfl (dep hd 7 (by kernel_rfl))
      obtain ⟨v9, hv9, rfl⟩ := h.fact 9 _ rfl (dep hd 9 (by kernel_rfl))
      obtain ⟨v11, hv11, rfl⟩ := h.fact 11 _ rfl (dep hd 11 (by kernel_rfl))
      obtain ⟨v13, hv13, rfl⟩ := h.fact 13 _ rfl (dep hd 13 (by kernel_rfl))
      obtain ⟨v15, hv15, rfl⟩ := h.fact 15 _ rfl (dep hd 15 (by kernel_rfl))
      exact o_build6S rfl GdOk.none (ev_t hv5) (ev_t hv7) (ev_t hv9) (ev_t hv11) (ev_t hv13) (ev_t hv15) (by rw [strOf_size, List.length_take, F13.len]; omega) (by rw [strOf_size, F14.len]; exact hn14) (by rw [ByteArray.size_append]; show _ + _ ≤ maxLen; have : ByteArray.size ⟨#[47, 49]⟩ = 2 := rfl; unfold maxLen; omega) (by rw [ByteArray.size_append]; show _ + _ ≤ maxLen; have : ByteArray.size ⟨#[48]⟩ = 1 := rfl; unfold maxLen; omega) (by rw [ByteArray.size_append]; show _ + _ ≤ maxLen; have : ByteArray.size ⟨#[45]⟩ = 1 := rfl; unfold maxLen; omega) (by rw [ByteArray.size_append]; show _ + _ ≤ maxLen; have : ByteArray.size ⟨#[47]⟩ = 1 := rfl; unfold maxLen; omega) hK
    · intro l ac w h hd K hK
      obtain ⟨v16, hv16, hF16⟩ := h.fact 16 _ rfl (dep hd 16 (by kernel_rfl))
      exact o_assign rfl GdOk.none (ev_t hv16) (hK _ _ hF16 (Below.refl _ _))
  · intro l ac w h hall
    obtain ⟨v64, q64, r64⟩ := h.fact 0 _ rfl (hall 0 (of_decide_eq_true (by kernel_rfl)))
    obtain ⟨v65, q65, r65⟩ := h.fact 1 _ rfl (hall 1 (of_decide_eq_true (by kernel_rfl)))
    obtain ⟨v66, q66, r66⟩ := h.fact 2 _ rfl (hall 2 (of_decide_eq_true (by kernel_rfl)))
    obtain ⟨v67, q67, r67⟩ := h.fact 3 _ rfl (hall 3 (of_decide_eq_true (by kernel_rfl)))
    obtain ⟨v68, q68, r68⟩ := h.fact 4 _ rfl (hall 4 (of_decide_eq_true (by kernel_rfl)))
    obtain ⟨v69, q69, r69⟩ := h.fact 5 _ rfl (hall 5 (of_decide_eq_true (by kernel_rfl)))
    obtain ⟨v70, q70, r70⟩ := h.fact 6 _ rfl (hall 6 (of_decide_eq_true (by kernel_rfl)))
    obtain ⟨v71, q71, r71⟩ := h.fact 7 _ rfl (hall 7 (of_decide_eq_true (by kernel_rfl)))
    obtain ⟨v72, q72, r72⟩ := h.fact 8 _ rfl (hall 8 (of_decide_eq_true (by kernel_rfl)))
    obtain ⟨v73, q73, r73⟩ := h.fact 9 _ rfl (hall 9 (of_decide_eq_true (by kernel_rfl)))
    obtain ⟨v74, q74, r74⟩ := h.fact 10 _ rfl (hall 10 (of_decide_eq_true (by kernel_rfl)))
    obtain ⟨v75, q75, r75⟩ := h.fact 11 _ rfl (hall 11 (of_decide_eq_true (by kernel_rfl)))
    obtain ⟨v76, q76, r76⟩ := h.fact 12 _ rfl (hall 12 (of_decide_eq_true (by kernel_rfl)))
    obtain ⟨v77, q77, r77⟩ := h.fact 13 _ rfl (hall 13 (of_decide_eq_true (by kernel_rfl)))
    obtain ⟨v78, q78, r78⟩ := h.fact 14 _ rfl (hall 14 (of_decide_eq_true (by kernel_rfl)))
    obtain ⟨v79, q79, r79⟩ := h.fact 15 _ rfl (hall 15 (of_decide_eq_true (by kernel_rfl)))
    obtain ⟨v80, q80, r80⟩ := h.fact 16 _ rfl (hall 16 (of_decide_eq_true (by kernel_rfl)))
    obtain ⟨v16, q16, r16⟩ := h.fact 17 _ rfl (hall 17 (of_decide_eq_true (by kernel_rfl)))
    have ha := act_of [(64, v64), (65, v65), (66, v66), (67, v67), (68, v68), (69, v69), (70, v70), (71, v71), (72, v72), (73, v73), (74, v74), (75, v75), (76, v76), (77, v77), (78, v78), (79, v79), (80, v80), (16, v16)] h.defers h.size (List.forall_mem_cons.2 ⟨q64, List.forall_mem_cons.2 ⟨q65, List.forall_mem_cons.2 ⟨q66, List.forall_mem_cons.2 ⟨q67, List.forall_mem_cons.2 ⟨q68, List.forall_mem_cons.2 ⟨q69, List.forall_mem_cons.2 ⟨q70, List.forall_mem_cons.2 ⟨q71, List.forall_mem_cons.2 ⟨q72, List.forall_mem_cons.2 ⟨q73, List.forall_mem_cons.2 ⟨q74, List.forall_mem_cons.2 ⟨q75, List.forall_mem_cons.2 ⟨q76, List.forall_mem_cons.2 ⟨q77, List.forall_mem_cons.2 ⟨q78, List.forall_mem_cons.2 ⟨q79, List.forall_mem_cons.2 ⟨q80, List.forall_mem_cons.2 ⟨q16, fun _ h => by cases h⟩⟩⟩⟩⟩⟩⟩⟩⟩⟩⟩⟩⟩⟩⟩⟩⟩⟩) (fun t ht => h.same t (fun hm => ht (in_dst (F := [64, 65, 66, 67, 68, 69, 70, 71, 72, 73, 74, 75, 76, 77, 78, 79, 80, 16]) (by kernel_rfl) hm)))
    rw [ha]
    exact hQ w _ _ _ _ _ _ _ _ _ _ _ _ _ _ _ _ _ _ h.below   r16
end Go.Proofs.YtocooajlfpngdaaGreatDoor
namespace Go.Proofs.YtocooajlfpngdaaGreatDoor
open Go.RowKit
set_option linter.unusedVariables false

theorem textw_len {x : Rat} (h : InF x) : (strB (textQ x)).size ≤ 9991 ∧ 1 ≤ (strB (textQ x)).size := by
  have h1 := dec_short h.1
  have h2 := dec_short (z := (x.den : Int)) (den_lim h)
  have h3 := dec_pos x.num
  have e : (strB (textQ x)).size = (textQ x).length := by simp [strB, ByteArray.size]
  rw [e]
  unfold textQ
  split
  · omega
  · simp
    omega
theorem parse_as {x : Rat} (h : InF x) {s : ByteArray} (hs : strB (textQ x) = s) (w : World) : Calls Tryz.prog 50 #[.string s] w (NewFE x 0 w) := by
  subst hs
  have hl := (textw_len h).1
  have h1 := fparse_any (strB (textQ x)) w (by unfold maxLen; omega)
  rw [strB_list, text_back h] at h1
  exact h1
theorem string_as {x : Rat} (h : InF x) {s : ByteArray} (hs : strB (textQ x) = s) {u : Value} {w : World} (ha : RepF w w.heap.size x u) : Calls Tryz.prog 51 #[u] w (StrU s w) := by
  subst hs
  exact fstring_any x u w ha h
theorem min_nat (n : Nat) : ∃ m : Nat, min (n : Int) 60 = (m : Int) ∧ m ≤ n := by
  by_cases h : n ≤ 60
  · exact ⟨n, Int.min_eq_left (by omega), Nat.le_refl _⟩
  · exact ⟨60, Int.min_eq_right (by omega), by omega⟩
/-- one byte is put into a slice of bytes -/
theorem sl_put {w : World} {B p n K : Nat} {zs : List Int} {b : Int} (h : Sl .u8 w B (some ⟨p, 0, none⟩) n zs) (hK : K < n) : Sl .u8 (w.setCell ⟨p, K, none⟩ (.int .u8 b)) B (some ⟨p, 0, none⟩) n (zs.set K b) := by
  refine ⟨by rw [List.length_set]; exact h.1, ?_⟩
  obtain ⟨b', off, e, hlt, hc⟩ := h.at_ (by omega)
  cases e
  refine .inr ⟨_, _, rfl, hlt, fun j hj => ?_⟩
  have hl := h.1
  by_cases e : j = K
  · subst e
    rw [List.getElem?_set_self (by omega), Nat.zero_add]
    have := hc j hj
    rw [Nat.zero_add] at this
    exact World.cell?_setCell_same' _ _ _ (by rw [this]; rfl)
  · rw [List.getElem?_set_ne (Ne.symm e)]
    refine (World.cell?_setCell_other _ _ _ _ (fun h => ?_)).trans (hc j hj)
    have h1 : K = 0 + j := congrArg Addr.off h
    omega
theorem sl_far {w : World} {B p q n K : Nat} {zs : List Int} {v : Value} (h : Sl .u8 w B (some ⟨p, 0, none⟩) n zs) (hne : q ≠ p) : Sl .u8 (w.setCell ⟨q, K, none⟩ v) B (some ⟨p, 0, none⟩) n zs := by
  refine ⟨h.1, ?_⟩
  rcases h.2 with h0 | ⟨b, off, e, hlt, hc⟩
  · exact .inl h0
  · cases e
    exact .inr ⟨_, _, rfl, hlt, fun j hj => (World.cell?_setCell_far _ _ _ _ hne).trans (hc j hj)⟩
theorem set_byte {zs : List Int} {K : Nat} {b : Int} (h : ∀ x ∈ zs, byteI x) (hb : byteI b) : ∀ x ∈ zs.set K b, byteI x := by
  intro x hx
  rcases List.mem_or_eq_of_mem_set hx with h1 | h1
  · exact h x h1
  · rw [h1]; exact hb
/-- a cell of a row of strings -/
def CellS (W : World) (g i : Nat) (s : ByteArray) : Prop := g < W.heap.size ∧ W.cell? ⟨g, i, none⟩ = some (.string s)
theorem CellS.below {W W' : World} {g i : Nat} {s : ByteArray} (h : CellS W g i s) (hb : Below W.heap.size W W') : CellS W' g i s := ⟨Nat.lt_of_lt_of_le h.1 hb.size, (hb.cell (p := ⟨g, i, none⟩) h.1).trans h.2⟩
set_option maxRecDepth 100000 in
set_option maxHeartbeats 8000000 in
theorem fracTexts_law (s : ByteArray) (at_ by_ : Int) (A0 : Option Addr) (n0 c0 : Nat) (zs : List Int) (w : World) (hI : InI w A0 n0 zs) (hn : n0 ≤ 9223372036854775807) (hs : s.size ≤ maxLen) (hat : -9223372036854775808 ≤ at_ ∧ at_ ≤ 9223372036854775807) (hby : byteI by_) :
    Calls Tryz.prog 9 #[.slice A0 n0 c0, .string s, .int .i64 at_, .int .u8 by_] w (fun e w' => e = .returned (.bool true) ∧ Below w.heap.size w w') := by
  have HSS := Lib.hid hs
  have HBY := Lib.hid hby
  obtain ⟨a0', a1'⟩ := hat
  have HI := Lib.hid hI
  clear hI hs hby
  have HB := Lib.hid (Below.refl w.heap.size w)
  go_enter Tryz.func9, Tryz.ntmps9
  go_wp2_with fail
  refine (gfrac_any A0 n0 c0 0 zs _ HI.out hn (by omega) (by omega)).mono ?_
  rintro e w51 ⟨x51, hx, v, rfl, h, b⟩
  obtain ⟨d51, A51, n51, c51, e51, E51, m51, f51, rfl⟩ := h.shape
  have z51 := b.size
  replace z51 := Lib.hid z51
  replace HI := Lib.hid (HI.out.below b)
  replace HB := Lib.hid (bstep HB.out b)
  have V51 := Lib.hid h
  have S51 := Lib.hid (fr_sz hx)
  clear h b hx
  have h := HoldG.new V51.out
  have b := al_below w51 (.cells #[.bool d51, .slice A51 n51 c51, .bool e51, .slice E51 m51 f51] 42)
  replace HI := Lib.hid (HI.out.below b)
  replace HB := Lib.hid (bstep HB.out b)
  clear b
  have H51 := Lib.hid h
  clear h V51
  clear HI
  obtain ⟨x, hx⟩ : ∃ x, x51 = x := ⟨_, rfl⟩
  rw [hx] at H51 S51
  have IX := Lib.hid (S51.out.inF (by omega))
  clear hx S51 hn
  obtain ⟨T, hT⟩ : ∃ s, strB (textQ x) = s := ⟨_, rfl⟩
  have hl := textw_len IX.out
  rw [hT] at hl
  have HT := Lib.hid hT
  have TL := Lib.hid hl
  clear hT hl
  have gH510 := H51.out.c0
  have gH511 := H51.out.c1
  have gH512 := H51.out.c2
  have gH513 := H51.out.c3
  go_wp2_with fail
  refine (gtext_x x _ _ H51.out.2 IX.out T HT.out).mono ?_
  rintro e w52 ⟨rfl, b⟩
  clear gH510 gH511 gH512 gH513
  have z52 := b.size
  simp only [World.size_alloc] at z52
  replace z52 := Lib.hid z52
  replace HB := Lib.hid (bstep HB.out b)
  replace H51 := Lib.hid (H51.out.below b)
  clear b
  go_wp2_with fail
  refine (parse_as IX.out HT.out _).mono ?_
  rintro e w53 ⟨v, rfl, h, b⟩
  obtain ⟨d53, A53, n53, c53, e53, E53, m53, f53, rfl⟩ := h.shape
  have z53 := b.size
  replace z53 := Lib.hid z53
  replace HB := Lib.hid (bstep HB.out b)
  replace H51 := Lib.hid (H51.out.below b)
  have V53 := Lib.hid h
  clear h b
  have h := HoldQ.new V53.out
  have b := al_below w53 (.cells #[.bool d53, .slice A53 n53 c53, .bool e53, .slice E53 m53 f53] 36)
  replace HB := Lib.hid (bstep HB.out b)
  replace H51 := Lib.hid (H51.out.below b)
  clear b
  have H53 := Lib.hid h
  clear h V53
  have gH510 := H51.out.c0
  have gH511 := H51.out.c1
  have gH512 := H51.out.c2
  have gH513 := H51.out.c3
  go_wp2_with fail
  refine (of_law x _ _ H51.out.2 IX.out).mono ?_
  rintro e w54 ⟨v, rfl, h, b⟩
  obtain ⟨d54, A54, n54, c54, e54, E54, m54, f54, rfl⟩ := h.shape
  clear gH510 gH511 gH512 gH513
  have z54 := b.size
  simp only [World.size_alloc] at z54
  replace z54 := Lib.hid z54
  replace HB := Lib.hid (bstep HB.out b)
  replace H51 := Lib.hid (H51.out.below b)
  replace H53 := Lib.hid (H53.out.below b)
  have V54 := Lib.hid h
  clear h b
  go_wp2_with fail
  refine (string_as IX.out HT.out V54.out).mono ?_
  rintro e w55 ⟨rfl, b⟩
  have z55 := b.size
  replace z55 := Lib.hid z55
  replace HB := Lib.hid (bstep HB.out b)
  replace H51 := Lib.hid (H51.out.below b)
  replace H53 := Lib.hid (H53.out.below b)
  replace V54 := Lib.hid (V54.out.step b)
  clear b
  clear V54
  have gH510 := H51.out.c0
  have gH511 := H51.out.c1
  have gH512 := H51.out.c2
  have gH513 := H51.out.c3
  have gH530 := H53.out.c0
  have gH531 := H53.out.c1
  have gH532 := H53.out.c2
  have gH533 := H53.out.c3
  go_wp2_with fail
  refine (same_law _ _ _ _ H53.out.2 H51.out.2 IX.out).mono ?_
  rintro e w56 ⟨rfl, b⟩
  clear gH510 gH511 gH512 gH513 gH530 gH531 gH532 gH533
  have z56 := b.size
  replace z56 := Lib.hid z56
  replace HB := Lib.hid (bstep HB.out b)
  replace H51 := Lib.hid (H51.out.below b)
  replace H53 := Lib.hid (H53.out.below b)
  clear b
  clear H51
  clear H53
  clear z51 z52 z53 z54 z55 z56
  obtain ⟨tl0, tl1⟩ := TL.out
  obtain ⟨cf, w1, hr1, hb1, hz1, hs1, hc1, _⟩ := conv_w w56 s HSS.out
  obtain ⟨ct, w2, hr2, hb2, hz2, hs2, hc2, hf2⟩ := conv_w w1 T (by unfold maxLen; omega)
  have hB2 : w.heap.size ≤ w56.heap.size := HB.out.size
  obtain ⟨p13, hp13⟩ : ∃ p, w56.heap.size = p := ⟨_, rfl⟩
  obtain ⟨p14, hp14⟩ : ∃ p, w1.heap.size = p := ⟨_, rfl⟩
  rw [hp13] at hr1 hs1 hz1 hB2
  rw [hp14] at hr2 hs2 hf2 hz1
  have hpp : p14 ≠ p13 := by omega
  replace HB := Lib.hid (bstep (bstep HB.out hb1) hb2)
  have F13 := Lib.hid ((hs1.below hb2).more hb2.size)
  have F14 := Lib.hid hs2
  have HPB := Lib.hid (show w.heap.size ≤ p14 by omega)
  obtain ⟨N, hN⟩ : ∃ N, T.size = N := ⟨_, rfl⟩
  rw [hN] at hr2 hf2 F14 tl0 tl1 hc2
  have hTS : T.data.size = N := hN
  obtain ⟨r, hr⟩ : ∃ r, at_.tmod (N : Int) = r := ⟨_, rfl⟩
  have hrb : -(N : Int) < r ∧ r < N := hr ▸ ⟨Int.lt_tmod_of_pos at_ (by omega), Int.tmod_lt_of_pos at_ (by omega)⟩
  have hN0 : ((N : Int) == 0) = false := by simp; omega
  have hN1 : ¬ (N : Int) = 0 := by omega
  have HF2 := Lib.hid hf2
  clear hb1 hb2 hz1 hz2 hs1 hs2 hf2 hp13 hp14
  by_cases hneg : r < 0
  · skip
    obtain ⟨K, hK⟩ : ∃ K : Nat, r + N = (K : Int) := ⟨(r + N).toNat, by omega⟩
    have hKN : K < N := by omega
    have hKN' : (K : Int) < (N : Int) := by omega
    have hK0 : (0 : Int) ≤ (K : Int) := by omega
    have ew1 : IntKind.i64.wrap (r + N) = K := by rw [IntWalk.i64_in _ (by omega)]; exact hK
    have ew2 : wrap64 (r + N) = K := by rw [IntWalk.wrap64_in _ (by omega)]; exact hK
    have hcell := F14.out.at_ (by omega)
    obtain ⟨b_, off_, e_, _, hcell⟩ := hcell
    cases e_
    have hc := hcell K hKN
    rw [Nat.zero_add] at hc
    have hfr := HF2.out K hKN
    clear hcell HF2
    have G13 := Lib.hid (sl_far (K := K) (v := .int .u8 by_) F13.out hpp)
    have G14 := Lib.hid (sl_put (b := by_) F14.out hKN)
    have HB3 := Lib.hid (HB.out.setCell (p := ⟨p14, K, none⟩) HPB.out (.int .u8 by_))
    clear F13 F14 HB
    go_wp2_with fail
    clear hc hfr hr1 hr2 hN0 hN1 hr hKN' hK0 ew1 ew2
    obtain ⟨w3, hw3⟩ : ∃ W, W = w2.setCell ⟨p14, K, none⟩ (.int .u8 by_) := ⟨_, rfl⟩
    rw [← hw3] at G13 G14 HB3
    rw [← hw3]
    have hsz3 : w3.heap.size = w2.heap.size := by rw [hw3]; exact size_setc _ _ _
    have G13' := G13.out
    have G14' := G14.out
    rw [← hsz3] at G13' G14'
    replace G13 := Lib.hid G13'
    replace G14 := Lib.hid G14'
    have HB := HB3
    clear G13' G14' HB3 hw3 hsz3
    obtain ⟨m, hm, hm1⟩ := min_nat s.size
    refine tx_r12 rfl rfl rfl G13.out (sB_byte s) rfl G14.out (set_byte (sB_byte T) HBY.out) hm hm1 hc1 (by omega) (by unfold maxLen; omega) HSS.out ?_
    intro w57 u64 u65 u66 u67 u68 u69 u70 u71 u72 u73 u74 u75 u76 u77 u78 u79 u80 u16   b   o16
    simp only [List.foldl_cons, List.foldl_nil, List.setIfInBounds_toArray, List.set_cons_zero, List.set_cons_succ]
    have z57 := b.size
    replace z57 := Lib.hid z57
    replace HB := Lib.hid (bstep HB.out b)
    clear b
    obtain ⟨g16, cs, tt, rfl, -, -, hR⟩ := o16
    have HR := Lib.hid hR
    clear hR G13 G14 hm hm1 hc1 hc2
    clear z57
    go_wp2_with fail
    go_loopg [17] 6 (fun gk iv wr => ∃ i : Nat, gk + i = 6 ∧ iv = .int .i64 i ∧ Hid (ArrS6 wr g16) ∧ Hid (Below w.heap.size w wr))
    case atStart => exact ⟨0, by omega, rfl, HR, HB⟩
    case round =>
      clear HB HR
      obtain ⟨i, hgi, rfl, HR, HB⟩ := hrel
      by_cases hlt : (i : Int) < 6
      · have ei : IntKind.i64.wrap ((i : Int) + 1) = (i : Int) + 1 := IntWalk.i64_in _ (by omega)
        have hip : (0 : Int) ≤ (i : Int) := Int.natCast_nonneg _
        obtain ⟨s1, c1, z1⟩ := HR.out.2 i (by omega)
        have HC := Lib.hid (show CellS wr g16 i s1 from ⟨HR.out.1, c1⟩)
        have Z1 := Lib.hid z1
        clear c1 z1
        obtain ⟨y, er, hpq⟩ : ∃ y er, parseQ s1.data.toList = (y, er) := ⟨_, _, rfl⟩
        obtain ⟨E, hE⟩ : ∃ E : Int, (er : Int) = E := ⟨_, rfl⟩
        have IY := Lib.hid (show InF y from by have h := parseQ_in s1.data.toList; rw [hpq] at h; exact h)
        have HPQ := Lib.hid hpq
        have HE := Lib.hid hE
        clear hpq hE
        have hcs := HC.out.2
        go_wp2_with fail
        have HM := fparse_any s1 wr Z1.out
        rw [HPQ.out] at HM
        simp only at HM
        rw [HE.out] at HM
        refine (HM).mono ?_
        rintro e w58 ⟨v, rfl, h, b⟩
        obtain ⟨d58, A58, n58, c58, e58, E58, m58, f58, rfl⟩ := h.shape
        clear hcs
        have z58 := b.size
        replace z58 := Lib.hid z58
        replace HR := Lib.hid (HR.out.below b)
        replace HB := Lib.hid (bstep HB.out b)
        replace HC := Lib.hid (HC.out.below b)
        have V58 := Lib.hid h
        clear h b
        clear HM
        have h := HoldQ.new V58.out
        have b := al_below w58 (.cells #[.bool d58, .slice A58 n58 c58, .bool e58, .slice E58 m58 f58] 36)
        replace HR := Lib.hid (HR.out.below b)
        replace HB := Lib.hid (bstep HB.out b)
        replace HC := Lib.hid (HC.out.below b)
        clear b
        have H58 := Lib.hid h
        clear h V58
        have hcs := HC.out.2
        go_wp2_with fail
        have HM := gparse_any s1 (w58.alloc (.cells #[.bool d58, .slice A58 n58 c58, .bool e58, .slice E58 m58 f58] 36)) Z1.out
        rw [HPQ.out] at HM
        simp only at HM
        rw [HE.out] at HM
        refine (HM).mono ?_
        rintro e w59 ⟨v, rfl, h, b⟩
        obtain ⟨d59, A59, n59, c59, e59, E59, m59, f59, rfl⟩ := h.shape
        clear hcs
        have z59 := b.size
        simp only [World.size_alloc] at z59
        replace z59 := Lib.hid z59
        replace HR := Lib.hid (HR.out.below b)
        replace HB := Lib.hid (bstep HB.out b)
        replace HC := Lib.hid (HC.out.below b)
        replace H58 := Lib.hid (H58.out.below b)
        have V59 := Lib.hid h
        clear h b
        clear HM
        have h := HoldG.new V59.out
        have b := al_below w59 (.cells #[.bool d59, .slice A59 n59 c59, .bool e59, .slice E59 m59 f59] 42)
        replace HR := Lib.hid (HR.out.below b)
        replace HB := Lib.hid (bstep HB.out b)
        replace HC := Lib.hid (HC.out.below b)
        replace H58 := Lib.hid (H58.out.below b)
        clear b
        have H59 := Lib.hid h
        clear h V59
        clear HC
        clear Z1 HPQ HE
        have gH580 := H58.out.c0
        have gH581 := H58.out.c1
        have gH582 := H58.out.c2
        have gH583 := H58.out.c3
        have gH590 := H59.out.c0
        have gH591 := H59.out.c1
        have gH592 := H59.out.c2
        have gH593 := H59.out.c3
        go_wp2_with fail
        refine (same_law _ _ _ _ H58.out.2 H59.out.2 IY.out).mono ?_
        rintro e w60 ⟨rfl, b⟩
        clear gH580 gH581 gH582 gH583 gH590 gH591 gH592 gH593
        have z60 := b.size
        simp only [World.size_alloc] at z60
        replace z60 := Lib.hid z60
        replace HR := Lib.hid (HR.out.below b)
        replace HB := Lib.hid (bstep HB.out b)
        replace H58 := Lib.hid (H58.out.below b)
        replace H59 := Lib.hid (H59.out.below b)
        clear b
        clear H58
        clear H59
        clear IY
        go_wp2_with fail
        clear z58 z59 z60
        go_roundg (gk - 1)
        case measure => omega
        case rel => exact ⟨i + 1, by omega, by go_num, HR, HB⟩
      · clear HR
        go_wp2_with fail
        refine (lives_law _).mono ?_
        rintro e w61 ⟨rfl, b⟩
        have z61 := b.size
        replace z61 := Lib.hid z61
        replace HB := Lib.hid (bstep HB.out b)
        clear b
        have HF := HB.out
        clear HB
        go_wp2_with fail
        go_ret
        exact ⟨rfl, HF⟩
  · skip
    obtain ⟨K, hK⟩ : ∃ K : Nat, r = (K : Int) := ⟨(r).toNat, by omega⟩
    have hKN : K < N := by omega
    have hKN' : (K : Int) < (N : Int) := by omega
    have hK0 : (0 : Int) ≤ (K : Int) := by omega
    subst hK
    have hcell := F14.out.at_ (by omega)
    obtain ⟨b_, off_, e_, _, hcell⟩ := hcell
    cases e_
    have hc := hcell K hKN
    rw [Nat.zero_add] at hc
    have hfr := HF2.out K hKN
    clear hcell HF2
    have G13 := Lib.hid (sl_far (K := K) (v := .int .u8 by_) F13.out hpp)
    have G14 := Lib.hid (sl_put (b := by_) F14.out hKN)
    have HB3 := Lib.hid (HB.out.setCell (p := ⟨p14, K, none⟩) HPB.out (.int .u8 by_))
    clear F13 F14 HB
    go_wp2_with fail
    clear hc hfr hr1 hr2 hN0 hN1 hr hKN' hK0
    obtain ⟨w3, hw3⟩ : ∃ W, W = w2.setCell ⟨p14, K, none⟩ (.int .u8 by_) := ⟨_, rfl⟩
    rw [← hw3] at G13 G14 HB3
    rw [← hw3]
    have hsz3 : w3.heap.size = w2.heap.size := by rw [hw3]; exact size_setc _ _ _
    have G13' := G13.out
    have G14' := G14.out
    rw [← hsz3] at G13' G14'
    replace G13 := Lib.hid G13'
    replace G14 := Lib.hid G14'
    have HB := HB3
    clear G13' G14' HB3 hw3 hsz3
    obtain ⟨m, hm, hm1⟩ := min_nat s.size
    refine tx_r12 rfl rfl rfl G13.out (sB_byte s) rfl G14.out (set_byte (sB_byte T) HBY.out) hm hm1 hc1 (by omega) (by unfold maxLen; omega) HSS.out ?_
    intro w62 u64 u65 u66 u67 u68 u69 u70 u71 u72 u73 u74 u75 u76 u77 u78 u79 u80 u16   b   o16
    simp only [List.foldl_cons, List.foldl_nil, List.setIfInBounds_toArray, List.set_cons_zero, List.set_cons_succ]
    have z62 := b.size
    replace z62 := Lib.hid z62
    replace HB := Lib.hid (bstep HB.out b)
    clear b
    obtain ⟨g16, cs, tt, rfl, -, -, hR⟩ := o16
    have HR := Lib.hid hR
    clear hR G13 G14 hm hm1 hc1 hc2
    clear z62
    go_wp2_with fail
    go_loopg [17] 6 (fun gk iv wr => ∃ i : Nat, gk + i = 6 ∧ iv = .int .i64 i ∧ Hid (ArrS6 wr g16) ∧ Hid (Below w.heap.size w wr))
    case atStart => exact ⟨0, by omega, rfl, HR, HB⟩
    case round =>
      clear HB HR
      obtain ⟨i, hgi, rfl, HR, HB⟩ := hrel
      by_cases hlt : (i : Int) < 6
      · have ei : IntKind.i64.wrap ((i : Int) + 1) = (i : Int) + 1 := IntWalk.i64_in _ (by omega)
        have hip : (0 : Int) ≤ (i : Int) := Int.natCast_nonneg _
        obtain ⟨s1, c1, z1⟩ := HR.out.2 i (by omega)
        have HC := Lib.hid (show CellS wr g16 i s1 from ⟨HR.out.1, c1⟩)
        have Z1 := Lib.hid z1
        clear c1 z1
        obtain ⟨y, er, hpq⟩ : ∃ y er, parseQ s1.data.toList = (y, er) := ⟨_, _, rfl⟩
        obtain ⟨E, hE⟩ : ∃ E : Int, (er : Int) = E := ⟨_, rfl⟩
        have IY := Lib.hid (show InF y from by have h := parseQ_in s1.data.toList; rw [hpq] at h; exact h)
        have HPQ := Lib.hid hpq
        have HE := Lib.hid hE
        clear hpq hE
        have hcs := HC.out.2
        go_wp2_with fail
        have HM := fparse_any s1 wr Z1.out
        rw [HPQ.out] at HM
        simp only at HM
        rw [HE.out] at HM
        refine (HM).mono ?_
        rintro e w63 ⟨v, rfl, h, b⟩
        obtain ⟨d63, A63, n63, c63, e63, E63, m63, f63, rfl⟩ := h.shape
        clear hcs
        have z63 := b.size
        replace z63 := Lib.hid z63
        replace HR := Lib.hid (HR.out.below b)
        replace HB := Lib.hid (bstep HB.out b)
        replace HC := Lib.hid (HC.out.below b)
        have V63 := Lib.hid h
        clear h b
        clear HM
        have h := HoldQ.new V63.out
        have b := al_below w63 (.cells #[.bool d63, .slice A63 n63 c63, .bool e63, .slice E63 m63 f63] 36)
        replace HR := Lib.hid (HR.out.below b)
        replace HB := Lib.hid (bstep HB.out b)
        replace HC := Lib.hid (HC.out.below b)
        clear b
        have H63 := Lib.hid h
        clear h V63
        have hcs := HC.out.2
        go_wp2_with fail
        have HM := gparse_any s1 (w63.alloc (.cells #[.bool d63, .slice A63 n63 c63, .bool e63, .slice E63 m63 f63] 36)) Z1.out
        rw [HPQ.out] at HM
        simp only at HM
        rw [HE.out] at HM
        refine (HM).mono ?_
        rintro e w64 ⟨v, rfl, h, b⟩
        obtain ⟨d64, A64, n64, c64, e64, E64, m64, f64, rfl⟩ := h.shape
        clear hcs
        have z64 := b.size
        simp only [World.size_alloc] at z64
        replace z64 := Lib.hid z64
        replace HR := Lib.hid (HR.out.below b)
        replace HB := Lib.hid (bstep HB.out b)
        replace HC := Lib.hid (HC.out.below b)
        replace H63 := Lib.hid (H63.out.below b)
        have V64 := Lib.hid h
        clear h b
        clear HM
        have h := HoldG.new V64.out
        have b := al_below w64 (.cells #[.bool d64, .slice A64 n64 c64, .bool e64, .slice E64 m64 f64] 42)
        replace HR := Lib.hid (HR.out.below b)
        replace HB := Lib.hid (bstep HB.out b)
        replace HC := Lib.hid (HC.out.below b)
        replace H63 := Lib.hid (H63.out.below b)
        clear b
        have H64 := Lib.hid h
        clear h V64
        clear HC
        clear Z1 HPQ HE
        have gH630 := H63.out.c0
        have gH631 := H63.out.c1
        have gH632 := H63.out.c2
        have gH633 := H63.out.c3
        have gH640 := H64.out.c0
        have gH641 := H64.out.c1
        have gH642 := H64.out.c2
        have gH643 := H64.out.c3
        go_wp2_with fail
        refine (same_law _ _ _ _ H63.out.2 H64.out.2 IY.out).mono ?_
        rintro e w65 ⟨rfl, b⟩
        clear gH630 gH631 gH632 gH633 gH640 gH641 gH642 gH643
        have z65 := b.size
        simp only [World.size_alloc] at z65
        replace z65 := Lib.hid z65
        replace HR := Lib.hid (HR.out.below b)
        replace HB := Lib.hid (bstep HB.out b)
        replace H63 := Lib.hid (H63.out.below b)
        replace H64 := Lib.hid (H64.out.below b)
        clear b
        clear H63
        clear H64
        clear IY
        go_wp2_with fail
        clear z63 z64 z65
        go_roundg (gk - 1)
        case measure => omega
        case rel => exact ⟨i + 1, by omega, by go_num, HR, HB⟩
      · clear HR
        go_wp2_with fail
        refine (lives_law _).mono ?_
        rintro e w66 ⟨rfl, b⟩
        have z66 := b.size
        replace z66 := Lib.hid z66
        replace HB := Lib.hid (bstep HB.out b)
        clear b
        have HF := HB.out
        clear HB
        go_wp2_with fail
        go_ret
        exact ⟨rfl, HF⟩
end Go.Proofs.YtocooajlfpngdaaGreatDoor
