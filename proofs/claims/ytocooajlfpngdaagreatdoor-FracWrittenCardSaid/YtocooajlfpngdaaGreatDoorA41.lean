/- Operations of a region with guards, by what their operands yield. · Rows of fractions; rows that a drawn region makes. · A region that draws its order, boxes of four cells: as InvF; a slot that the region writes may be read ahead of the write. -/
import Derived.Test.YtocooajlfpngdaaGreatDoorA40
import Derived.Test.YtocooajlfpngdaaGreatDoorA28
namespace Go.Proofs.YtocooajlfpngdaaGreatDoor
open Go.RowKit
set_option linter.unusedVariables false
set_option linter.unusedSimpArgs false
section
variable {P : Program} {ops : Array Oper} {Q : Exit → Act → World → Prop} {k : Nat} {K : Act → World → Prop} {a : Act} {w : World}
/-- the operation's guard lets it come up -/
def GdOk (ops : Array Oper) (a : Act) (gd : Option (Nat × Bool)) : Prop := ∀ j b, gd = some (j, b) → yielded ops a.tmps j = some b
theorem GdOk.none : GdOk ops a none := fun _ _ h => by cases h
theorem GdOk.of {j : Nat} {b : Bool} {oj : Oper} {d : Tmp} (hj : ops[j]? = some oj) (hd : oj.dst = some d) (hv : a.tmps[d]? = some (.bool b)) : GdOk ops a (some (j, b)) := by
  intro j' b' h
  cases h
  unfold yielded
  rw [hj]
  simp [hd, hv]
theorem op_wpg {o : Oper} (ho : ops[k]? = some o) (hg : GdOk ops a o.guard) (h : o.wp P a w K Q) : wpOp P ops Q k K a w := by
  unfold wpOp
  rw [ho]
  have hw : Region.wanted o (yielded ops a.tmps) = true := by
    unfold Region.wanted
    cases hgd : o.guard with
    | none => rfl
    | some p =>
      obtain ⟨j, b⟩ := p
      simp [hg j b hgd]
  simp only [hw, if_true]
  exact .inl h
/-- an operation that the guard keeps from coming up -/
theorem op_skip {o : Oper} {j : Nat} {b : Bool} {oj : Oper} {dj d : Tmp} {v : Value} (ho : ops[k]? = some o) (hgd : o.guard = some (j, b)) (hdo : o.dst = some d) (hj : ops[j]? = some oj) (hd : oj.dst = some dj) (hv : a.tmps[dj]? = some v) (hne : v ≠ .bool b) (hK : K (a.put (some d) undef) w) : wpOp P ops Q k K a w := by
  unfold wpOp
  rw [ho]
  have hw : Region.wanted o (yielded ops a.tmps) = false := by
    unfold Region.wanted
    rw [hgd]
    unfold yielded
    simp only [hj, Option.bind_some, hd, hv]
    cases v <;> simp at hne ⊢
    exact hne
  simp only [hw]
  rw [hdo]
  exact hK
theorem o_move {d : Tmp} {ty : TypeId} {pos : String} {af : Array Edge} {gd : Option (Nat × Bool)} {x : Operand} {v : Value} (ho : ops[k]? = some { dst := some d, op := .move x, type := ty, pos := pos, after := af, guard := gd }) (hg : GdOk ops a gd)
    (hx : a.eval x = v) (hK : K (a.put (some d) (v)) w) : wpOp Tryz.prog ops Q k K a w := by
  refine op_wpg ho hg ?_
  unfold Oper.wp
  simp only [execOp, hx]
  simp [go_sem, hx]
  exact hK
theorem o_assign {d : Tmp} {ty : TypeId} {pos : String} {af : Array Edge} {gd : Option (Nat × Bool)} {x : Operand} {v : Value} (ho : ops[k]? = some { dst := some d, op := .assign x, type := ty, pos := pos, after := af, guard := gd }) (hg : GdOk ops a gd)
    (hx : a.eval x = v) (hK : K (a.put (some d) (v)) w) : wpOp Tryz.prog ops Q k K a w := by
  refine op_wpg ho hg ?_
  unfold Oper.wp
  simp only [execOp, hx]
  simp [go_sem, hx]
  exact hK
theorem o_allocI {d : Tmp} {ty : TypeId} {pos : String} {af : Array Edge} {gd : Option (Nat × Bool)}  (ho : ops[k]? = some { dst := some d, op := .alloc 34, type := ty, pos := pos, after := af, guard := gd }) (hg : GdOk ops a gd)
     (hK : K (a.put (some d) (.pointer (some ⟨w.heap.size, 0, none⟩))) (w.alloc (.cells #[.bool false, .slice none 0 0] 34))) : wpOp Tryz.prog ops Q k K a w := by
  refine op_wpg ho hg ?_
  unfold Oper.wp
  simp only [execOp]
  simp [go_sem]
  exact hK
theorem o_loadG {d : Tmp} {ty : TypeId} {pos : String} {af : Array Edge} {gd : Option (Nat × Bool)} {x : Operand} {p o : Nat} {x0 x1 x2 x3 : Value} (ho : ops[k]? = some { dst := some d, op := .load 42 x, type := ty, pos := pos, after := af, guard := gd }) (hg : GdOk ops a gd)
    (hx : a.eval x = .pointer (some ⟨p, o, none⟩)) (h0 : w.cell? ⟨p, o, none⟩ = some x0) (h1 : w.cell? ⟨p, o + 1, none⟩ = some x1) (h2 : w.cell? ⟨p, o + 2, none⟩ = some x2) (h3 : w.cell? ⟨p, o + 3, none⟩ = some x3) (hK : K (a.put (some d) (.agg #[x0, x1, x2, x3])) w) : wpOp Tryz.prog ops Q k K a w := by
  refine op_wpg ho hg ?_
  unfold Oper.wp
  simp only [execOp, hx, h0, h1, h2, h3]
  simp [go_sem, hx, h0, h1, h2, h3]
  exact hK
theorem o_loadQ {d : Tmp} {ty : TypeId} {pos : String} {af : Array Edge} {gd : Option (Nat × Bool)} {x : Operand} {p o : Nat} {x0 x1 x2 x3 : Value} (ho : ops[k]? = some { dst := some d, op := .load 36 x, type := ty, pos := pos, after := af, guard := gd }) (hg : GdOk ops a gd)
    (hx : a.eval x = .pointer (some ⟨p, o, none⟩)) (h0 : w.cell? ⟨p, o, none⟩ = some x0) (h1 : w.cell? ⟨p, o + 1, none⟩ = some x1) (h2 : w.cell? ⟨p, o + 2, none⟩ = some x2) (h3 : w.cell? ⟨p, o + 3, none⟩ = some x3) (hK : K (a.put (some d) (.agg #[x0, x1, x2, x3])) w) : wpOp Tryz.prog ops Q k K a w := by
  refine op_wpg ho hg ?_
  unfold Oper.wp
  simp only [execOp, hx, h0, h1, h2, h3]
  simp [go_sem, hx, h0, h1, h2, h3]
  exact hK
theorem o_allocQ {d : Tmp} {ty : TypeId} {pos : String} {af : Array Edge} {gd : Option (Nat × Bool)}  (ho : ops[k]? = some { dst := some d, op := .alloc 36, type := ty, pos := pos, after := af, guard := gd }) (hg : GdOk ops a gd)
     (hK : K (a.put (some d) (.pointer (some ⟨w.heap.size, 0, none⟩))) (w.alloc (.cells #[.bool false, .slice none 0 0, .bool false, .slice none 0 0] 36))) : wpOp Tryz.prog ops Q k K a w := by
  refine op_wpg ho hg ?_
  unfold Oper.wp
  simp only [execOp]
  simp [go_sem]
  exact hK
theorem o_store2 {kt : TypeId} {ty : TypeId} {pos : String} {af : Array Edge} {gd : Option (Nat × Bool)} {x y : Operand} {g : Nat} {tt : TypeId} {e : Bool} {A : Option Addr} {n c : Nat} {x0 y0 : Value} (hkt : kt = 24 ∨ kt = 34) (ho : ops[k]? = some { dst := none, op := .store kt x y, type := ty, pos := pos, after := af, guard := gd }) (hg : GdOk ops a gd)
    (hx : a.eval x = .pointer (some ⟨g, 0, none⟩)) (hy : a.eval y = .agg #[.bool e, .slice A n c]) (hB : Blk2 w g tt x0 y0) (hK : K a ((w.setCell ⟨g, 0, none⟩ (.bool e)).setCell ⟨g, 1, none⟩ (.slice A n c))) : wpOp Tryz.prog ops Q k K a w := by
  refine op_wpg ho hg ?_
  have c0 := hB.c0
  have c1 := hB.c1
  have f0 := hB.f0
  have f1 := hB.f1
  unfold Oper.wp
  rcases hkt with rfl | rfl
  · simp only [execOp, hx, hy]
    simp [go_sem, c0, c1, f0, f1]
    exact hK
  · simp only [execOp, hx, hy]
    simp [go_sem, c0, c1, f0, f1]
    exact hK
theorem o_store4 {kt : TypeId} {ty : TypeId} {pos : String} {af : Array Edge} {gd : Option (Nat × Bool)} {x y : Operand} {g : Nat} {tt : TypeId} {e e' : Bool} {A A' : Option Addr} {n c n' c' : Nat} {x0 y0 z0 u0 : Value} (hkt : kt = 42 ∨ kt = 36) (ho : ops[k]? = some { dst := none, op := .store kt x y, type := ty, pos := pos, after := af, guard := gd }) (hg : GdOk ops a gd)
    (hx : a.eval x = .pointer (some ⟨g, 0, none⟩)) (hy : a.eval y = .agg #[.bool e, .slice A n c, .bool e', .slice A' n' c']) (hB : Blk4 w g tt x0 y0 z0 u0) (hK : K a (set4 w g (.bool e) (.slice A n c) (.bool e') (.slice A' n' c'))) : wpOp Tryz.prog ops Q k K a w := by
  refine op_wpg ho hg ?_
  have c0 := hB.c0
  have c1 := hB.c1
  have c2 := hB.c2
  have c3 := hB.c3
  have f0 := hB.f0
  have f1 := hB.f1
  have f2 := hB.f2
  have f3 := hB.f3
  unfold Oper.wp
  rcases hkt with rfl | rfl
  · simp only [execOp, hx, hy]
    simp [go_sem, c0, c1, c2, c3, f0, f1, f2, f3]
    exact hK
  · simp only [execOp, hx, hy]
    simp [go_sem, c0, c1, c2, c3, f0, f1, f2, f3]
    exact hK
theorem o_indexG {d : Tmp} {ty : TypeId} {pos : String} {af : Array Edge} {gd : Option (Nat × Bool)} {x y : Operand} {g i n c : Nat} (ho : ops[k]? = some { dst := some d, op := .indexAddr 53 x y, type := ty, pos := pos, after := af, guard := gd }) (hg : GdOk ops a gd)
    (hx : a.eval x = .slice (some ⟨g, 0, none⟩) n c) (hy : a.eval y = .int .i64 i) (hi : i < n) (hK : K (a.put (some d) (.pointer (some ⟨g, i * 4, none⟩))) w) : wpOp Tryz.prog ops Q k K a w := by
  refine op_wpg ho hg ?_
  unfold Oper.wp
  simp only [execOp, hx, hy, hi]
  simp [go_sem, hx, hy, hi]
  exact hK
theorem o_indexQ {d : Tmp} {ty : TypeId} {pos : String} {af : Array Edge} {gd : Option (Nat × Bool)} {x y : Operand} {g i n c : Nat} (ho : ops[k]? = some { dst := some d, op := .indexAddr 65 x y, type := ty, pos := pos, after := af, guard := gd }) (hg : GdOk ops a gd)
    (hx : a.eval x = .slice (some ⟨g, 0, none⟩) n c) (hy : a.eval y = .int .i64 i) (hi : i < n) (hK : K (a.put (some d) (.pointer (some ⟨g, i * 4, none⟩))) w) : wpOp Tryz.prog ops Q k K a w := by
  refine op_wpg ho hg ?_
  unfold Oper.wp
  simp only [execOp, hx, hy, hi]
  simp [go_sem, hx, hy, hi]
  exact hK
theorem o_ext0 {d : Tmp} {ty : TypeId} {pos : String} {af : Array Edge} {gd : Option (Nat × Bool)} {x : Operand} {u v : Value} (ho : ops[k]? = some { dst := some d, op := .extract x 0, type := ty, pos := pos, after := af, guard := gd }) (hg : GdOk ops a gd)
    (hx : a.eval x = .tuple #[u, v]) (hK : K (a.put (some d) (u)) w) : wpOp Tryz.prog ops Q k K a w := by
  refine op_wpg ho hg ?_
  unfold Oper.wp
  simp only [execOp, hx]
  simp [go_sem, hx]
  exact hK
theorem o_ext1 {d : Tmp} {ty : TypeId} {pos : String} {af : Array Edge} {gd : Option (Nat × Bool)} {x : Operand} {u v : Value} (ho : ops[k]? = some { dst := some d, op := .extract x 1, type := ty, pos := pos, after := af, guard := gd }) (hg : GdOk ops a gd)
    (hx : a.eval x = .tuple #[u, v]) (hK : K (a.put (some d) (v)) w) : wpOp Tryz.prog ops Q k K a w := by
  refine op_wpg ho hg ?_
  unfold Oper.wp
  simp only [execOp, hx]
  simp [go_sem, hx]
  exact hK
theorem o_neg {d : Tmp} {ty : TypeId} {pos : String} {af : Array Edge} {gd : Option (Nat × Bool)} {x : Operand} {r : Int} (ho : ops[k]? = some { dst := some d, op := .unOp .neg 3 x, type := ty, pos := pos, after := af, guard := gd }) (hg : GdOk ops a gd)
    (hx : a.eval x = .int .i64 r) (hr : IntKind.i64.wrap (-r) = -r) (hK : K (a.put (some d) (.int .i64 (-r))) w) : wpOp Tryz.prog ops Q k K a w := by
  refine op_wpg ho hg ?_
  unfold Oper.wp
  simp only [execOp, hx, hr]
  simp [go_sem, hx, hr]
  exact hK
theorem o_pickT {d : Tmp} {ty : TypeId} {pos : String} {af : Array Edge} {gd : Option (Nat × Bool)} {c x y : Operand} {v : Value} (ho : ops[k]? = some { dst := some d, op := .pick c x y, type := ty, pos := pos, after := af, guard := gd }) (hg : GdOk ops a gd)
    (hc : a.eval c = .bool true) (hv : a.eval x = v) (hK : K (a.put (some d) (v)) w) : wpOp Tryz.prog ops Q k K a w := by
  refine op_wpg ho hg ?_
  unfold Oper.wp
  simp only [execOp, hc, hv]
  simp [go_sem, hc, hv]
  exact hK
theorem o_pickF {d : Tmp} {ty : TypeId} {pos : String} {af : Array Edge} {gd : Option (Nat × Bool)} {c x y : Operand} {v : Value} (ho : ops[k]? = some { dst := some d, op := .pick c x y, type := ty, pos := pos, after := af, guard := gd }) (hg : GdOk ops a gd)
    (hc : a.eval c = .bool false) (hv : a.eval y = v) (hK : K (a.put (some d) (v)) w) : wpOp Tryz.prog ops Q k K a w := by
  refine op_wpg ho hg ?_
  unfold Oper.wp
  simp only [execOp, hc, hv]
  simp [go_sem, hc, hv]
  exact hK
theorem o_eql {d : Tmp} {ty : TypeId} {pos : String} {af : Array Edge} {gd : Option (Nat × Bool)} {x y : Operand} {p q : Int} {r : Bool} (ho : ops[k]? = some { dst := some d, op := .binOp .eql 3 x y 3, type := ty, pos := pos, after := af, guard := gd }) (hg : GdOk ops a gd)
    (hx : a.eval x = .int .i64 p) (hy : a.eval y = .int .i64 q) (hr : (p == q) = r) (hK : K (a.put (some d) (.bool r)) w) : wpOp Tryz.prog ops Q k K a w := by
  refine op_wpg ho hg ?_
  unfold Oper.wp
  subst hr
  simp only [execOp, hx, hy]
  simp [go_sem, hx, hy]
  exact hK
theorem o_eqlE {d : Tmp} {ty : TypeId} {pos : String} {af : Array Edge} {gd : Option (Nat × Bool)} {x y : Operand} {p q : Int} {r : Bool} (ho : ops[k]? = some { dst := some d, op := .binOp .eql 37 x y 37, type := ty, pos := pos, after := af, guard := gd }) (hg : GdOk ops a gd)
    (hx : a.eval x = .int .i64 p) (hy : a.eval y = .int .i64 q) (hr : (p == q) = r) (hK : K (a.put (some d) (.bool r)) w) : wpOp Tryz.prog ops Q k K a w := by
  refine op_wpg ho hg ?_
  unfold Oper.wp
  subst hr
  simp only [execOp, hx, hy]
  simp [go_sem, hx, hy]
  exact hK
theorem o_neq {d : Tmp} {ty : TypeId} {pos : String} {af : Array Edge} {gd : Option (Nat × Bool)} {x y : Operand} {p q : Int} {r : Bool} (ho : ops[k]? = some { dst := some d, op := .binOp .neq 3 x y 3, type := ty, pos := pos, after := af, guard := gd }) (hg : GdOk ops a gd)
    (hx : a.eval x = .int .i64 p) (hy : a.eval y = .int .i64 q) (hr : (!(p == q)) = r) (hK : K (a.put (some d) (.bool r)) w) : wpOp Tryz.prog ops Q k K a w := by
  refine op_wpg ho hg ?_
  unfold Oper.wp
  subst hr
  simp only [execOp, hx, hy]
  simp [go_sem, hx, hy]
  exact hK
theorem o_leq {d : Tmp} {ty : TypeId} {pos : String} {af : Array Edge} {gd : Option (Nat × Bool)} {x y : Operand} {p q : Int} {r : Bool} (ho : ops[k]? = some { dst := some d, op := .binOp .leq 3 x y 3, type := ty, pos := pos, after := af, guard := gd }) (hg : GdOk ops a gd)
    (hx : a.eval x = .int .i64 p) (hy : a.eval y = .int .i64 q) (hr : (decide (p ≤ q)) = r) (hK : K (a.put (some d) (.bool r)) w) : wpOp Tryz.prog ops Q k K a w := by
  refine op_wpg ho hg ?_
  unfold Oper.wp
  subst hr
  simp only [execOp, hx, hy]
  simp [go_sem, hx, hy]
  exact hK
theorem o_gtr {d : Tmp} {ty : TypeId} {pos : String} {af : Array Edge} {gd : Option (Nat × Bool)} {x y : Operand} {p q : Int} {r : Bool} (ho : ops[k]? = some { dst := some d, op := .binOp .gtr 3 x y 3, type := ty, pos := pos, after := af, guard := gd }) (hg : GdOk ops a gd)
    (hx : a.eval x = .int .i64 p) (hy : a.eval y = .int .i64 q) (hr : (decide (q < p)) = r) (hK : K (a.put (some d) (.bool r)) w) : wpOp Tryz.prog ops Q k K a w := by
  refine op_wpg ho hg ?_
  unfold Oper.wp
  subst hr
  simp only [execOp, hx, hy]
  simp [go_sem, hx, hy]
  exact hK
theorem o_bneq {d : Tmp} {ty : TypeId} {pos : String} {af : Array Edge} {gd : Option (Nat × Bool)} {x y : Operand} {p q : Bool} {r : Bool} (ho : ops[k]? = some { dst := some d, op := .binOp .neq 4 x y 4, type := ty, pos := pos, after := af, guard := gd }) (hg : GdOk ops a gd)
    (hx : a.eval x = .bool p) (hy : a.eval y = .bool q) (hr : (!(p == q)) = r) (hK : K (a.put (some d) (.bool r)) w) : wpOp Tryz.prog ops Q k K a w := by
  refine op_wpg ho hg ?_
  unfold Oper.wp
  subst hr
  simp only [execOp, hx, hy]
  simp [go_sem, hx, hy]
  exact hK
theorem o_call0 {d : Tmp} {ty : TypeId} {pos : String} {af : Array Edge} {gd : Option (Nat × Bool)} {f : FuncId} {ts : Array TypeId} (ho : ops[k]? = some { dst := some d, op := .call { callee := .value (.func f), args := #[], argTypes := ts }, type := ty, pos := pos, after := af, guard := gd }) (hg : GdOk ops a gd)
     (hf : ∀ args w, (callFunc f args).run Tryz.prog w = .ok (.enter f args) w) (hK : Calls Tryz.prog f #[] w fun e w' => ∃ v, e = .returned v ∧ K (a.put (some d) v) w') : wpOp Tryz.prog ops Q k K a w := by
  refine op_wpg ho hg ?_
  unfold Oper.wp
  have e : Array.map a.eval #[] = #[] := by simp only [List.map_toArray, List.map_cons, List.map_nil]
  have e2 : resolve a.eval { callee := .value (.func f), args := #[], argTypes := ts } ty = pure { target := .fn (.func f) #[], args := #[] } := by
    unfold resolve
    simp [e, Act.eval]
    rfl
  simp only [execOp, e2]
  simp [go_sem, hf]
  refine hK.mono ?_
  rintro e w' ⟨v, rfl, h⟩
  exact h
theorem o_call1 {d : Tmp} {ty : TypeId} {pos : String} {af : Array Edge} {gd : Option (Nat × Bool)} {x : Operand} {u : Value} {f : FuncId} {ts : Array TypeId} (ho : ops[k]? = some { dst := some d, op := .call { callee := .value (.func f), args := #[x], argTypes := ts }, type := ty, pos := pos, after := af, guard := gd }) (hg : GdOk ops a gd)
    (hx : a.eval x = u) (hf : ∀ args w, (callFunc f args).run Tryz.prog w = .ok (.enter f args) w) (hK : Calls Tryz.prog f #[u] w fun e w' => ∃ v, e = .returned v ∧ K (a.put (some d) v) w') : wpOp Tryz.prog ops Q k K a w := by
  refine op_wpg ho hg ?_
  unfold Oper.wp
  have e : Array.map a.eval #[x] = #[u] := by simp only [List.map_toArray, List.map_cons, List.map_nil, hx]
  have e2 : resolve a.eval { callee := .value (.func f), args := #[x], argTypes := ts } ty = pure { target := .fn (.func f) #[], args := #[u] } := by
    unfold resolve
    simp [e, Act.eval]
    rfl
  simp only [execOp, e2]
  simp [go_sem, hf]
  refine hK.mono ?_
  rintro e w' ⟨v, rfl, h⟩
  exact h
theorem o_call2 {d : Tmp} {ty : TypeId} {pos : String} {af : Array Edge} {gd : Option (Nat × Bool)} {x y : Operand} {u u' : Value} {f : FuncId} {ts : Array TypeId} (ho : ops[k]? = some { dst := some d, op := .call { callee := .value (.func f), args := #[x, y], argTypes := ts }, type := ty, pos := pos, after := af, guard := gd }) (hg : GdOk ops a gd)
    (hx : a.eval x = u) (hy : a.eval y = u') (hf : ∀ args w, (callFunc f args).run Tryz.prog w = .ok (.enter f args) w) (hK : Calls Tryz.prog f #[u, u'] w fun e w' => ∃ v, e = .returned v ∧ K (a.put (some d) v) w') : wpOp Tryz.prog ops Q k K a w := by
  refine op_wpg ho hg ?_
  unfold Oper.wp
  have e : Array.map a.eval #[x, y] = #[u, u'] := by simp only [List.map_toArray, List.map_cons, List.map_nil, hx, hy]
  have e2 : resolve a.eval { callee := .value (.func f), args := #[x, y], argTypes := ts } ty = pure { target := .fn (.func f) #[], args := #[u, u'] } := by
    unfold resolve
    simp [e, Act.eval]
    rfl
  simp only [execOp, e2]
  simp [go_sem, hf]
  refine hK.mono ?_
  rintro e w' ⟨v, rfl, h⟩
  exact h
theorem ev_t {t : Tmp} {v : Value} (h : a.tmps[t]? = some v) : a.eval (.tmp t) = v := by
  show a.tmps.getD t undef = v
  simp [h]
end
end Go.Proofs.YtocooajlfpngdaaGreatDoor
namespace Go.Proofs.YtocooajlfpngdaaGreatDoor
open Go.RowKit
set_option linter.unusedVariables false
set_option linter.unusedSimpArgs false

/-- element i of a row of fractions is x -/
def HoldEG (W : World) (g i : Nat) (x : Rat) (d : Bool) (A : Option Addr) (n c : Nat) (d' : Bool) (A' : Option Addr) (n' c' : Nat) : Prop := g < W.heap.size ∧ W.cell? ⟨g, i * 4, none⟩ = some (.bool d) ∧ W.cell? ⟨g, i * 4 + 1, none⟩ = some (.slice A n c) ∧ W.cell? ⟨g, i * 4 + 2, none⟩ = some (.bool d') ∧ W.cell? ⟨g, i * 4 + 3, none⟩ = some (.slice A' n' c') ∧ RepG W W.heap.size x (.agg #[.bool d, .slice A n c, .bool d', .slice A' n' c'])
def ArrG (W : World) (g : Nat) (L : List Rat) : Prop := g < W.heap.size ∧ ∀ i : Nat, i < L.length → ∃ d A n c d' A' n' c', HoldEG W g i (L[i]?.getD 0) d A n c d' A' n' c'
section
variable {W W' : World} {g i : Nat} {x : Rat} {d : Bool} {A : Option Addr} {n c : Nat} {d' : Bool} {A' : Option Addr} {n' c' : Nat} {L : List Rat}
theorem HoldEG.below (h : HoldEG W g i x d A n c d' A' n' c') (hb : Below W.heap.size W W') : HoldEG W' g i x d A n c d' A' n' c' :=
  ⟨Nat.lt_of_lt_of_le h.1 hb.size, (hb.cell (p := ⟨g, i * 4, none⟩) h.1).trans h.2.1, (hb.cell (p := ⟨g, i * 4 + 1, none⟩) h.1).trans h.2.2.1, (hb.cell (p := ⟨g, i * 4 + 2, none⟩) h.1).trans h.2.2.2.1, (hb.cell (p := ⟨g, i * 4 + 3, none⟩) h.1).trans h.2.2.2.2.1, h.2.2.2.2.2.step hb⟩
theorem HoldEG.c0 (h : HoldEG W g i x d A n c d' A' n' c') : W.cell? ⟨g, i * 4, none⟩ = some (.bool d) := h.2.1
theorem HoldEG.c1 (h : HoldEG W g i x d A n c d' A' n' c') : W.cell? ⟨g, i * 4 + 1, none⟩ = some (.slice A n c) := h.2.2.1
theorem HoldEG.c2 (h : HoldEG W g i x d A n c d' A' n' c') : W.cell? ⟨g, i * 4 + 2, none⟩ = some (.bool d') := h.2.2.2.1
theorem HoldEG.c3 (h : HoldEG W g i x d A n c d' A' n' c') : W.cell? ⟨g, i * 4 + 3, none⟩ = some (.slice A' n' c') := h.2.2.2.2.1
theorem HoldEG.rep (h : HoldEG W g i x d A n c d' A' n' c') : RepG W W.heap.size x (.agg #[.bool d, .slice A n c, .bool d', .slice A' n' c']) := h.2.2.2.2.2
theorem ArrG.below (h : ArrG W g L) (hb : Below W.heap.size W W') : ArrG W' g L := ⟨Nat.lt_of_lt_of_le h.1 hb.size, fun i hi => by
  obtain ⟨d, A, n, c, d', A', n', c', h1⟩ := h.2 i hi
  exact ⟨d, A, n, c, d', A', n', c', h1.below hb⟩⟩
theorem ArrG.get (h : ArrG W g L) (i : Nat) (hi : i < L.length) : ∃ d A n c d' A' n' c', HoldEG W g i (L[i]?.getD 0) d A n c d' A' n' c' := h.2 i hi
theorem HoldEG.off4 {G : Nat} {t : TypeId} {b0 b1 : Bool} {A0 A1 : Option Addr} {n0 k0 n1 k1 : Nat} {a1 a2 a3 a4 : Value} (h : HoldEG W g i x d A n c d' A' n' c') (hk : Blk4 W G t (.bool b0) (.slice A0 n0 k0) (.bool b1) (.slice A1 n1 k1)) (hne : g ≠ G) : HoldEG (set4 W G a1 a2 a3 a4) g i x d A n c d' A' n' c' :=
  ⟨by rw [set4_size]; exact h.1, cell_set4 h.2.1 hne, cell_set4 h.2.2.1 hne, cell_set4 h.2.2.2.1 hne, cell_set4 h.2.2.2.2.1 hne, by rw [set4_size]; exact h.2.2.2.2.2.stored4 hk⟩
theorem ArrG.off4 {G : Nat} {t : TypeId} {b0 b1 : Bool} {A0 A1 : Option Addr} {n0 k0 n1 k1 : Nat} {a1 a2 a3 a4 : Value} (h : ArrG W g L) (hk : Blk4 W G t (.bool b0) (.slice A0 n0 k0) (.bool b1) (.slice A1 n1 k1)) (hne : g ≠ G) : ArrG (set4 W G a1 a2 a3 a4) g L := ⟨by rw [set4_size]; exact h.1, fun i hi => by
  obtain ⟨d, A, n, c, d', A', n', c', h1⟩ := h.2 i hi
  exact ⟨d, A, n, c, d', A', n', c', h1.off4 hk hne⟩⟩
end
/-- element i of a row of fractions is x -/
def HoldEQ (W : World) (g i : Nat) (x : Rat) (d : Bool) (A : Option Addr) (n c : Nat) (d' : Bool) (A' : Option Addr) (n' c' : Nat) : Prop := g < W.heap.size ∧ W.cell? ⟨g, i * 4, none⟩ = some (.bool d) ∧ W.cell? ⟨g, i * 4 + 1, none⟩ = some (.slice A n c) ∧ W.cell? ⟨g, i * 4 + 2, none⟩ = some (.bool d') ∧ W.cell? ⟨g, i * 4 + 3, none⟩ = some (.slice A' n' c') ∧ RepF W W.heap.size x (.agg #[.bool d, .slice A n c, .bool d', .slice A' n' c'])
def ArrQ (W : World) (g : Nat) (L : List Rat) : Prop := g < W.heap.size ∧ ∀ i : Nat, i < L.length → ∃ d A n c d' A' n' c', HoldEQ W g i (L[i]?.getD 0) d A n c d' A' n' c'
section
variable {W W' : World} {g i : Nat} {x : Rat} {d : Bool} {A : Option Addr} {n c : Nat} {d' : Bool} {A' : Option Addr} {n' c' : Nat} {L : List Rat}
theorem HoldEQ.below (h : HoldEQ W g i x d A n c d' A' n' c') (hb : Below W.heap.size W W') : HoldEQ W' g i x d A n c d' A' n' c' :=
  ⟨Nat.lt_of_lt_of_le h.1 hb.size, (hb.cell (p := ⟨g, i * 4, none⟩) h.1).trans h.2.1, (hb.cell (p := ⟨g, i * 4 + 1, none⟩) h.1).trans h.2.2.1, (hb.cell (p := ⟨g, i * 4 + 2, none⟩) h.1).trans h.2.2.2.1, (hb.cell (p := ⟨g, i * 4 + 3, none⟩) h.1).trans h.2.2.2.2.1, h.2.2.2.2.2.step hb⟩
theorem HoldEQ.c0 (h : HoldEQ W g i x d A n c d' A' n' c') : W.cell? ⟨g, i * 4, none⟩ = some (.bool d) := h.2.1
theorem HoldEQ.c1 (h : HoldEQ W g i x d A n c d' A' n' c') : W.cell? ⟨g, i * 4 + 1, none⟩ = some (.slice A n c) := h.2.2.1
theorem HoldEQ.c2 (h : HoldEQ W g i x d A n c d' A' n' c') : W.cell? ⟨g, i * 4 + 2, none⟩ = some (.bool d') := h.2.2.2.1
theorem HoldEQ.c3 (h : HoldEQ W g i x d A n c d' A' n' c') : W.cell? ⟨g, i * 4 + 3, none⟩ = some (.slice A' n' c') := h.2.2.2.2.1
theorem HoldEQ.rep (h : HoldEQ W g i x d A n c d' A' n' c') : RepF W W.heap.size x (.agg #[.bool d, .slice A n c, .bool d', .slice A' n' c']) := h.2.2.2.2.2
theorem ArrQ.below (h : ArrQ W g L) (hb : Below W.heap.size W W') : ArrQ W' g L := ⟨Nat.lt_of_lt_of_le h.1 hb.size, fun i hi => by
  obtain ⟨d, A, n, c, d', A', n', c', h1⟩ := h.2 i hi
  exact ⟨d, A, n, c, d', A', n', c', h1.below hb⟩⟩
theorem ArrQ.get (h : ArrQ W g L) (i : Nat) (hi : i < L.length) : ∃ d A n c d' A' n' c', HoldEQ W g i (L[i]?.getD 0) d A n c d' A' n' c' := h.2 i hi
theorem HoldEQ.off4 {G : Nat} {t : TypeId} {b0 b1 : Bool} {A0 A1 : Option Addr} {n0 k0 n1 k1 : Nat} {a1 a2 a3 a4 : Value} (h : HoldEQ W g i x d A n c d' A' n' c') (hk : Blk4 W G t (.bool b0) (.slice A0 n0 k0) (.bool b1) (.slice A1 n1 k1)) (hne : g ≠ G) : HoldEQ (set4 W G a1 a2 a3 a4) g i x d A n c d' A' n' c' :=
  ⟨by rw [set4_size]; exact h.1, cell_set4 h.2.1 hne, cell_set4 h.2.2.1 hne, cell_set4 h.2.2.2.1 hne, cell_set4 h.2.2.2.2.1 hne, by rw [set4_size]; exact h.2.2.2.2.2.stored4 hk⟩
theorem ArrQ.off4 {G : Nat} {t : TypeId} {b0 b1 : Bool} {A0 A1 : Option Addr} {n0 k0 n1 k1 : Nat} {a1 a2 a3 a4 : Value} (h : ArrQ W g L) (hk : Blk4 W G t (.bool b0) (.slice A0 n0 k0) (.bool b1) (.slice A1 n1 k1)) (hne : g ≠ G) : ArrQ (set4 W G a1 a2 a3 a4) g L := ⟨by rw [set4_size]; exact h.1, fun i hi => by
  obtain ⟨d, A, n, c, d', A', n', c', h1⟩ := h.2 i hi
  exact ⟨d, A, n, c, d', A', n', c', h1.off4 hk hne⟩⟩
end
theorem ArrN.off4 {W : World} {g G : Nat} {L : List Int} {t : TypeId} {b0 b1 : Bool} {A0 A1 : Option Addr} {n0 k0 n1 k1 : Nat} {a1 a2 a3 a4 : Value} (h : ArrN W g L) (hk : Blk4 W G t (.bool b0) (.slice A0 n0 k0) (.bool b1) (.slice A1 n1 k1)) (hne : g ≠ G) : ArrN (set4 W G a1 a2 a3 a4) g L := ⟨by rw [set4_size]; exact h.1, fun i hi => by
  obtain ⟨d, A, n, c, h1, h2, h3⟩ := h.2 i hi
  exact ⟨d, A, n, c, cell_set4 h1 hne, cell_set4 h2 hne, by rw [set4_size]; exact RepN.stored4 h3 hk⟩⟩
theorem HoldE.rep {W : World} {g i : Nat} {z : Int} {d : Bool} {A : Option Addr} {n c : Nat} (h : HoldE W g i z d A n c) : RepN W W.heap.size z (.agg #[.bool d, .slice A n c]) := h.2.2.2
/-- a block of more than four cells is none of the region's boxes -/
theorem blk_ne {w : World} {g g' : Nat} {cs : Array Value} {t ty : TypeId} {x y z u : Value} (h : w.heap[g]? = some (.cells cs t (0, 0))) (hs : cs.size ≠ 4) (hk : Blk4 w g' ty x y z u) : g ≠ g' := by
  rintro rfl
  have h1 : w.heap[g]? = _ := hk
  rw [h] at h1
  cases h1
  simp at hs
/-- a row that the region has made -/
def IsRowN (L : List Int) (k : Nat) : Value → World → Prop := fun v w => ∃ g cs t, v = .slice (some ⟨g, 0, none⟩) k k ∧ w.heap[g]? = some (.cells cs t (0, 0)) ∧ cs.size ≠ 4 ∧ ArrN w g L
theorem IsRowN.stb4 (ty : TypeId) (L : List Int) (k : Nat) : Stb4 ty (IsRowN L k) := ⟨fun _ _ _ ⟨g, cs, t, e, h1, h2, h3⟩ b => ⟨g, cs, t, e, (b.block g h3.1).trans h1, h2, h3.below b⟩, fun _ _ _ _ _ _ _ _ _ _ _ _ _ _ _ ⟨g, cs, t, e, h1, h2, h3⟩ k => ⟨g, cs, t, e, (set4_heap _ _ _ _ _ _ _ (blk_ne h1 h2 k)).trans h1, h2, h3.off4 k (blk_ne h1 h2 k)⟩⟩
/-- a row that the region has made -/
def IsRowG (L : List Rat) (k : Nat) : Value → World → Prop := fun v w => ∃ g cs t, v = .slice (some ⟨g, 0, none⟩) k k ∧ w.heap[g]? = some (.cells cs t (0, 0)) ∧ cs.size ≠ 4 ∧ ArrG w g L
theorem IsRowG.stb4 (ty : TypeId) (L : List Rat) (k : Nat) : Stb4 ty (IsRowG L k) := ⟨fun _ _ _ ⟨g, cs, t, e, h1, h2, h3⟩ b => ⟨g, cs, t, e, (b.block g h3.1).trans h1, h2, h3.below b⟩, fun _ _ _ _ _ _ _ _ _ _ _ _ _ _ _ ⟨g, cs, t, e, h1, h2, h3⟩ k => ⟨g, cs, t, e, (set4_heap _ _ _ _ _ _ _ (blk_ne h1 h2 k)).trans h1, h2, h3.off4 k (blk_ne h1 h2 k)⟩⟩
theorem IsN.stb (ty : TypeId) (z : Int) : Stb ty (IsN z) := ⟨fun _ _ _ h b => RepN.step h b, fun _ _ _ _ _ _ _ _ _ h k => RepN.st h k⟩
theorem IsQ.stb (ty : TypeId) (x : Rat) : Stb ty (IsQ x) := ⟨fun _ _ _ h b => RepF.step h b, fun _ _ _ _ _ _ _ _ _ h k => RepF.st h k⟩
def IsIE (z er : Int) : Value → World → Prop := fun t w => ∃ v, t = .tuple #[v, .int .i64 er] ∧ RepI w w.heap.size z v
theorem IsIE.stb (ty : TypeId) (z er : Int) : Stb ty (IsIE z er) := ⟨fun _ _ _ ⟨v, h0, h1⟩ b => ⟨v, h0, h1.step b⟩, fun _ _ _ _ _ _ _ _ _ ⟨v, h0, h1⟩ k => ⟨v, h0, RepI.st h1 k⟩⟩
theorem ArrN.row3 {W : World} {z0 z1 z2 : Int} {d0 : Bool} {A0 : Option Addr} {n0 c0 : Nat} {d1 : Bool} {A1 : Option Addr} {n1 c1 : Nat} {d2 : Bool} {A2 : Option Addr} {n2 c2 : Nat} (h0 : RepN W W.heap.size z0 (.agg #[.bool d0, .slice A0 n0 c0])) (h1 : RepN W W.heap.size z1 (.agg #[.bool d1, .slice A1 n1 c1])) (h2 : RepN W W.heap.size z2 (.agg #[.bool d2, .slice A2 n2 c2])) : ArrN (W.alloc (.cells #[.bool d0, .slice A0 n0 c0, .bool d1, .slice A1 n1 c1, .bool d2, .slice A2 n2 c2] 24)) W.heap.size [z0, z1, z2] := by
  refine ⟨by rw [World.size_alloc]; omega, fun i hi => ?_⟩
  have hb := al_below W (.cells #[.bool d0, .slice A0 n0 c0, .bool d1, .slice A1 n1 c1, .bool d2, .slice A2 n2 c2] 24)
  have hn : (W.alloc (.cells #[.bool d0, .slice A0 n0 c0, .bool d1, .slice A1 n1 c1, .bool d2, .slice A2 n2 c2] 24)).heap[W.heap.size]? = some (.cells #[.bool d0, .slice A0 n0 c0, .bool d1, .slice A1 n1 c1, .bool d2, .slice A2 n2 c2] 24 (0, 0)) := World.alloc_heap_new _ _
  have hi' : i < 3 := hi
  have : i = 0 ∨ i = 1 ∨ i = 2 := by omega
  rcases this with rfl | rfl | rfl
  · exact ⟨_, _, _, _, cell_at hn rfl, cell_at hn rfl, h0.step hb⟩
  · exact ⟨_, _, _, _, cell_at hn rfl, cell_at hn rfl, h1.step hb⟩
  · exact ⟨_, _, _, _, cell_at hn rfl, cell_at hn rfl, h2.step hb⟩
/-- a row that an append in the region has made: its capacity is not told -/
def IsRowA (L : List Int) (k : Nat) : Value → World → Prop := fun v w => ∃ g c cs t, v = .slice (some ⟨g, 0, none⟩) k c ∧ w.heap[g]? = some (.cells cs t (0, 0)) ∧ cs.size ≠ 4 ∧ ArrN w g L
theorem IsRowA.stb4 (ty : TypeId) (L : List Int) (k : Nat) : Stb4 ty (IsRowA L k) := ⟨fun _ _ _ ⟨g, c, cs, t, e, h1, h2, h3⟩ b => ⟨g, c, cs, t, e, (b.block g h3.1).trans h1, h2, h3.below b⟩, fun _ _ _ _ _ _ _ _ _ _ _ _ _ _ _ ⟨g, c, cs, t, e, h1, h2, h3⟩ k => ⟨g, c, cs, t, e, (set4_heap _ _ _ _ _ _ _ (blk_ne h1 h2 k)).trans h1, h2, h3.off4 k (blk_ne h1 h2 k)⟩⟩
theorem holds_add {w : World} {g : Nat} {xs : List Value} (h : ∀ j u, xs[j]? = some u → w.cell? ⟨g, j, none⟩ = some u) : ∀ j u, xs[j]? = some u → w.cell? ((⟨g, 0, none⟩ : Addr).add j) = some u := by
  intro j u hu
  rw [show (⟨g, 0, none⟩ : Addr).add j = ⟨g, j, none⟩ by unfold Addr.add; split <;> simp_all]
  exact h j u hu
end Go.Proofs.YtocooajlfpngdaaGreatDoor
namespace Go.Proofs.YtocooajlfpngdaaGreatDoor
open Go.RowKit
set_option linter.unusedVariables false

/-- the state of such a region -/
structure StI5 (ops : Array Oper) (ty : TypeId) (cl : List Cls4) (a0 : Act) (w0 : World) (l : Array Bool) (a : Act) (w : World) : Prop where
  len : l.size = cl.length
  defers : a.defers = a0.defers
  size : a.tmps.size = a0.tmps.size
  same : ∀ t, some t ∉ cl.map Cls4.dst → a.tmps[t]? = a0.tmps[t]?
  below : Below w0.heap.size w0 w
  fact : ∀ k c, cl[k]? = some c → l.getD k false = true → Fact4 ty w0 a w c
  pend : ∀ (k : Nat) (c : Cls4) (d : Tmp), cl[k]? = some c → c.dst = some d → l.getD k false = false → a.tmps[d]? = a0.tmps[d]?
  clo : ∀ (k : Nat) (o : Oper), ops[k]? = some o → l.getD k false = true → ∀ e ∈ o.after, Region.binds .any e = true → l.getD e.on false = true
  apart : ∀ (k k' : Nat) (s s' : Tmp) (g : Nat), k ≠ k' → cl[k]? = some (.new s) → cl[k']? = some (.new s') → l.getD k false = true → l.getD k' false = true → a.tmps[s]? = some (.pointer (some ⟨g, 0, none⟩)) → a.tmps[s']? = some (.pointer (some ⟨g, 0, none⟩)) → False
/-- what is owed for one operation -/
def Owed5 (P : Program) (ops : Array Oper) (Q : Exit → Act → World → Prop) (ty : TypeId) (cl : List Cls4) (a0 : Act) (w0 : World) (k : Nat) : Cls4 → Prop
  | .val d F => ∀ (l : Array Bool) (a : Act) (w : World), StI5 ops ty cl a0 w0 l a w → l.getD k false = false → (∀ o, ops[k]? = some o → ∀ e ∈ o.after, Region.binds .any e = true → l.getD e.on false = true) → ∀ K : Act → World → Prop, (∀ v w', F v w' → Below w.heap.size w w' → K (a.put (some d) v) w') → wpOp P ops Q k K a w
  | .new d => ∀ (a : Act) (w : World) (K : Act → World → Prop), K (a.put (some d) (.pointer (some ⟨w.heap.size, 0, none⟩))) (w.alloc (.cells #[.bool false, .slice none 0 0, .bool false, .slice none 0 0] ty)) → wpOp P ops Q k K a w
  | .put s F => (∃ k' : Nat, cl[k']? = some (.new s)) ∧ ∀ (l : Array Bool) (a : Act) (w : World), StI5 ops ty cl a0 w0 l a w → l.getD k false = false → (∀ o, ops[k]? = some o → ∀ e ∈ o.after, Region.binds .any e = true → l.getD e.on false = true) →
      ∃ g e A n c e' A' n' c' e0 A0 n0 c0 e1 A1 n1 c1, a.tmps[s]? = some (.pointer (some ⟨g, 0, none⟩)) ∧ w0.heap.size ≤ g ∧ Blk4 w g ty (.bool e0) (.slice A0 n0 c0) (.bool e1) (.slice A1 n1 c1) ∧ F (.agg #[.bool e, .slice A n c, .bool e', .slice A' n' c']) w ∧
        ∀ K : Act → World → Prop, K a (set4 w g (.bool e) (.slice A n c) (.bool e') (.slice A' n' c')) → wpOp P ops Q k K a w
def OwedAll5 (P : Program) (ops : Array Oper) (Q : Exit → Act → World → Prop) (ty : TypeId) (cl : List Cls4) (a0 : Act) (w0 : World) : Nat → List Cls4 → Prop
  | _, [] => True
  | k, c :: r => Owed5 P ops Q ty cl a0 w0 k c ∧ OwedAll5 P ops Q ty cl a0 w0 (k + 1) r
theorem OwedAll5.get {P : Program} {ops : Array Oper} {Q : Exit → Act → World → Prop} {ty : TypeId} {cl : List Cls4} {a0 : Act} {w0 : World} : ∀ {L : List Cls4} {j : Nat}, OwedAll5 P ops Q ty cl a0 w0 j L → ∀ k c, L[k]? = some c → Owed5 P ops Q ty cl a0 w0 (j + k) c
  | [], _, _, k, c, h => by simp at h
  | x :: r, j, h, k, c, hc => by
    cases k with
    | zero =>
      simp at hc
      subst hc
      exact h.1
    | succ k =>
      have := OwedAll5.get h.2 k c (by simpa using hc)
      rwa [show j + 1 + k = j + (k + 1) by omega] at this
/-- a slot that the operation j writes, read by the operation k ahead of it -/
theorem StI5.old {ops : Array Oper} {ty : TypeId} {cl : List Cls4} {a0 : Act} {w0 : World} {l : Array Bool} {a : Act} {w : World} {k j : Nat} {d : Tmp} (h : StI5 ops ty cl a0 w0 l a w) (h0 : l.getD k false = false) (hd : (cl[j]?.bind Cls4.dst) = some d)
    (hj : ops[j]?.any (fun o => o.after.any (fun e => e.on == k && Region.binds .any e)) = true) : a.tmps[d]? = a0.tmps[d]? := by
  cases hc : cl[j]? with
  | none => rw [hc] at hd; cases hd
  | some c =>
    rw [hc] at hd
    refine h.pend j c d hc hd ?_
    cases hl : l.getD j false with
    | false => rfl
    | true =>
      exfalso
      cases ho : ops[j]? with
      | none => rw [ho] at hj; cases hj
      | some o =>
        rw [ho] at hj
        obtain ⟨i, hi, he⟩ := Array.any_eq_true.1 (show o.after.any (fun e => e.on == k && Region.binds .any e) = true by simpa using hj)
        have he' : o.after[i].on = k ∧ Region.binds .any o.after[i] = true := by simpa using he
        have := h.clo j o ho hl _ (Array.getElem_mem hi) he'.2
        rw [he'.1, h0] at this
        cases this
end Go.Proofs.YtocooajlfpngdaaGreatDoor
