/- Operations of a region with guards, by what their operands yield. · Rows of fractions; rows that a drawn region makes. -/
import Derived.Test.YtocooajlfpngdaaGreatDoorB44
import Derived.Test.YtocooajlfpngdaaGreatDoorB29
namespace Go.Proofs.YtocooajlfpngdaaGreatDoor
open Go.RowKit
set_option linter.unusedVariables false
set_option linter.unusedSimpArgs false
section
variable {P : Program} {ops : Array Oper} {Q : Exit → Act → World → Prop} {k : Nat} {K : Act → World → Prop} {a : Act} {w : World}
/-- the operation's guard lets it come up -/
def GdOk (ops : Array Oper) (a : Act) (gd : Option (Nat × Bool)) : Prop := ∀ j b, gd = some (j, b) → yielded ops a.tmps j = some b
theorem GdOk.none : GdOk ops a none := fun _ _ h => by cases h
theorem GdOk.of {j : Nat} {b : Bool} {oj : Oper} {d : Tmp} (hj : ops[j]? = some oj) (hd : oj.dst = some d) (hv : a.tmps[d]? = some (.bool b)) : GdOk ops a (some (j, b)) := by
  intro j' b' h
  cases h
  unfold yielded
  rw [hj]
  simp [hd, hv]
theorem op_wpg {o : Oper} (ho : ops[k]? = some o) (hg : GdOk ops a o.guard) (h : o.wp P a w K Q) : wpOp P ops Q k K a w := by
  unfold wpOp
  rw [ho]
  have hw : Region.wanted o (yielded ops a.tmps) = true := by
    unfold Region.wanted
    cases hgd : o.guard with
    | none => rfl
    | some p =>
      obtain ⟨j, b⟩ := p
      simp [hg j b hgd]
  simp only [hw, if_true]
  exact .inl h
theorem o_move {d : Tmp} {ty : TypeId} {pos : String} {af : Array Edge} {gd : Option (Nat × Bool)} {x : Operand} {v : Value} (ho : ops[k]? = some { dst := some d, op := .move x, type := ty, pos := pos, after := af, guard := gd }) (hg : GdOk ops a gd)
    (hx : a.eval x = v) (hK : K (a.put (some d) (v)) w) : wpOp Tryz.prog ops Q k K a w := by
  refine op_wpg ho hg ?_
  unfold Oper.wp
  simp only [execOp, hx]
  simp [go_sem, hx]
  exact hK
theorem o_assign {d : Tmp} {ty : TypeId} {pos : String} {af : Array Edge} {gd : Option (Nat × Bool)} {x : Operand} {v : Value} (ho : ops[k]? = some { dst := some d, op := .assign x, type := ty, pos := pos, after := af, guard := gd }) (hg : GdOk ops a gd)
    (hx : a.eval x = v) (hK : K (a.put (some d) (v)) w) : wpOp Tryz.prog ops Q k K a w := by
  refine op_wpg ho hg ?_
  unfold Oper.wp
  simp only [execOp, hx]
  simp [go_sem, hx]
  exact hK
theorem o_loadN {d : Tmp} {ty : TypeId} {pos : String} {af : Array Edge} {gd : Option (Nat × Bool)} {x : Operand} {p o : Nat} {x0 x1 : Value} (ho : ops[k]? = some { dst := some d, op := .load 24 x, type := ty, pos := pos, after := af, guard := gd }) (hg : GdOk ops a gd)
    (hx : a.eval x = .pointer (some ⟨p, o, none⟩)) (h0 : w.cell? ⟨p, o, none⟩ = some x0) (h1 : w.cell? ⟨p, o + 1, none⟩ = some x1) (hK : K (a.put (some d) (.agg #[x0, x1])) w) : wpOp Tryz.prog ops Q k K a w := by
  refine op_wpg ho hg ?_
  unfold Oper.wp
  simp only [execOp, hx, h0, h1]
  simp [go_sem, hx, h0, h1]
  exact hK
theorem o_allocN {d : Tmp} {ty : TypeId} {pos : String} {af : Array Edge} {gd : Option (Nat × Bool)}  (ho : ops[k]? = some { dst := some d, op := .alloc 24, type := ty, pos := pos, after := af, guard := gd }) (hg : GdOk ops a gd)
     (hK : K (a.put (some d) (.pointer (some ⟨w.heap.size, 0, none⟩))) (w.alloc (.cells #[.bool false, .slice none 0 0] 24))) : wpOp Tryz.prog ops Q k K a w := by
  refine op_wpg ho hg ?_
  unfold Oper.wp
  simp only [execOp]
  simp [go_sem]
  exact hK
theorem o_loadG {d : Tmp} {ty : TypeId} {pos : String} {af : Array Edge} {gd : Option (Nat × Bool)} {x : Operand} {p o : Nat} {x0 x1 x2 x3 : Value} (ho : ops[k]? = some { dst := some d, op := .load 42 x, type := ty, pos := pos, after := af, guard := gd }) (hg : GdOk ops a gd)
    (hx : a.eval x = .pointer (some ⟨p, o, none⟩)) (h0 : w.cell? ⟨p, o, none⟩ = some x0) (h1 : w.cell? ⟨p, o + 1, none⟩ = some x1) (h2 : w.cell? ⟨p, o + 2, none⟩ = some x2) (h3 : w.cell? ⟨p, o + 3, none⟩ = some x3) (hK : K (a.put (some d) (.agg #[x0, x1, x2, x3])) w) : wpOp Tryz.prog ops Q k K a w := by
  refine op_wpg ho hg ?_
  unfold Oper.wp
  simp only [execOp, hx, h0, h1, h2, h3]
  simp [go_sem, hx, h0, h1, h2, h3]
  exact hK
theorem o_allocG {d : Tmp} {ty : TypeId} {pos : String} {af : Array Edge} {gd : Option (Nat × Bool)}  (ho : ops[k]? = some { dst := some d, op := .alloc 42, type := ty, pos := pos, after := af, guard := gd }) (hg : GdOk ops a gd)
     (hK : K (a.put (some d) (.pointer (some ⟨w.heap.size, 0, none⟩))) (w.alloc (.cells #[.bool false, .slice none 0 0, .bool false, .slice none 0 0] 42))) : wpOp Tryz.prog ops Q k K a w := by
  refine op_wpg ho hg ?_
  unfold Oper.wp
  simp only [execOp]
  simp [go_sem]
  exact hK
theorem o_loadQ {d : Tmp} {ty : TypeId} {pos : String} {af : Array Edge} {gd : Option (Nat × Bool)} {x : Operand} {p o : Nat} {x0 x1 x2 x3 : Value} (ho : ops[k]? = some { dst := some d, op := .load 36 x, type := ty, pos := pos, after := af, guard := gd }) (hg : GdOk ops a gd)
    (hx : a.eval x = .pointer (some ⟨p, o, none⟩)) (h0 : w.cell? ⟨p, o, none⟩ = some x0) (h1 : w.cell? ⟨p, o + 1, none⟩ = some x1) (h2 : w.cell? ⟨p, o + 2, none⟩ = some x2) (h3 : w.cell? ⟨p, o + 3, none⟩ = some x3) (hK : K (a.put (some d) (.agg #[x0, x1, x2, x3])) w) : wpOp Tryz.prog ops Q k K a w := by
  refine op_wpg ho hg ?_
  unfold Oper.wp
  simp only [execOp, hx, h0, h1, h2, h3]
  simp [go_sem, hx, h0, h1, h2, h3]
  exact hK
theorem o_allocQ {d : Tmp} {ty : TypeId} {pos : String} {af : Array Edge} {gd : Option (Nat × Bool)}  (ho : ops[k]? = some { dst := some d, op := .alloc 36, type := ty, pos := pos, after := af, guard := gd }) (hg : GdOk ops a gd)
     (hK : K (a.put (some d) (.pointer (some ⟨w.heap.size, 0, none⟩))) (w.alloc (.cells #[.bool false, .slice none 0 0, .bool false, .slice none 0 0] 36))) : wpOp Tryz.prog ops Q k K a w := by
  refine op_wpg ho hg ?_
  unfold Oper.wp
  simp only [execOp]
  simp [go_sem]
  exact hK
theorem o_store2 {kt : TypeId} {ty : TypeId} {pos : String} {af : Array Edge} {gd : Option (Nat × Bool)} {x y : Operand} {g : Nat} {tt : TypeId} {e : Bool} {A : Option Addr} {n c : Nat} {x0 y0 : Value} (hkt : kt = 24 ∨ kt = 34) (ho : ops[k]? = some { dst := none, op := .store kt x y, type := ty, pos := pos, after := af, guard := gd }) (hg : GdOk ops a gd)
    (hx : a.eval x = .pointer (some ⟨g, 0, none⟩)) (hy : a.eval y = .agg #[.bool e, .slice A n c]) (hB : Blk2 w g tt x0 y0) (hK : K a ((w.setCell ⟨g, 0, none⟩ (.bool e)).setCell ⟨g, 1, none⟩ (.slice A n c))) : wpOp Tryz.prog ops Q k K a w := by
  refine op_wpg ho hg ?_
  have c0 := hB.c0
  have c1 := hB.c1
  have f0 := hB.f0
  have f1 := hB.f1
  unfold Oper.wp
  rcases hkt with rfl | rfl
  · simp only [execOp, hx, hy]
    simp [go_sem, c0, c1, f0, f1]
    exact hK
  · simp only [execOp, hx, hy]
    simp [go_sem, c0, c1, f0, f1]
    exact hK
theorem o_store4 {kt : TypeId} {ty : TypeId} {pos : String} {af : Array Edge} {gd : Option (Nat × Bool)} {x y : Operand} {g : Nat} {tt : TypeId} {e e' : Bool} {A A' : Option Addr} {n c n' c' : Nat} {x0 y0 z0 u0 : Value} (hkt : kt = 42 ∨ kt = 36) (ho : ops[k]? = some { dst := none, op := .store kt x y, type := ty, pos := pos, after := af, guard := gd }) (hg : GdOk ops a gd)
    (hx : a.eval x = .pointer (some ⟨g, 0, none⟩)) (hy : a.eval y = .agg #[.bool e, .slice A n c, .bool e', .slice A' n' c']) (hB : Blk4 w g tt x0 y0 z0 u0) (hK : K a (set4 w g (.bool e) (.slice A n c) (.bool e') (.slice A' n' c'))) : wpOp Tryz.prog ops Q k K a w := by
  refine op_wpg ho hg ?_
  have c0 := hB.c0
  have c1 := hB.c1
  have c2 := hB.c2
  have c3 := hB.c3
  have f0 := hB.f0
  have f1 := hB.f1
  have f2 := hB.f2
  have f3 := hB.f3
  unfold Oper.wp
  rcases hkt with rfl | rfl
  · simp only [execOp, hx, hy]
    simp [go_sem, c0, c1, c2, c3, f0, f1, f2, f3]
    exact hK
  · simp only [execOp, hx, hy]
    simp [go_sem, c0, c1, c2, c3, f0, f1, f2, f3]
    exact hK
theorem o_indexN {d : Tmp} {ty : TypeId} {pos : String} {af : Array Edge} {gd : Option (Nat × Bool)} {x y : Operand} {g i n c : Nat} (ho : ops[k]? = some { dst := some d, op := .indexAddr 30 x y, type := ty, pos := pos, after := af, guard := gd }) (hg : GdOk ops a gd)
    (hx : a.eval x = .slice (some ⟨g, 0, none⟩) n c) (hy : a.eval y = .int .i64 i) (hi : i < n) (hK : K (a.put (some d) (.pointer (some ⟨g, i * 2, none⟩))) w) : wpOp Tryz.prog ops Q k K a w := by
  refine op_wpg ho hg ?_
  unfold Oper.wp
  simp only [execOp, hx, hy, hi]
  simp [go_sem, hx, hy, hi]
  exact hK
theorem o_indexG {d : Tmp} {ty : TypeId} {pos : String} {af : Array Edge} {gd : Option (Nat × Bool)} {x y : Operand} {g i n c : Nat} (ho : ops[k]? = some { dst := some d, op := .indexAddr 53 x y, type := ty, pos := pos, after := af, guard := gd }) (hg : GdOk ops a gd)
    (hx : a.eval x = .slice (some ⟨g, 0, none⟩) n c) (hy : a.eval y = .int .i64 i) (hi : i < n) (hK : K (a.put (some d) (.pointer (some ⟨g, i * 4, none⟩))) w) : wpOp Tryz.prog ops Q k K a w := by
  refine op_wpg ho hg ?_
  unfold Oper.wp
  simp only [execOp, hx, hy, hi]
  simp [go_sem, hx, hy, hi]
  exact hK
theorem o_ext0 {d : Tmp} {ty : TypeId} {pos : String} {af : Array Edge} {gd : Option (Nat × Bool)} {x : Operand} {u v : Value} (ho : ops[k]? = some { dst := some d, op := .extract x 0, type := ty, pos := pos, after := af, guard := gd }) (hg : GdOk ops a gd)
    (hx : a.eval x = .tuple #[u, v]) (hK : K (a.put (some d) (u)) w) : wpOp Tryz.prog ops Q k K a w := by
  refine op_wpg ho hg ?_
  unfold Oper.wp
  simp only [execOp, hx]
  simp [go_sem, hx]
  exact hK
theorem o_ext1 {d : Tmp} {ty : TypeId} {pos : String} {af : Array Edge} {gd : Option (Nat × Bool)} {x : Operand} {u v : Value} (ho : ops[k]? = some { dst := some d, op := .extract x 1, type := ty, pos := pos, after := af, guard := gd }) (hg : GdOk ops a gd)
    (hx : a.eval x = .tuple #[u, v]) (hK : K (a.put (some d) (v)) w) : wpOp Tryz.prog ops Q k K a w := by
  refine op_wpg ho hg ?_
  unfold Oper.wp
  simp only [execOp, hx]
  simp [go_sem, hx]
  exact hK
theorem o_call1 {d : Tmp} {ty : TypeId} {pos : String} {af : Array Edge} {gd : Option (Nat × Bool)} {x : Operand} {u : Value} {f : FuncId} {ts : Array TypeId} (ho : ops[k]? = some { dst := some d, op := .call { callee := .value (.func f), args := #[x], argTypes := ts }, type := ty, pos := pos, after := af, guard := gd }) (hg : GdOk ops a gd)
    (hx : a.eval x = u) (hf : ∀ args w, (callFunc f args).run Tryz.prog w = .ok (.enter f args) w) (hK : Calls Tryz.prog f #[u] w fun e w' => ∃ v, e = .returned v ∧ K (a.put (some d) v) w') : wpOp Tryz.prog ops Q k K a w := by
  refine op_wpg ho hg ?_
  unfold Oper.wp
  have e : Array.map a.eval #[x] = #[u] := by simp only [List.map_toArray, List.map_cons, List.map_nil, hx]
  have e2 : resolve a.eval { callee := .value (.func f), args := #[x], argTypes := ts } ty = pure { target := .fn (.func f) #[], args := #[u] } := by
    unfold resolve
    simp [e, Act.eval]
    rfl
  simp only [execOp, e2]
  simp [go_sem, hf]
  refine hK.mono ?_
  rintro e w' ⟨v, rfl, h⟩
  exact h
theorem o_call2 {d : Tmp} {ty : TypeId} {pos : String} {af : Array Edge} {gd : Option (Nat × Bool)} {x y : Operand} {u u' : Value} {f : FuncId} {ts : Array TypeId} (ho : ops[k]? = some { dst := some d, op := .call { callee := .value (.func f), args := #[x, y], argTypes := ts }, type := ty, pos := pos, after := af, guard := gd }) (hg : GdOk ops a gd)
    (hx : a.eval x = u) (hy : a.eval y = u') (hf : ∀ args w, (callFunc f args).run Tryz.prog w = .ok (.enter f args) w) (hK : Calls Tryz.prog f #[u, u'] w fun e w' => ∃ v, e = .returned v ∧ K (a.put (some d) v) w') : wpOp Tryz.prog ops Q k K a w := by
  refine op_wpg ho hg ?_
  unfold Oper.wp
  have e : Array.map a.eval #[x, y] = #[u, u'] := by simp only [List.map_toArray, List.map_cons, List.map_nil, hx, hy]
  have e2 : resolve a.eval { callee := .value (.func f), args := #[x, y], argTypes := ts } ty = pure { target := .fn (.func f) #[], args := #[u, u'] } := by
    unfold resolve
    simp [e, Act.eval]
    rfl
  simp only [execOp, e2]
  simp [go_sem, hf]
  refine hK.mono ?_
  rintro e w' ⟨v, rfl, h⟩
  exact h
theorem ev_t {t : Tmp} {v : Value} (h : a.tmps[t]? = some v) : a.eval (.tmp t) = v := by
  show a.tmps.getD t undef = v
  simp [h]
end
end Go.Proofs.YtocooajlfpngdaaGreatDoor
namespace Go.Proofs.YtocooajlfpngdaaGreatDoor
open Go.RowKit
set_option linter.unusedVariables false
set_option linter.unusedSimpArgs false

/-- element i of a row of fractions is x -/
def HoldEG (W : World) (g i : Nat) (x : Rat) (d : Bool) (A : Option Addr) (n c : Nat) (d' : Bool) (A' : Option Addr) (n' c' : Nat) : Prop := g < W.heap.size ∧ W.cell? ⟨g, i * 4, none⟩ = some (.bool d) ∧ W.cell? ⟨g, i * 4 + 1, none⟩ = some (.slice A n c) ∧ W.cell? ⟨g, i * 4 + 2, none⟩ = some (.bool d') ∧ W.cell? ⟨g, i * 4 + 3, none⟩ = some (.slice A' n' c') ∧ RepG W W.heap.size x (.agg #[.bool d, .slice A n c, .bool d', .slice A' n' c'])
def ArrG (W : World) (g : Nat) (L : List Rat) : Prop := g < W.heap.size ∧ ∀ i : Nat, i < L.length → ∃ d A n c d' A' n' c', HoldEG W g i (L[i]?.getD 0) d A n c d' A' n' c'
section
variable {W W' : World} {g i : Nat} {x : Rat} {d : Bool} {A : Option Addr} {n c : Nat} {d' : Bool} {A' : Option Addr} {n' c' : Nat} {L : List Rat}
theorem HoldEG.below (h : HoldEG W g i x d A n c d' A' n' c') (hb : Below W.heap.size W W') : HoldEG W' g i x d A n c d' A' n' c' :=
  ⟨Nat.lt_of_lt_of_le h.1 hb.size, (hb.cell (p := ⟨g, i * 4, none⟩) h.1).trans h.2.1, (hb.cell (p := ⟨g, i * 4 + 1, none⟩) h.1).trans h.2.2.1, (hb.cell (p := ⟨g, i * 4 + 2, none⟩) h.1).trans h.2.2.2.1, (hb.cell (p := ⟨g, i * 4 + 3, none⟩) h.1).trans h.2.2.2.2.1, h.2.2.2.2.2.step hb⟩
theorem HoldEG.c0 (h : HoldEG W g i x d A n c d' A' n' c') : W.cell? ⟨g, i * 4, none⟩ = some (.bool d) := h.2.1
theorem HoldEG.c1 (h : HoldEG W g i x d A n c d' A' n' c') : W.cell? ⟨g, i * 4 + 1, none⟩ = some (.slice A n c) := h.2.2.1
theorem HoldEG.c2 (h : HoldEG W g i x d A n c d' A' n' c') : W.cell? ⟨g, i * 4 + 2, none⟩ = some (.bool d') := h.2.2.2.1
theorem HoldEG.c3 (h : HoldEG W g i x d A n c d' A' n' c') : W.cell? ⟨g, i * 4 + 3, none⟩ = some (.slice A' n' c') := h.2.2.2.2.1
theorem HoldEG.rep (h : HoldEG W g i x d A n c d' A' n' c') : RepG W W.heap.size x (.agg #[.bool d, .slice A n c, .bool d', .slice A' n' c']) := h.2.2.2.2.2
theorem ArrG.below (h : ArrG W g L) (hb : Below W.heap.size W W') : ArrG W' g L := ⟨Nat.lt_of_lt_of_le h.1 hb.size, fun i hi => by
  obtain ⟨d, A, n, c, d', A', n', c', h1⟩ := h.2 i hi
  exact ⟨d, A, n, c, d', A', n', c', h1.below hb⟩⟩
theorem ArrG.get (h : ArrG W g L) (i : Nat) (hi : i < L.length) : ∃ d A n c d' A' n' c', HoldEG W g i (L[i]?.getD 0) d A n c d' A' n' c' := h.2 i hi
theorem HoldEG.off4 {G : Nat} {t : TypeId} {b0 b1 : Bool} {A0 A1 : Option Addr} {n0 k0 n1 k1 : Nat} {a1 a2 a3 a4 : Value} (h : HoldEG W g i x d A n c d' A' n' c') (hk : Blk4 W G t (.bool b0) (.slice A0 n0 k0) (.bool b1) (.slice A1 n1 k1)) (hne : g ≠ G) : HoldEG (set4 W G a1 a2 a3 a4) g i x d A n c d' A' n' c' :=
  ⟨by rw [set4_size]; exact h.1, cell_set4 h.2.1 hne, cell_set4 h.2.2.1 hne, cell_set4 h.2.2.2.1 hne, cell_set4 h.2.2.2.2.1 hne, by rw [set4_size]; exact h.2.2.2.2.2.stored4 hk⟩
theorem ArrG.off4 {G : Nat} {t : TypeId} {b0 b1 : Bool} {A0 A1 : Option Addr} {n0 k0 n1 k1 : Nat} {a1 a2 a3 a4 : Value} (h : ArrG W g L) (hk : Blk4 W G t (.bool b0) (.slice A0 n0 k0) (.bool b1) (.slice A1 n1 k1)) (hne : g ≠ G) : ArrG (set4 W G a1 a2 a3 a4) g L := ⟨by rw [set4_size]; exact h.1, fun i hi => by
  obtain ⟨d, A, n, c, d', A', n', c', h1⟩ := h.2 i hi
  exact ⟨d, A, n, c, d', A', n', c', h1.off4 hk hne⟩⟩
end
/-- element i of a row of fractions is x -/
def HoldEQ (W : World) (g i : Nat) (x : Rat) (d : Bool) (A : Option Addr) (n c : Nat) (d' : Bool) (A' : Option Addr) (n' c' : Nat) : Prop := g < W.heap.size ∧ W.cell? ⟨g, i * 4, none⟩ = some (.bool d) ∧ W.cell? ⟨g, i * 4 + 1, none⟩ = some (.slice A n c) ∧ W.cell? ⟨g, i * 4 + 2, none⟩ = some (.bool d') ∧ W.cell? ⟨g, i * 4 + 3, none⟩ = some (.slice A' n' c') ∧ RepF W W.heap.size x (.agg #[.bool d, .slice A n c, .bool d', .slice A' n' c'])
def ArrQ (W : World) (g : Nat) (L : List Rat) : Prop := g < W.heap.size ∧ ∀ i : Nat, i < L.length → ∃ d A n c d' A' n' c', HoldEQ W g i (L[i]?.getD 0) d A n c d' A' n' c'
section
variable {W W' : World} {g i : Nat} {x : Rat} {d : Bool} {A : Option Addr} {n c : Nat} {d' : Bool} {A' : Option Addr} {n' c' : Nat} {L : List Rat}
theorem HoldEQ.below (h : HoldEQ W g i x d A n c d' A' n' c') (hb : Below W.heap.size W W') : HoldEQ W' g i x d A n c d' A' n' c' :=
  ⟨Nat.lt_of_lt_of_le h.1 hb.size, (hb.cell (p := ⟨g, i * 4, none⟩) h.1).trans h.2.1, (hb.cell (p := ⟨g, i * 4 + 1, none⟩) h.1).trans h.2.2.1, (hb.cell (p := ⟨g, i * 4 + 2, none⟩) h.1).trans h.2.2.2.1, (hb.cell (p := ⟨g, i * 4 + 3, none⟩) h.1).trans h.2.2.2.2.1, h.2.2.2.2.2.step hb⟩
theorem HoldEQ.c0 (h : HoldEQ W g i x d A n c d' A' n' c') : W.cell? ⟨g, i * 4, none⟩ = some (.bool d) := h.2.1
theorem HoldEQ.c1 (h : HoldEQ W g i x d A n c d' A' n' c') : W.cell? ⟨g, i * 4 + 1, none⟩ = some (.slice A n c) := h.2.2.1
theorem HoldEQ.c2 (h : HoldEQ W g i x d A n c d' A' n' c') : W.cell? ⟨g, i * 4 + 2, none⟩ = some (.bool d') := h.2.2.2.1
theorem HoldEQ.c3 (h : HoldEQ W g i x d A n c d' A' n' c') : W.cell? ⟨g, i * 4 + 3, none⟩ = some (.slice A' n' c') := h.2.2.2.2.1
theorem HoldEQ.rep (h : HoldEQ W g i x d A n c d' A' n' c') : RepF W W.heap.size x (.agg #[.bool d, .slice A n c, .bool d', .slice A' n' c']) := h.2.2.2.2.2
theorem ArrQ.below (h : ArrQ W g L) (hb : Below W.heap.size W W') : ArrQ W' g L := ⟨Nat.lt_of_lt_of_le h.1 hb.size, fun i hi => by
  obtain ⟨d, A, n, c, d', A', n', c', h1⟩ := h.2 i hi
  exact ⟨d, A, n, c, d', A', n', c', h1.below hb⟩⟩
theorem ArrQ.get (h : ArrQ W g L) (i : Nat) (hi : i < L.length) : ∃ d A n c d' A' n' c', HoldEQ W g i (L[i]?.getD 0) d A n c d' A' n' c' := h.2 i hi
theorem HoldEQ.off4 {G : Nat} {t : TypeId} {b0 b1 : Bool} {A0 A1 : Option Addr} {n0 k0 n1 k1 : Nat} {a1 a2 a3 a4 : Value} (h : HoldEQ W g i x d A n c d' A' n' c') (hk : Blk4 W G t (.bool b0) (.slice A0 n0 k0) (.bool b1) (.slice A1 n1 k1)) (hne : g ≠ G) : HoldEQ (set4 W G a1 a2 a3 a4) g i x d A n c d' A' n' c' :=
  ⟨by rw [set4_size]; exact h.1, cell_set4 h.2.1 hne, cell_set4 h.2.2.1 hne, cell_set4 h.2.2.2.1 hne, cell_set4 h.2.2.2.2.1 hne, by rw [set4_size]; exact h.2.2.2.2.2.stored4 hk⟩
theorem ArrQ.off4 {G : Nat} {t : TypeId} {b0 b1 : Bool} {A0 A1 : Option Addr} {n0 k0 n1 k1 : Nat} {a1 a2 a3 a4 : Value} (h : ArrQ W g L) (hk : Blk4 W G t (.bool b0) (.slice A0 n0 k0) (.bool b1) (.slice A1 n1 k1)) (hne : g ≠ G) : ArrQ (set4 W G a1 a2 a3 a4) g L := ⟨by rw [set4_size]; exact h.1, fun i hi => by
  obtain ⟨d, A, n, c, d', A', n', c', h1⟩ := h.2 i hi
  exact ⟨d, A, n, c, d', A', n', c', h1.off4 hk hne⟩⟩
end
theorem ArrN.off4 {W : World} {g G : Nat} {L : List Int} {t : TypeId} {b0 b1 : Bool} {A0 A1 : Option Addr} {n0 k0 n1 k1 : Nat} {a1 a2 a3 a4 : Value} (h : ArrN W g L) (hk : Blk4 W G t (.bool b0) (.slice A0 n0 k0) (.bool b1) (.slice A1 n1 k1)) (hne : g ≠ G) : ArrN (set4 W G a1 a2 a3 a4) g L := ⟨by rw [set4_size]; exact h.1, fun i hi => by
  obtain ⟨d, A, n, c, h1, h2, h3⟩ := h.2 i hi
  exact ⟨d, A, n, c, cell_set4 h1 hne, cell_set4 h2 hne, by rw [set4_size]; exact RepN.stored4 h3 hk⟩⟩
theorem HoldE.rep {W : World} {g i : Nat} {z : Int} {d : Bool} {A : Option Addr} {n c : Nat} (h : HoldE W g i z d A n c) : RepN W W.heap.size z (.agg #[.bool d, .slice A n c]) := h.2.2.2
/-- a block of more than four cells is none of the region's boxes -/
theorem blk_ne {w : World} {g g' : Nat} {cs : Array Value} {t ty : TypeId} {x y z u : Value} (h : w.heap[g]? = some (.cells cs t (0, 0))) (hs : cs.size ≠ 4) (hk : Blk4 w g' ty x y z u) : g ≠ g' := by
  rintro rfl
  have h1 : w.heap[g]? = _ := hk
  rw [h] at h1
  cases h1
  simp at hs
/-- a row that the region has made -/
def IsRowN (L : List Int) (k : Nat) : Value → World → Prop := fun v w => ∃ g cs t, v = .slice (some ⟨g, 0, none⟩) k k ∧ w.heap[g]? = some (.cells cs t (0, 0)) ∧ cs.size ≠ 4 ∧ ArrN w g L
theorem IsRowN.stb4 (ty : TypeId) (L : List Int) (k : Nat) : Stb4 ty (IsRowN L k) := ⟨fun _ _ _ ⟨g, cs, t, e, h1, h2, h3⟩ b => ⟨g, cs, t, e, (b.block g h3.1).trans h1, h2, h3.below b⟩, fun _ _ _ _ _ _ _ _ _ _ _ _ _ _ _ ⟨g, cs, t, e, h1, h2, h3⟩ k => ⟨g, cs, t, e, (set4_heap _ _ _ _ _ _ _ (blk_ne h1 h2 k)).trans h1, h2, h3.off4 k (blk_ne h1 h2 k)⟩⟩
/-- a row that the region has made -/
def IsRowG (L : List Rat) (k : Nat) : Value → World → Prop := fun v w => ∃ g cs t, v = .slice (some ⟨g, 0, none⟩) k k ∧ w.heap[g]? = some (.cells cs t (0, 0)) ∧ cs.size ≠ 4 ∧ ArrG w g L
theorem IsRowG.stb4 (ty : TypeId) (L : List Rat) (k : Nat) : Stb4 ty (IsRowG L k) := ⟨fun _ _ _ ⟨g, cs, t, e, h1, h2, h3⟩ b => ⟨g, cs, t, e, (b.block g h3.1).trans h1, h2, h3.below b⟩, fun _ _ _ _ _ _ _ _ _ _ _ _ _ _ _ ⟨g, cs, t, e, h1, h2, h3⟩ k => ⟨g, cs, t, e, (set4_heap _ _ _ _ _ _ _ (blk_ne h1 h2 k)).trans h1, h2, h3.off4 k (blk_ne h1 h2 k)⟩⟩
theorem IsN.stb (ty : TypeId) (z : Int) : Stb ty (IsN z) := ⟨fun _ _ _ h b => RepN.step h b, fun _ _ _ _ _ _ _ _ _ h k => RepN.st h k⟩
theorem IsQ.stb (ty : TypeId) (x : Rat) : Stb ty (IsQ x) := ⟨fun _ _ _ h b => RepF.step h b, fun _ _ _ _ _ _ _ _ _ h k => RepF.st h k⟩
def IsIE (z er : Int) : Value → World → Prop := fun t w => ∃ v, t = .tuple #[v, .int .i64 er] ∧ RepI w w.heap.size z v
theorem IsIE.stb (ty : TypeId) (z er : Int) : Stb ty (IsIE z er) := ⟨fun _ _ _ ⟨v, h0, h1⟩ b => ⟨v, h0, h1.step b⟩, fun _ _ _ _ _ _ _ _ _ ⟨v, h0, h1⟩ k => ⟨v, h0, RepI.st h1 k⟩⟩
theorem ArrN.row6 {W : World} {z0 z1 z2 z3 z4 z5 : Int} {d0 : Bool} {A0 : Option Addr} {n0 c0 : Nat} {d1 : Bool} {A1 : Option Addr} {n1 c1 : Nat} {d2 : Bool} {A2 : Option Addr} {n2 c2 : Nat} {d3 : Bool} {A3 : Option Addr} {n3 c3 : Nat} {d4 : Bool} {A4 : Option Addr} {n4 c4 : Nat} {d5 : Bool} {A5 : Option Addr} {n5 c5 : Nat} (h0 : RepN W W.heap.size z0 (.agg #[.bool d0, .slice A0 n0 c0])) (h1 : RepN W W.heap.size z1 (.agg #[.bool d1, .slice A1 n1 c1])) (h2 : RepN W W.heap.size z2 (.agg #[.bool d2, .slice A2 n2 c2])) (h3 : RepN W W.heap.size z3 (.agg #[.bool d3, .slice A3 n3 c3])) (h4 : RepN W W.heap.size z4 (.agg #[.bool d4, .slice A4 n4 c4])) (h5 : RepN W W.heap.size z5 (.agg #[.bool d5, .slice A5 n5 c5])) : ArrN (W.alloc (.cells #[.bool d0, .slice A0 n0 c0, .bool d1, .slice A1 n1 c1, .bool d2, .slice A2 n2 c2, .bool d3, .slice A3 n3 c3, .bool d4, .slice A4 n4 c4, .bool d5, .slice A5 n5 c5] 24)) W.heap.size [z0, z1, z2, z3, z4, z5] := by
  refine ⟨by rw [World.size_alloc]; omega, fun i hi => ?_⟩
  have hb := al_below W (.cells #[.bool d0, .slice A0 n0 c0, .bool d1, .slice A1 n1 c1, .bool d2, .slice A2 n2 c2, .bool d3, .slice A3 n3 c3, .bool d4, .slice A4 n4 c4, .bool d5, .slice A5 n5 c5] 24)
  have hn : (W.alloc (.cells #[.bool d0, .slice A0 n0 c0, .bool d1, .slice A1 n1 c1, .bool d2, .slice A2 n2 c2, .bool d3, .slice A3 n3 c3, .bool d4, .slice A4 n4 c4, .bool d5, .slice A5 n5 c5] 24)).heap[W.heap.size]? = some (.cells #[.bool d0, .slice A0 n0 c0, .bool d1, .slice A1 n1 c1, .bool d2, .slice A2 n2 c2, .bool d3, .slice A3 n3 c3, .bool d4, .slice A4 n4 c4, .bool d5, .slice A5 n5 c5] 24 (0, 0)) := World.alloc_heap_new _ _
  have hi' : i < 6 := hi
  have : i = 0 ∨ i = 1 ∨ i = 2 ∨ i = 3 ∨ i = 4 ∨ i = 5 := by omega
  rcases this with rfl | rfl | rfl | rfl | rfl | rfl
  · exact ⟨_, _, _, _, cell_at hn rfl, cell_at hn rfl, h0.step hb⟩
  · exact ⟨_, _, _, _, cell_at hn rfl, cell_at hn rfl, h1.step hb⟩
  · exact ⟨_, _, _, _, cell_at hn rfl, cell_at hn rfl, h2.step hb⟩
  · exact ⟨_, _, _, _, cell_at hn rfl, cell_at hn rfl, h3.step hb⟩
  · exact ⟨_, _, _, _, cell_at hn rfl, cell_at hn rfl, h4.step hb⟩
  · exact ⟨_, _, _, _, cell_at hn rfl, cell_at hn rfl, h5.step hb⟩
theorem o_build6N {ops : Array Oper} {Q : Exit → Act → World → Prop} {k : Nat} {K : Act → World → Prop} {a : Act} {w : World} {d : Tmp} {ty : TypeId} {pos : String} {af : Array Edge} {gd : Option (Nat × Bool)} {x0 x1 x2 x3 x4 x5 : Operand} {z0 z1 z2 z3 z4 z5 : Int} {d0 : Bool} {A0 : Option Addr} {n0 c0 : Nat} {d1 : Bool} {A1 : Option Addr} {n1 c1 : Nat} {d2 : Bool} {A2 : Option Addr} {n2 c2 : Nat} {d3 : Bool} {A3 : Option Addr} {n3 c3 : Nat} {d4 : Bool} {A4 : Option Addr} {n4 c4 : Nat} {d5 : Bool} {A5 : Option Addr} {n5 c5 : Nat} (ho : ops[k]? = some { dst := some d, op := .buildSlice 30 6 #[(0, x0), (1, x1), (2, x2), (3, x3), (4, x4), (5, x5)], type := ty, pos := pos, after := af, guard := gd }) (hg : GdOk ops a gd)
    (e0' : a.eval x0 = .agg #[.bool d0, .slice A0 n0 c0]) (e1' : a.eval x1 = .agg #[.bool d1, .slice A1 n1 c1]) (e2' : a.eval x2 = .agg #[.bool d2, .slice A2 n2 c2]) (e3' : a.eval x3 = .agg #[.bool d3, .slice A3 n3 c3]) (e4' : a.eval x4 = .agg #[.bool d4, .slice A4 n4 c4]) (e5' : a.eval x5 = .agg #[.bool d5, .slice A5 n5 c5]) (h0 : RepN w w.heap.size z0 (.agg #[.bool d0, .slice A0 n0 c0])) (h1 : RepN w w.heap.size z1 (.agg #[.bool d1, .slice A1 n1 c1])) (h2 : RepN w w.heap.size z2 (.agg #[.bool d2, .slice A2 n2 c2])) (h3 : RepN w w.heap.size z3 (.agg #[.bool d3, .slice A3 n3 c3])) (h4 : RepN w w.heap.size z4 (.agg #[.bool d4, .slice A4 n4 c4])) (h5 : RepN w w.heap.size z5 (.agg #[.bool d5, .slice A5 n5 c5])) (hK : ∀ v w', IsRowN [z0, z1, z2, z3, z4, z5] 6 v w' → Below w.heap.size w w' → K (a.put (some d) v) w') : wpOp Tryz.prog ops Q k K a w := by
  refine op_wpg ho hg ?_
  have hb := al_below w (.cells #[.bool d0, .slice A0 n0 c0, .bool d1, .slice A1 n1 c1, .bool d2, .slice A2 n2 c2, .bool d3, .slice A3 n3 c3, .bool d4, .slice A4 n4 c4, .bool d5, .slice A5 n5 c5] 24)
  have hn : (w.alloc (.cells #[.bool d0, .slice A0 n0 c0, .bool d1, .slice A1 n1 c1, .bool d2, .slice A2 n2 c2, .bool d3, .slice A3 n3 c3, .bool d4, .slice A4 n4 c4, .bool d5, .slice A5 n5 c5] 24)).heap[w.heap.size]? = some (.cells #[.bool d0, .slice A0 n0 c0, .bool d1, .slice A1 n1 c1, .bool d2, .slice A2 n2 c2, .bool d3, .slice A3 n3 c3, .bool d4, .slice A4 n4 c4, .bool d5, .slice A5 n5 c5] 24 (0, 0)) := World.alloc_heap_new _ _
  have HK := hK _ _ ⟨w.heap.size, _, _, rfl, hn, by simp, ArrN.row6 h0 h1 h2 h3 h4 h5⟩ hb
  unfold Oper.wp
  simp only [execOp, e0', e1', e2', e3', e4', e5', List.map_toArray, List.map_cons, List.map_nil]
  simp [go_sem, e0', e1', e2', e3', e4', e5']
  exact HK
theorem ArrG.row4 {W : World} {z0 z1 z2 z3 : Rat} {d0 e0 : Bool} {A0 E0 : Option Addr} {n0 c0 m0 f0 : Nat} {d1 e1 : Bool} {A1 E1 : Option Addr} {n1 c1 m1 f1 : Nat} {d2 e2 : Bool} {A2 E2 : Option Addr} {n2 c2 m2 f2 : Nat} {d3 e3 : Bool} {A3 E3 : Option Addr} {n3 c3 m3 f3 : Nat} (h0 : RepG W W.heap.size z0 (.agg #[.bool d0, .slice A0 n0 c0, .bool e0, .slice E0 m0 f0])) (h1 : RepG W W.heap.size z1 (.agg #[.bool d1, .slice A1 n1 c1, .bool e1, .slice E1 m1 f1])) (h2 : RepG W W.heap.size z2 (.agg #[.bool d2, .slice A2 n2 c2, .bool e2, .slice E2 m2 f2])) (h3 : RepG W W.heap.size z3 (.agg #[.bool d3, .slice A3 n3 c3, .bool e3, .slice E3 m3 f3])) : ArrG (W.alloc (.cells #[.bool d0, .slice A0 n0 c0, .bool e0, .slice E0 m0 f0, .bool d1, .slice A1 n1 c1, .bool e1, .slice E1 m1 f1, .bool d2, .slice A2 n2 c2, .bool e2, .slice E2 m2 f2, .bool d3, .slice A3 n3 c3, .bool e3, .slice E3 m3 f3] 42)) W.heap.size [z0, z1, z2, z3] := by
  refine ⟨by rw [World.size_alloc]; omega, fun i hi => ?_⟩
  have hb := al_below W (.cells #[.bool d0, .slice A0 n0 c0, .bool e0, .slice E0 m0 f0, .bool d1, .slice A1 n1 c1, .bool e1, .slice E1 m1 f1, .bool d2, .slice A2 n2 c2, .bool e2, .slice E2 m2 f2, .bool d3, .slice A3 n3 c3, .bool e3, .slice E3 m3 f3] 42)
  have hn : (W.alloc (.cells #[.bool d0, .slice A0 n0 c0, .bool e0, .slice E0 m0 f0, .bool d1, .slice A1 n1 c1, .bool e1, .slice E1 m1 f1, .bool d2, .slice A2 n2 c2, .bool e2, .slice E2 m2 f2, .bool d3, .slice A3 n3 c3, .bool e3, .slice E3 m3 f3] 42)).heap[W.heap.size]? = some (.cells #[.bool d0, .slice A0 n0 c0, .bool e0, .slice E0 m0 f0, .bool d1, .slice A1 n1 c1, .bool e1, .slice E1 m1 f1, .bool d2, .slice A2 n2 c2, .bool e2, .slice E2 m2 f2, .bool d3, .slice A3 n3 c3, .bool e3, .slice E3 m3 f3] 42 (0, 0)) := World.alloc_heap_new _ _
  have hi' : i < 4 := hi
  have : i = 0 ∨ i = 1 ∨ i = 2 ∨ i = 3 := by omega
  rcases this with rfl | rfl | rfl | rfl
  · exact ⟨_, _, _, _, _, _, _, _, by rw [World.size_alloc]; omega, cell_at hn rfl, cell_at hn rfl, cell_at hn rfl, cell_at hn rfl, h0.step hb⟩
  · exact ⟨_, _, _, _, _, _, _, _, by rw [World.size_alloc]; omega, cell_at hn rfl, cell_at hn rfl, cell_at hn rfl, cell_at hn rfl, h1.step hb⟩
  · exact ⟨_, _, _, _, _, _, _, _, by rw [World.size_alloc]; omega, cell_at hn rfl, cell_at hn rfl, cell_at hn rfl, cell_at hn rfl, h2.step hb⟩
  · exact ⟨_, _, _, _, _, _, _, _, by rw [World.size_alloc]; omega, cell_at hn rfl, cell_at hn rfl, cell_at hn rfl, cell_at hn rfl, h3.step hb⟩
theorem o_build4G {ops : Array Oper} {Q : Exit → Act → World → Prop} {k : Nat} {K : Act → World → Prop} {a : Act} {w : World} {d : Tmp} {ty : TypeId} {pos : String} {af : Array Edge} {gd : Option (Nat × Bool)} {x0 x1 x2 x3 : Operand} {z0 z1 z2 z3 : Rat} {d0 e0 : Bool} {A0 E0 : Option Addr} {n0 c0 m0 f0 : Nat} {d1 e1 : Bool} {A1 E1 : Option Addr} {n1 c1 m1 f1 : Nat} {d2 e2 : Bool} {A2 E2 : Option Addr} {n2 c2 m2 f2 : Nat} {d3 e3 : Bool} {A3 E3 : Option Addr} {n3 c3 m3 f3 : Nat} (ho : ops[k]? = some { dst := some d, op := .buildSlice 53 4 #[(0, x0), (1, x1), (2, x2), (3, x3)], type := ty, pos := pos, after := af, guard := gd }) (hg : GdOk ops a gd)
    (e0' : a.eval x0 = .agg #[.bool d0, .slice A0 n0 c0, .bool e0, .slice E0 m0 f0]) (e1' : a.eval x1 = .agg #[.bool d1, .slice A1 n1 c1, .bool e1, .slice E1 m1 f1]) (e2' : a.eval x2 = .agg #[.bool d2, .slice A2 n2 c2, .bool e2, .slice E2 m2 f2]) (e3' : a.eval x3 = .agg #[.bool d3, .slice A3 n3 c3, .bool e3, .slice E3 m3 f3]) (h0 : RepG w w.heap.size z0 (.agg #[.bool d0, .slice A0 n0 c0, .bool e0, .slice E0 m0 f0])) (h1 : RepG w w.heap.size z1 (.agg #[.bool d1, .slice A1 n1 c1, .bool e1, .slice E1 m1 f1])) (h2 : RepG w w.heap.size z2 (.agg #[.bool d2, .slice A2 n2 c2, .bool e2, .slice E2 m2 f2])) (h3 : RepG w w.heap.size z3 (.agg #[.bool d3, .slice A3 n3 c3, .bool e3, .slice E3 m3 f3])) (hK : ∀ v w', IsRowG [z0, z1, z2, z3] 4 v w' → Below w.heap.size w w' → K (a.put (some d) v) w') : wpOp Tryz.prog ops Q k K a w := by
  refine op_wpg ho hg ?_
  have hb := al_below w (.cells #[.bool d0, .slice A0 n0 c0, .bool e0, .slice E0 m0 f0, .bool d1, .slice A1 n1 c1, .bool e1, .slice E1 m1 f1, .bool d2, .slice A2 n2 c2, .bool e2, .slice E2 m2 f2, .bool d3, .slice A3 n3 c3, .bool e3, .slice E3 m3 f3] 42)
  have hn : (w.alloc (.cells #[.bool d0, .slice A0 n0 c0, .bool e0, .slice E0 m0 f0, .bool d1, .slice A1 n1 c1, .bool e1, .slice E1 m1 f1, .bool d2, .slice A2 n2 c2, .bool e2, .slice E2 m2 f2, .bool d3, .slice A3 n3 c3, .bool e3, .slice E3 m3 f3] 42)).heap[w.heap.size]? = some (.cells #[.bool d0, .slice A0 n0 c0, .bool e0, .slice E0 m0 f0, .bool d1, .slice A1 n1 c1, .bool e1, .slice E1 m1 f1, .bool d2, .slice A2 n2 c2, .bool e2, .slice E2 m2 f2, .bool d3, .slice A3 n3 c3, .bool e3, .slice E3 m3 f3] 42 (0, 0)) := World.alloc_heap_new _ _
  have HK := hK _ _ ⟨w.heap.size, _, _, rfl, hn, by simp, ArrG.row4 h0 h1 h2 h3⟩ hb
  unfold Oper.wp
  simp only [execOp, e0', e1', e2', e3', List.map_toArray, List.map_cons, List.map_nil]
  simp [go_sem, e0', e1', e2', e3']
  exact HK
theorem ArrN.row3 {W : World} {z0 z1 z2 : Int} {d0 : Bool} {A0 : Option Addr} {n0 c0 : Nat} {d1 : Bool} {A1 : Option Addr} {n1 c1 : Nat} {d2 : Bool} {A2 : Option Addr} {n2 c2 : Nat} (h0 : RepN W W.heap.size z0 (.agg #[.bool d0, .slice A0 n0 c0])) (h1 : RepN W W.heap.size z1 (.agg #[.bool d1, .slice A1 n1 c1])) (h2 : RepN W W.heap.size z2 (.agg #[.bool d2, .slice A2 n2 c2])) : ArrN (W.alloc (.cells #[.bool d0, .slice A0 n0 c0, .bool d1, .slice A1 n1 c1, .bool d2, .slice A2 n2 c2] 24)) W.heap.size [z0, z1, z2] := by
  refine ⟨by rw [World.size_alloc]; omega, fun i hi => ?_⟩
  have hb := al_below W (.cells #[.bool d0, .slice A0 n0 c0, .bool d1, .slice A1 n1 c1, .bool d2, .slice A2 n2 c2] 24)
  have hn : (W.alloc (.cells #[.bool d0, .slice A0 n0 c0, .bool d1, .slice A1 n1 c1, .bool d2, .slice A2 n2 c2] 24)).heap[W.heap.size]? = some (.cells #[.bool d0, .slice A0 n0 c0, .bool d1, .slice A1 n1 c1, .bool d2, .slice A2 n2 c2] 24 (0, 0)) := World.alloc_heap_new _ _
  have hi' : i < 3 := hi
  have : i = 0 ∨ i = 1 ∨ i = 2 := by omega
  rcases this with rfl | rfl | rfl
  · exact ⟨_, _, _, _, cell_at hn rfl, cell_at hn rfl, h0.step hb⟩
  · exact ⟨_, _, _, _, cell_at hn rfl, cell_at hn rfl, h1.step hb⟩
  · exact ⟨_, _, _, _, cell_at hn rfl, cell_at hn rfl, h2.step hb⟩
theorem o_build3N {ops : Array Oper} {Q : Exit → Act → World → Prop} {k : Nat} {K : Act → World → Prop} {a : Act} {w : World} {d : Tmp} {ty : TypeId} {pos : String} {af : Array Edge} {gd : Option (Nat × Bool)} {x0 x1 x2 : Operand} {z0 z1 z2 : Int} {d0 : Bool} {A0 : Option Addr} {n0 c0 : Nat} {d1 : Bool} {A1 : Option Addr} {n1 c1 : Nat} {d2 : Bool} {A2 : Option Addr} {n2 c2 : Nat} (ho : ops[k]? = some { dst := some d, op := .buildSlice 30 3 #[(0, x0), (1, x1), (2, x2)], type := ty, pos := pos, after := af, guard := gd }) (hg : GdOk ops a gd)
    (e0' : a.eval x0 = .agg #[.bool d0, .slice A0 n0 c0]) (e1' : a.eval x1 = .agg #[.bool d1, .slice A1 n1 c1]) (e2' : a.eval x2 = .agg #[.bool d2, .slice A2 n2 c2]) (h0 : RepN w w.heap.size z0 (.agg #[.bool d0, .slice A0 n0 c0])) (h1 : RepN w w.heap.size z1 (.agg #[.bool d1, .slice A1 n1 c1])) (h2 : RepN w w.heap.size z2 (.agg #[.bool d2, .slice A2 n2 c2])) (hK : ∀ v w', IsRowN [z0, z1, z2] 3 v w' → Below w.heap.size w w' → K (a.put (some d) v) w') : wpOp Tryz.prog ops Q k K a w := by
  refine op_wpg ho hg ?_
  have hb := al_below w (.cells #[.bool d0, .slice A0 n0 c0, .bool d1, .slice A1 n1 c1, .bool d2, .slice A2 n2 c2] 24)
  have hn : (w.alloc (.cells #[.bool d0, .slice A0 n0 c0, .bool d1, .slice A1 n1 c1, .bool d2, .slice A2 n2 c2] 24)).heap[w.heap.size]? = some (.cells #[.bool d0, .slice A0 n0 c0, .bool d1, .slice A1 n1 c1, .bool d2, .slice A2 n2 c2] 24 (0, 0)) := World.alloc_heap_new _ _
  have HK := hK _ _ ⟨w.heap.size, _, _, rfl, hn, by simp, ArrN.row3 h0 h1 h2⟩ hb
  unfold Oper.wp
  simp only [execOp, e0', e1', e2', List.map_toArray, List.map_cons, List.map_nil]
  simp [go_sem, e0', e1', e2']
  exact HK
theorem ArrN.row1 {W : World} {z0 : Int} {d0 : Bool} {A0 : Option Addr} {n0 c0 : Nat} (h0 : RepN W W.heap.size z0 (.agg #[.bool d0, .slice A0 n0 c0])) : ArrN (W.alloc (.cells #[.bool d0, .slice A0 n0 c0] 24)) W.heap.size [z0] := by
  refine ⟨by rw [World.size_alloc]; omega, fun i hi => ?_⟩
  have hb := al_below W (.cells #[.bool d0, .slice A0 n0 c0] 24)
  have hn : (W.alloc (.cells #[.bool d0, .slice A0 n0 c0] 24)).heap[W.heap.size]? = some (.cells #[.bool d0, .slice A0 n0 c0] 24 (0, 0)) := World.alloc_heap_new _ _
  have hi' : i < 1 := hi
  have : i = 0 := by omega
  rcases this with rfl
  · exact ⟨_, _, _, _, cell_at hn rfl, cell_at hn rfl, h0.step hb⟩
theorem o_build1N {ops : Array Oper} {Q : Exit → Act → World → Prop} {k : Nat} {K : Act → World → Prop} {a : Act} {w : World} {d : Tmp} {ty : TypeId} {pos : String} {af : Array Edge} {gd : Option (Nat × Bool)} {x0 : Operand} {z0 : Int} {d0 : Bool} {A0 : Option Addr} {n0 c0 : Nat} (ho : ops[k]? = some { dst := some d, op := .buildSlice 30 1 #[(0, x0)], type := ty, pos := pos, after := af, guard := gd }) (hg : GdOk ops a gd)
    (e0' : a.eval x0 = .agg #[.bool d0, .slice A0 n0 c0]) (h0 : RepN w w.heap.size z0 (.agg #[.bool d0, .slice A0 n0 c0])) (hK : ∀ v w', IsRowN [z0] 1 v w' → Below w.heap.size w w' → K (a.put (some d) v) w') : wpOp Tryz.prog ops Q k K a w := by
  refine op_wpg ho hg ?_
  have hb := al_below w (.cells #[.bool d0, .slice A0 n0 c0] 24)
  have hn : (w.alloc (.cells #[.bool d0, .slice A0 n0 c0] 24)).heap[w.heap.size]? = some (.cells #[.bool d0, .slice A0 n0 c0] 24 (0, 0)) := World.alloc_heap_new _ _
  have HK := hK _ _ ⟨w.heap.size, _, _, rfl, hn, by simp, ArrN.row1 h0⟩ hb
  unfold Oper.wp
  simp only [execOp, e0', List.map_toArray, List.map_cons, List.map_nil]
  simp [go_sem, e0']
  exact HK
/-- a row that an append in the region has made: its capacity is not told -/
def IsRowA (L : List Int) (k : Nat) : Value → World → Prop := fun v w => ∃ g c cs t, v = .slice (some ⟨g, 0, none⟩) k c ∧ w.heap[g]? = some (.cells cs t (0, 0)) ∧ cs.size ≠ 4 ∧ ArrN w g L
theorem IsRowA.stb4 (ty : TypeId) (L : List Int) (k : Nat) : Stb4 ty (IsRowA L k) := ⟨fun _ _ _ ⟨g, c, cs, t, e, h1, h2, h3⟩ b => ⟨g, c, cs, t, e, (b.block g h3.1).trans h1, h2, h3.below b⟩, fun _ _ _ _ _ _ _ _ _ _ _ _ _ _ _ ⟨g, c, cs, t, e, h1, h2, h3⟩ k => ⟨g, c, cs, t, e, (set4_heap _ _ _ _ _ _ _ (blk_ne h1 h2 k)).trans h1, h2, h3.off4 k (blk_ne h1 h2 k)⟩⟩
theorem holds_add {w : World} {g : Nat} {xs : List Value} (h : ∀ j u, xs[j]? = some u → w.cell? ⟨g, j, none⟩ = some u) : ∀ j u, xs[j]? = some u → w.cell? ((⟨g, 0, none⟩ : Addr).add j) = some u := by
  intro j u hu
  rw [show (⟨g, 0, none⟩ : Addr).add j = ⟨g, j, none⟩ by unfold Addr.add; split <;> simp_all]
  exact h j u hu
theorem below_grown {w w' : World} (h : w.grownBy w' none) : Below w.heap.size w w' := ⟨h.os, h.tape, h.output, h.size, fun i hi => h.block i hi (by simp)⟩
theorem n_info : (Tryz.prog.info? 24).map (fun i => (i.zero, i.size, i.bytes)) = some (some (.agg #[.bool false, .slice none 0 0]), 2, 32) := by kernel_rfl
set_option maxHeartbeats 1000000 in
theorem o_app3N {ops : Array Oper} {Q : Exit → Act → World → Prop} {k : Nat} {K : Act → World → Prop} {a : Act} {w : World} {d : Tmp} {ty : TypeId} {pos : String} {af : Array Edge} {gd : Option (Nat × Bool)} {x y : Operand} {g h : Nat} {z0 z1 z2 z3 : Int} {d0 d1 d2 d3 : Bool} {A0 A1 A2 A3 : Option Addr} {n0 c0 n1 c1 n2 c2 n3 c3 : Nat}
    (ho : ops[k]? = some { dst := some d, op := .call { callee := .builtin .append, args := #[x, y], argTypes := #[30, 30] }, type := ty, pos := pos, after := af, guard := gd }) (hg : GdOk ops a gd)
    (hx : a.eval x = .slice (some ⟨g, 0, none⟩) 3 3) (hy : a.eval y = .slice (some ⟨h, 0, none⟩) 1 1) (H0 : HoldE w g 0 z0 d0 A0 n0 c0) (H1 : HoldE w g 1 z1 d1 A1 n1 c1) (H2 : HoldE w g 2 z2 d2 A2 n2 c2) (H3 : HoldE w h 0 z3 d3 A3 n3 c3)
    (hK : ∀ v w', IsRowA [z0, z1, z2, z3] 4 v w' → Below w.heap.size w w' → K (a.put (some d) v) w') : wpOp Tryz.prog ops Q k K a w := by
  refine op_wpg ho hg ?_
  obtain ⟨i0, hi, hz0, hz1, hz2⟩ : ∃ i0, Tryz.prog.info? 24 = some i0 ∧ i0.zero = some (.agg #[.bool false, .slice none 0 0]) ∧ i0.size = 2 ∧ i0.bytes = 32 := info_parts n_info
  obtain ⟨v', w', hrun, r1, r2⟩ := run_append_arg_grows (P := Tryz.prog) w 30 ty 24 i0 _ 2 32 Tryz.underlying30 hi hz0 hz1 hz2 rfl (by omega) ⟨g, 0, none⟩ 3 3 [.bool d0, .slice A0 n0 c0, .bool d1, .slice A1 n1 c1, .bool d2, .slice A2 n2 c2] rfl
    (holds_add (by
      intro j u hu
      rcases (show j = 0 ∨ j = 1 ∨ j = 2 ∨ j = 3 ∨ j = 4 ∨ j = 5 ∨ 6 ≤ j by omega) with rfl | rfl | rfl | rfl | rfl | rfl | h6
      · cases hu; exact H0.c0
      · cases hu; exact H0.c1
      · cases hu; exact H1.c0
      · cases hu; exact H1.c1
      · cases hu; exact H2.c0
      · cases hu; exact H2.c1
      · rw [List.getElem?_eq_none (by simpa using h6)] at hu; cases hu))
    ⟨h, 0, none⟩ 1 1 [.bool d3, .slice A3 n3 c3] rfl
    (holds_add (by
      intro j u hu
      rcases (show j = 0 ∨ j = 1 ∨ 2 ≤ j by omega) with rfl | rfl | h6
      · cases hu; exact H3.c0
      · cases hu; exact H3.c1
      · rw [List.getElem?_eq_none (by simpa using h6)] at hu; cases hu))
    (by omega) (by unfold maxLen; omega) (by omega)
  have hb := below_grown r2
  have HK : K (a.put (some d) v') w' := by
    refine hK _ _ ?_ hb
    rcases r1.2 with ⟨_, h0⟩ | ⟨g', cap, cur, rfl, _, hh, hc, _, hsz, htk⟩
    · cases h0
    · have hcell : ∀ (j : Nat) (u : Value), ([.bool d0, .slice A0 n0 c0, .bool d1, .slice A1 n1 c1, .bool d2, .slice A2 n2 c2] ++ [.bool d3, .slice A3 n3 c3] : List Value)[j]? = some u → cur[j]? = some u := by
        intro j u hu
        rw [← htk, List.getElem?_take] at hu
        split at hu
        · simpa using hu
        · cases hu
      refine ⟨g', cap, cur, _, rfl, hh, by omega, (Array.getElem?_eq_some_iff.1 hh).1, fun i hi => ?_⟩
      have hi' : i < 4 := hi
      rcases (show i = 0 ∨ i = 1 ∨ i = 2 ∨ i = 3 by omega) with rfl | rfl | rfl | rfl
      · exact ⟨_, _, _, _, cell_at hh (hcell 0 _ rfl), cell_at hh (hcell 1 _ rfl), H0.rep.step hb⟩
      · exact ⟨_, _, _, _, cell_at hh (hcell 2 _ rfl), cell_at hh (hcell 3 _ rfl), H1.rep.step hb⟩
      · exact ⟨_, _, _, _, cell_at hh (hcell 4 _ rfl), cell_at hh (hcell 5 _ rfl), H2.rep.step hb⟩
      · exact ⟨_, _, _, _, cell_at hh (hcell 6 _ rfl), cell_at hh (hcell 7 _ rfl), H3.rep.step hb⟩
  unfold Oper.wp
  simp [execOp, resolve, invoke, builtin, hx, hy, hrun, Result.andThen]
  exact HK
theorem o_fieldG0 {ops : Array Oper} {Q : Exit → Act → World → Prop} {k : Nat} {K : Act → World → Prop} {a : Act} {w : World} {d : Tmp} {ty : TypeId} {pos : String} {af : Array Edge} {gd : Option (Nat × Bool)} {x : Operand} {p : Nat} (ho : ops[k]? = some { dst := some d, op := .fieldAddr 42 x 0, type := ty, pos := pos, after := af, guard := gd }) (hg : GdOk ops a gd)
    (hx : a.eval x = .pointer (some ⟨p, 0, none⟩)) (hK : K (a.put (some d) (.pointer (some ⟨p, 0, none⟩))) w) : wpOp Tryz.prog ops Q k K a w := by
  refine op_wpg ho hg ?_
  unfold Oper.wp
  simp only [execOp, hx]
  simp [go_sem, hx]
  exact hK
theorem o_fieldG1 {ops : Array Oper} {Q : Exit → Act → World → Prop} {k : Nat} {K : Act → World → Prop} {a : Act} {w : World} {d : Tmp} {ty : TypeId} {pos : String} {af : Array Edge} {gd : Option (Nat × Bool)} {x : Operand} {p : Nat} (ho : ops[k]? = some { dst := some d, op := .fieldAddr 42 x 1, type := ty, pos := pos, after := af, guard := gd }) (hg : GdOk ops a gd)
    (hx : a.eval x = .pointer (some ⟨p, 0, none⟩)) (hK : K (a.put (some d) (.pointer (some ⟨p, 2, none⟩))) w) : wpOp Tryz.prog ops Q k K a w := by
  refine op_wpg ho hg ?_
  unfold Oper.wp
  simp only [execOp, hx]
  simp [go_sem, hx]
  exact hK
end Go.Proofs.YtocooajlfpngdaaGreatDoor
