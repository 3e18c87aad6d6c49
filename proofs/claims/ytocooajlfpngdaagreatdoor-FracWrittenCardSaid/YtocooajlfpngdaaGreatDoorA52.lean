/- Layer 4's laws: what FracWritten needs. · Layer 4's laws: FracWritten. -/
import Derived.Test.YtocooajlfpngdaaGreatDoorA42
import Derived.Test.YtocooajlfpngdaaGreatDoorA49
import Derived.Test.YtocooajlfpngdaaGreatDoorA48
import Derived.Test.YtocooajlfpngdaaGreatDoorA51
import Derived.Test.YtocooajlfpngdaaGreatDoorA40
namespace Go.Proofs.YtocooajlfpngdaaGreatDoor
open Go.RowKit
set_option linter.unusedVariables false

theorem strOf_sB (s : ByteArray) : strOf (sB s) = s := by
  unfold strOf sB
  apply byteArray_ext
  simp only [List.map_map]
  have e : ((fun z : Int => UInt8.ofNat z.toNat) ∘ fun b : UInt8 => (b.toNat : Int)) = id := by
    funext b
    simp
  rw [e, List.map_id]
theorem decw_len {z : Int} (h : (z.natAbs : Int) < lim) : (decT z).length ≤ 4995 := dec_short h
theorem textw_len {x : Rat} (h : InF x) : (strB (textQ x)).size ≤ 9991 := by
  have h1 := decw_len h.1
  have h2 := decw_len (den_lim h)
  have e : (strB (textQ x)).size = (textQ x).length := by simp [strB, ByteArray.size]
  rw [e]
  unfold textQ
  split
  · omega
  · simp
    omega
theorem parse_as {x : Rat} (h : InF x) {s : ByteArray} (hs : strB (textQ x) = s) (w : World) : Calls Tryz.prog 50 #[.string s] w (NewFE x 0 w) := by
  subst hs
  have hl := textw_len h
  have h1 := fparse_any (strB (textQ x)) w (by unfold maxLen; omega)
  rw [strB_list, text_back h] at h1
  exact h1
theorem string_as {x : Rat} (h : InF x) {s : ByteArray} (hs : strB (textQ x) = s) {u : Value} {w : World} (ha : RepF w w.heap.size x u) : Calls Tryz.prog 51 #[u] w (StrU s w) := by
  subst hs
  exact fstring_any x u w ha h
theorem encR_len {l : List Int} (h : l.length ≤ 100000) : (encR l).length ≤ l.length + 10 := by
  have := encU_len (l.length : Int) (by unfold u64; omega)
  unfold encR
  simp
  omega
theorem RepI.low {w w' : World} {B : Nat} {z : Int} {v : Value} (h : RepI w B z v) (hb : Below B w w') : RepI w' B z v := h.below hb
/-- a fraction in a box, all of it older than block P -/
def FixQ (W : World) (P p : Nat) (x : Rat) (d : Bool) (A : Option Addr) (n c : Nat) (d' : Bool) (A' : Option Addr) (n' c' : Nat) : Prop :=
  p < P ∧ P ≤ W.heap.size ∧ Blk4 W p 36 (.bool d) (.slice A n c) (.bool d') (.slice A' n' c') ∧ RepF W P x (.agg #[.bool d, .slice A n c, .bool d', .slice A' n' c'])
section
variable {W W' : World} {P p q B : Nat} {x : Rat} {d : Bool} {A : Option Addr} {n c : Nat} {d' : Bool} {A' : Option Addr} {n' c' : Nat} {s : RS}
theorem RepF.low {v : Value} (h : RepF W P x v) (hb : Below P W W') : RepF W' P x v := by
  obtain ⟨d, A, n, c, d', A', n', c', e, h1, q, h2, h3⟩ := h
  exact ⟨d, A, n, c, d', A', n', c', e, h1.below hb, q, h2.below hb, h3⟩
theorem RepF.more {v : Value} (h : RepF W P x v) (hb : P ≤ B) : RepF W B x v := by
  obtain ⟨d, A, n, c, d', A', n', c', e, h1, q, h2, h3⟩ := h
  exact ⟨d, A, n, c, d', A', n', c', e, h1.more hb, q, h2.more hb, h3⟩
theorem FixQ.low (h : FixQ W P p x d A n c d' A' n' c') (hb : Below P W W') : FixQ W' P p x d A n c d' A' n' c' := ⟨h.1, Nat.le_trans h.2.1 hb.size, (hb.block p h.1).trans h.2.2.1, h.2.2.2.low hb⟩
theorem FixQ.below (h : FixQ W P p x d A n c d' A' n' c') (hb : Below W.heap.size W W') : FixQ W' P p x d A n c d' A' n' c' := h.low (hb.mono h.2.1)
theorem FixQ.new (h : HoldQ W p x d A n c d' A' n' c') (hb : Below W.heap.size W W') : FixQ W' W.heap.size p x d A n c d' A' n' c' := ⟨h.1.lt, hb.size, h.1.below hb, h.2.low hb⟩
theorem FixQ.hold (h : FixQ W P p x d A n c d' A' n' c') : HoldQ W p x d A n c d' A' n' c' := ⟨h.2.2.1, h.2.2.2.more h.2.1⟩
theorem Sl.off_rd {B0 : Nat} {zs : List Int} {A : Option Addr} {n : Nat} (h : Sl .u32 W B0 A n zs) (hr : RdW W q B s) (hg : W.grownBy W' (some q)) : Sl .u32 W' B0 A n zs := by
  obtain ⟨A1, n1, c1, h2, _⟩ := hr
  refine ⟨h.1, ?_⟩
  rcases h.2 with h0 | ⟨b, off, rfl, hlt, hc⟩
  · exact .inl h0
  · refine .inr ⟨b, off, rfl, hlt, fun j hj => hg.cell (hc j hj) ?_⟩
    intro e
    have e' : b = q := by injection e
    subst e'
    have h3 := hc j hj
    rw [cell_of_row W b (off + j) _ _ _ h2] at h3
    rcases (show off + j = 0 ∨ off + j = 1 ∨ 2 ≤ off + j by omega) with h01 | h01 | h01
    · rw [h01] at h3; simp at h3
    · rw [h01] at h3; simp at h3
    · rw [Array.getElem?_eq_none (by simp; omega)] at h3; cases h3
theorem RepI.off_rd {B0 : Nat} {z : Int} {v : Value} (h : RepI W B0 z v) (hr : RdW W q B s) (hg : W.grownBy W' (some q)) : RepI W' B0 z v := by
  obtain ⟨A, n, c, zs, h1, h2⟩ := h
  exact ⟨A, n, c, zs, h1, h2.1.off_rd hr hg, h2.2⟩
theorem HoldQ.off_rd (h : HoldQ W p x d A n c d' A' n' c') (hr : RdW W q B s) (hg : W.grownBy W' (some q)) : HoldQ W' p x d A n c d' A' n' c' := by
  refine ⟨?_, ?_⟩
  · refine (hg.block p h.1.lt ?_).trans h.1
    intro e
    have e' : p = q := by injection e
    subst e'
    obtain ⟨A1, n1, c1, h2, _⟩ := hr
    have h3 : W.heap[p]? = _ := h2
    have h4 : W.heap[p]? = _ := h.1
    rw [h3] at h4
    cases h4
  · obtain ⟨d1, A1, n1, c1, d2, A2, n2, c2, e, h1, q', h2, h3⟩ := h.2
    exact ⟨d1, A1, n1, c1, d2, A2, n2, c2, e, (h1.off_rd hr hg).more hg.size, q', (h2.off_rd hr hg).more hg.size, h3⟩
end
/-- the bytes of a text, in a slice -/
def IsBy (s : ByteArray) : Value → World → Prop := fun v w => ∃ A n c, v = .slice A n c ∧ Sl .u8 w w.heap.size A n (sB s) ∧ n ≤ c ∧ n ≤ 1000000
theorem IsBy.stb4 (ty : TypeId) (s : ByteArray) : Stb4 ty (IsBy s) := ⟨fun _ _ _ ⟨A, n, c, e, h1, h2⟩ b => ⟨A, n, c, e, (h1.below b).more b.size, h2⟩, fun _ _ g _ _ _ _ _ _ _ _ x y z u ⟨A, n, c, e, h1, h2⟩ k => ⟨A, n, c, e, by rw [set4_size]; exact h1.off_blk4 k (fun g' hg' => set4_heap _ _ _ _ _ _ _ hg'), h2⟩⟩
section
variable {ops : Array Oper} {Q : Exit → Act → World → Prop} {k : Nat} {K : Act → World → Prop} {a : Act} {w : World} {d : Tmp} {ty : TypeId} {pos : String} {af : Array Edge} {gd : Option (Nat × Bool)}
set_option maxRecDepth 100000 in
theorem o_conv {x : Operand} {s : ByteArray} (ho : ops[k]? = some { dst := some d, op := .convert 9 76 x, type := ty, pos := pos, after := af, guard := gd }) (hg : GdOk ops a gd)
    (hx : a.eval x = .string s) (hs : s.size ≤ 1000000) (hK : ∀ v w', IsBy s v w' → Below w.heap.size w w' → K (a.put (some d) v) w') : wpOp Tryz.prog ops Q k K a w := by
  refine op_wpg ho hg ?_
  obtain ⟨cap, w1, hr, hb, _, hsl, hc, _⟩ := conv_bytes (P := Tryz.prog) w 9 76 5 s (by unfold maxLen; omega) Tryz.underlying9 Tryz.underlying76 Tryz.underlying5
  have HK := hK _ _ ⟨_, _, _, rfl, hsl, hc, hs⟩ hb
  unfold Oper.wp
  simp only [execOp, hx]
  simp [go_sem, hr]
  exact HK
theorem o_eqlU {x y : Operand} {p q : Int} {r : Bool} (ho : ops[k]? = some { dst := some d, op := .binOp .eql 87 x y 87, type := ty, pos := pos, after := af, guard := gd }) (hg : GdOk ops a gd)
    (hx : a.eval x = .int .u64 p) (hy : a.eval y = .int .u64 q) (hr : (p == q) = r) (hK : K (a.put (some d) (.bool r)) w) : wpOp Tryz.prog ops Q k K a w := by
  refine op_wpg ho hg ?_
  subst hr
  unfold Oper.wp
  simp only [execOp, hx, hy]
  simp [go_sem]
  exact hK
end
theorem sgnF_ne {z : Rat} (h : z ≠ 0) : sgnF z ≠ 0 := by
  rcases rat_tri z 0 with h1 | h1 | h1
  · rw [sgnF_neg h1]; decide
  · exact absurd h1 h
  · rw [sgnF_pos h1]; decide
theorem wr_ok {s1 s2 : ByteArray} (h1 : s1.size ≤ 9991) (h2 : s2.size ≤ 9991) : (encR (sB s1)).length ≤ 10001 ∧ (encR (sB s2)).length ≤ 10001 ∧ rdL rdO ⟨encR (sB s1) ++ encR (sB s2), 0⟩ = (sB s1, ⟨encR (sB s2), 0⟩) ∧ rdL rdO ⟨encR (sB s2), 0⟩ = (sB s2, ⟨[], 0⟩) := by
  have e1 := encR_len (l := sB s1) (by rw [sB_len]; omega)
  have e2 := encR_len (l := sB s2) (by rw [sB_len]; omega)
  rw [sB_len] at e1 e2
  refine ⟨by omega, by omega, rdL_O _ _ (by rw [sB_len]; omega), ?_⟩
  have := rdL_O (sB s2) [] (by rw [sB_len]; omega)
  rwa [List.append_nil] at this
def wr_r15_ops : Array Oper := #[
  { dst := some 73, op := .move (.tmp 12), type := 37, pos := "law.go:295", after := #[], guard := none },
  { dst := some 74, op := .binOp .eql 37 (.tmp 73) (.const (.int .i64 0)) 37, type := 4, pos := "law.go:295", after := #[⟨0, .data⟩], guard := none },
  { dst := some 75, op := .move (.tmp 74), type := 4, pos := "law.go:295", after := #[⟨1, .data⟩], guard := none },
  { dst := some 76, op := .load 36 (.tmp 11), type := 36, pos := "law.go:295", after := #[⟨2, .guard⟩], guard := some (2, true) },
  { dst := some 77, op := .call { callee := .value (.func 42), args := #[.tmp 76], argTypes := #[36] }, type := 3, pos := "law.go:295", after := #[⟨3, .data⟩, ⟨2, .chain⟩, ⟨2, .guard⟩], guard := some (2, true) },
  { dst := some 78, op := .binOp .eql 3 (.tmp 77) (.const (.int .i64 0)) 3, type := 4, pos := "law.go:295", after := #[⟨4, .data⟩, ⟨2, .guard⟩], guard := some (2, true) },
  { dst := some 79, op := .pick (.tmp 75) (.tmp 78) (.const (.bool false)), type := 4, pos := "law.go:295", after := #[⟨2, .data⟩, ⟨5, .data⟩], guard := none },
  { dst := some 80, op := .move (.tmp 79), type := 4, pos := "law.go:295", after := #[⟨6, .data⟩, ⟨4, .chain⟩], guard := none },
  { dst := some 81, op := .load 36 (.tmp 3), type := 36, pos := "law.go:295", after := #[⟨7, .guard⟩], guard := some (7, true) },
  { dst := some 82, op := .call { callee := .value (.func 51), args := #[.tmp 81], argTypes := #[36] }, type := 9, pos := "law.go:295", after := #[⟨8, .data⟩, ⟨7, .chain⟩, ⟨7, .guard⟩], guard := some (7, true) },
  { dst := some 83, op := .convert 9 76 (.tmp 82), type := 76, pos := "law.go:295", after := #[⟨9, .data⟩, ⟨7, .guard⟩], guard := some (7, true) },
  { dst := some 84, op := .call { callee := .value (.func 58), args := #[.const (.string { data := #[102, 114, 97, 99] }), .tmp 83], argTypes := #[9, 76] }, type := 87, pos := "law.go:295", after := #[⟨10, .data⟩, ⟨9, .chain⟩, ⟨7, .guard⟩], guard := some (7, true) },
  { dst := some 85, op := .load 36 (.tmp 4), type := 36, pos := "law.go:295", after := #[⟨7, .guard⟩], guard := some (7, true) },
  { dst := some 86, op := .call { callee := .value (.func 51), args := #[.tmp 85], argTypes := #[36] }, type := 9, pos := "law.go:295", after := #[⟨12, .data⟩, ⟨11, .chain⟩, ⟨7, .guard⟩], guard := some (7, true) },
  { dst := some 87, op := .convert 9 76 (.tmp 86), type := 76, pos := "law.go:295", after := #[⟨13, .data⟩, ⟨7, .guard⟩], guard := some (7, true) },
  { dst := some 88, op := .call { callee := .value (.func 58), args := #[.const (.string { data := #[102, 114, 97, 99] }), .tmp 87], argTypes := #[9, 76] }, type := 87, pos := "law.go:295", after := #[⟨14, .data⟩, ⟨13, .chain⟩, ⟨7, .guard⟩], guard := some (7, true) },
  { dst := some 89, op := .binOp .eql 87 (.tmp 84) (.tmp 88) 87, type := 4, pos := "law.go:295", after := #[⟨11, .data⟩, ⟨15, .data⟩, ⟨7, .guard⟩], guard := some (7, true) },
  { dst := some 90, op := .pick (.tmp 80) (.tmp 89) (.const (.bool false)), type := 4, pos := "law.go:295", after := #[⟨7, .data⟩, ⟨16, .data⟩], guard := none },
  { dst := some 91, op := .move (.tmp 90), type := 4, pos := "law.go:295", after := #[⟨17, .data⟩, ⟨15, .chain⟩], guard := none },
  { dst := some 92, op := .call { callee := .value (.func 24), args := #[], argTypes := #[] }, type := 4, pos := "law.go:295", after := #[⟨18, .chain⟩, ⟨18, .guard⟩], guard := some (18, true) },
  { dst := some 93, op := .pick (.tmp 91) (.tmp 92) (.const (.bool false)), type := 4, pos := "law.go:295", after := #[⟨18, .data⟩, ⟨19, .data⟩], guard := none },
  { dst := some 2, op := .assign (.tmp 93), type := 4, pos := "law.go:295", after := #[⟨20, .data⟩, ⟨19, .chain⟩, ⟨0, .phase⟩, ⟨1, .phase⟩, ⟨2, .phase⟩, ⟨3, .phase⟩, ⟨4, .phase⟩, ⟨5, .phase⟩, ⟨6, .phase⟩, ⟨7, .phase⟩, ⟨8, .phase⟩, ⟨9, .phase⟩, ⟨10, .phase⟩, ⟨11, .phase⟩, ⟨12, .phase⟩, ⟨13, .phase⟩, ⟨14, .phase⟩, ⟨15, .phase⟩, ⟨16, .phase⟩, ⟨17, .phase⟩, ⟨18, .phase⟩, ⟨19, .phase⟩, ⟨20, .phase⟩], guard := none }]
set_option maxRecDepth 100000 in
set_option maxHeartbeats 2000000 in
theorem wr_r15 {Q : Exit → Act → World → Prop} {a0 : Act} {w0 : World} {x y : Rat} {s1 : ByteArray} {p3 : Nat} {d3 : Bool} {A3 : Option Addr} {n3 c3 : Nat} {e3 : Bool} {E3 : Option Addr} {m3 f3 : Nat} {p4 : Nat} {d4 : Bool} {A4 : Option Addr} {n4 c4 : Nat} {e4 : Bool} {E4 : Option Addr} {m4 f4 : Nat} {p11 : Nat} {d11 : Bool} {A11 : Option Addr} {n11 c11 : Nat} {e11 : Bool} {E11 : Option Addr} {m11 f11 : Nat} (hN : a0.tmps.size = 110) (t12 : a0.tmps[12]? = some (.int .i64 0)) (t3 : a0.tmps[3]? = some (.pointer (some ⟨p3, 0, none⟩))) (H3 : HoldQ w0 p3 x d3 A3 n3 c3 e3 E3 m3 f3) (t4 : a0.tmps[4]? = some (.pointer (some ⟨p4, 0, none⟩))) (H4 : HoldQ w0 p4 x d4 A4 n4 c4 e4 E4 m4 f4) (t11 : a0.tmps[11]? = some (.pointer (some ⟨p11, 0, none⟩))) (H11 : HoldQ w0 p11 y d11 A11 n11 c11 e11 E11 m11 f11) (ix : InF x) (iy : InF y) (hy : sgnF y = 0) (hs : strB (textQ x) = s1) (hl : s1.size ≤ 9991)
    (hQ : ∀ (w : World) (v73 v74 v75 v76 v77 v78 v79 v80 v81 v82 v83 v84 v85 v86 v87 v88 v89 v90 v91 v92 v93 v2 : Value) , Below w0.heap.size w0 w → (Is (.bool true)) v2 w → Q .normal ⟨([(73, v73), (74, v74), (75, v75), (76, v76), (77, v77), (78, v78), (79, v79), (80, v80), (81, v81), (82, v82), (83, v83), (84, v84), (85, v85), (86, v86), (87, v87), (88, v88), (89, v89), (90, v90), (91, v91), (92, v92), (93, v93), (2, v2)] : List (Nat × Value)).foldl (fun ts p => ts.setIfInBounds p.1 p.2) a0.tmps, a0.defers⟩ w) :
    (Code.region 15 wr_r15_ops true).wp Tryz.prog Q a0 w0 := by
  refine wp_region_boxes4' (ty := 0) (cl := [.val 73 (Is (.int .i64 0)), .val 74 (Is (.bool true)), .val 75 (Is (.bool true)), .val 76 (IsQ (y)), .val 77 (Is (.int .i64 (sgnF (y)))), .val 78 (Is (.bool true)), .val 79 (Is (.bool true)), .val 80 (Is (.bool true)), .val 81 (IsQ (x)), .val 82 (Is (.string s1)), .val 83 (IsBy s1), .val 84 (Is (.int .u64 (bytesI (sB { data := #[102, 114, 97, 99] }) (sB s1)))), .val 85 (IsQ (x)), .val 86 (Is (.string s1)), .val 87 (IsBy s1), .val 88 (Is (.int .u64 (bytesI (sB { data := #[102, 114, 97, 99] }) (sB s1)))), .val 89 (Is (.bool true)), .val 90 (Is (.bool true)), .val 91 (Is (.bool true)), .val 92 (Is (.bool true)), .val 93 (Is (.bool true)), .val 2 (Is (.bool true))]) 110 (by kernel_rfl) hN (by kernel_rfl) ?_ ?_ ?_
  · exact ⟨Is.stb4 _ _, Is.stb4 _ _, Is.stb4 _ _, IsQ.stb4 _ _, Is.stb4 _ _, Is.stb4 _ _, Is.stb4 _ _, Is.stb4 _ _, IsQ.stb4 _ _, Is.stb4 _ _, IsBy.stb4 _ _, Is.stb4 _ _, IsQ.stb4 _ _, Is.stb4 _ _, IsBy.stb4 _ _, Is.stb4 _ _, Is.stb4 _ _, Is.stb4 _ _, Is.stb4 _ _, Is.stb4 _ _, Is.stb4 _ _, Is.stb4 _ _, trivial⟩
  · refine ⟨?_, ?_, ?_, ?_, ?_, ?_, ?_, ?_, ?_, ?_, ?_, ?_, ?_, ?_, ?_, ?_, ?_, ?_, ?_, ?_, ?_, ?_, trivial⟩
    · intro l ac w h hd K hK
      exact o_move rfl GdOk.none (ev_t ((h.same 12 (not_dst (by kernel_rfl))).trans t12)) (hK _ _ rfl (Below.refl _ _))
    · intro l ac w h hd K hK
      obtain ⟨v0, hv0, rfl⟩ := h.fact 0 _ rfl (dep hd 0 (by kernel_rfl))
      exact o_eqlE rfl GdOk.none (ev_t hv0) rfl (rfl) (hK _ _ rfl (Below.refl _ _))
    · intro l ac w h hd K hK
      obtain ⟨v1, hv1, rfl⟩ := h.fact 1 _ rfl (dep hd 1 (by kernel_rfl))
      exact o_move rfl GdOk.none (ev_t hv1) (hK _ _ rfl (Below.refl _ _))
    · intro l ac w h hd K hK
      obtain ⟨v2, hv2, rfl⟩ := h.fact 2 _ rfl (dep hd 2 (by kernel_rfl))
      exact o_loadQ rfl (GdOk.of (d := 75) rfl rfl hv2) (ev_t ((h.same 11 (not_dst (by kernel_rfl))).trans t11)) (H11.below h.below).c0 (H11.below h.below).c1 (H11.below h.below).c2 (H11.below h.below).c3 (hK _ _ (H11.below h.below).2 (Below.refl _ _))
    · intro l ac w h hd K hK
      obtain ⟨v2, hv2, rfl⟩ := h.fact 2 _ rfl (dep hd 2 (by kernel_rfl))
      obtain ⟨v3, hv3, hF3⟩ := h.fact 3 _ rfl (dep hd 3 (by kernel_rfl))
      exact o_call1 rfl (GdOk.of (d := 75) rfl rfl hv2) (ev_t hv3) (enters_of Tryz.func42 (by kernel_rfl) rfl) ((fsgn_in hF3 iy).mono fun e w' ⟨he, h2⟩ => ⟨_, he, hK _ _ rfl h2⟩)
    · intro l ac w h hd K hK
      obtain ⟨v2, hv2, rfl⟩ := h.fact 2 _ rfl (dep hd 2 (by kernel_rfl))
      obtain ⟨v4, hv4, rfl⟩ := h.fact 4 _ rfl (dep hd 4 (by kernel_rfl))
      exact o_eql rfl (GdOk.of (d := 75) rfl rfl hv2) (ev_t hv4) rfl (by rw [hy]; rfl) (hK _ _ rfl (Below.refl _ _))
    · intro l ac w h hd K hK
      obtain ⟨v2, hv2, rfl⟩ := h.fact 2 _ rfl (dep hd 2 (by kernel_rfl))
      obtain ⟨v5, hv5, rfl⟩ := h.fact 5 _ rfl (dep hd 5 (by kernel_rfl))
      exact o_pickT rfl GdOk.none (ev_t hv2) (ev_t hv5) (hK _ _ rfl (Below.refl _ _))
    · intro l ac w h hd K hK
      obtain ⟨v6, hv6, rfl⟩ := h.fact 6 _ rfl (dep hd 6 (by kernel_rfl))
      exact o_move rfl GdOk.none (ev_t hv6) (hK _ _ rfl (Below.refl _ _))
    · intro l ac w h hd K hK
      obtain ⟨v7, hv7, rfl⟩ := h.fact 7 _ rfl (dep hd 7 (by kernel_rfl))
      exact o_loadQ rfl (GdOk.of (d := 80) rfl rfl hv7) (ev_t ((h.same 3 (not_dst (by kernel_rfl))).trans t3)) (H3.below h.below).c0 (H3.below h.below).c1 (H3.below h.below).c2 (H3.below h.below).c3 (hK _ _ (H3.below h.below).2 (Below.refl _ _))
    · intro l ac w h hd K hK
      obtain ⟨v7, hv7, rfl⟩ := h.fact 7 _ rfl (dep hd 7 (by kernel_rfl))
      obtain ⟨v8, hv8, hF8⟩ := h.fact 8 _ rfl (dep hd 8 (by kernel_rfl))
      exact o_call1 rfl (GdOk.of (d := 80) rfl rfl hv7) (ev_t hv8) (enters_of Tryz.func51 (by kernel_rfl) rfl) ((string_as ix hs hF8).mono fun e w' ⟨he, h2⟩ => ⟨_, he, hK _ _ rfl h2⟩)
    · intro l ac w h hd K hK
      obtain ⟨v7, hv7, rfl⟩ := h.fact 7 _ rfl (dep hd 7 (by kernel_rfl))
      obtain ⟨v9, hv9, rfl⟩ := h.fact 9 _ rfl (dep hd 9 (by kernel_rfl))
      exact o_conv rfl (GdOk.of (d := 80) rfl rfl hv7) (ev_t hv9) (by omega) hK
    · intro l ac w h hd K hK
      obtain ⟨v7, hv7, rfl⟩ := h.fact 7 _ rfl (dep hd 7 (by kernel_rfl))
      obtain ⟨v10, hv10, hF10⟩ := h.fact 10 _ rfl (dep hd 10 (by kernel_rfl))
      obtain ⟨Ah, nh, ch, rfl, hSl, hnc, hnm⟩ := hF10
      exact o_call2 rfl (GdOk.of (d := 80) rfl rfl hv7) rfl (ev_t hv10) (enters_of Tryz.func58 (by kernel_rfl) rfl) ((hash_bytes _ Ah _ ch _ _ (by decide) hnm hnc hSl (sB_byte _)).mono fun e w' ⟨he, h2⟩ => ⟨_, he, hK _ _ rfl h2⟩)
    · intro l ac w h hd K hK
      obtain ⟨v7, hv7, rfl⟩ := h.fact 7 _ rfl (dep hd 7 (by kernel_rfl))
      exact o_loadQ rfl (GdOk.of (d := 80) rfl rfl hv7) (ev_t ((h.same 4 (not_dst (by kernel_rfl))).trans t4)) (H4.below h.below).c0 (H4.below h.below).c1 (H4.below h.below).c2 (H4.below h.below).c3 (hK _ _ (H4.below h.below).2 (Below.refl _ _))
    · intro l ac w h hd K hK
      obtain ⟨v7, hv7, rfl⟩ := h.fact 7 _ rfl (dep hd 7 (by kernel_rfl))
      obtain ⟨v12, hv12, hF12⟩ := h.fact 12 _ rfl (dep hd 12 (by kernel_rfl))
      exact o_call1 rfl (GdOk.of (d := 80) rfl rfl hv7) (ev_t hv12) (enters_of Tryz.func51 (by kernel_rfl) rfl) ((string_as ix hs hF12).mono fun e w' ⟨he, h2⟩ => ⟨_, he, hK _ _ rfl h2⟩)
    · intro l ac w h hd K hK
      obtain ⟨v7, hv7, rfl⟩ := h.fact 7 _ rfl (dep hd 7 (by kernel_rfl))
      obtain ⟨v13, hv13, rfl⟩ := h.fact 13 _ rfl (dep hd 13 (by kernel_rfl))
      exact o_conv rfl (GdOk.of (d := 80) rfl rfl hv7) (ev_t hv13) (by omega) hK
    · intro l ac w h hd K hK
      obtain ⟨v7, hv7, rfl⟩ := h.fact 7 _ rfl (dep hd 7 (by kernel_rfl))
      obtain ⟨v14, hv14, hF14⟩ := h.fact 14 _ rfl (dep hd 14 (by kernel_rfl))
      obtain ⟨Ah, nh, ch, rfl, hSl, hnc, hnm⟩ := hF14
      exact o_call2 rfl (GdOk.of (d := 80) rfl rfl hv7) rfl (ev_t hv14) (enters_of Tryz.func58 (by kernel_rfl) rfl) ((hash_bytes _ Ah _ ch _ _ (by decide) hnm hnc hSl (sB_byte _)).mono fun e w' ⟨he, h2⟩ => ⟨_, he, hK _ _ rfl h2⟩)
    · intro l ac w h hd K hK
      obtain ⟨v7, hv7, rfl⟩ := h.fact 7 _ rfl (dep hd 7 (by kernel_rfl))
      obtain ⟨v11, hv11, rfl⟩ := h.fact 11 _ rfl (dep hd 11 (by kernel_rfl))
      obtain ⟨v15, hv15, rfl⟩ := h.fact 15 _ rfl (dep hd 15 (by kernel_rfl))
      exact o_eqlU rfl (GdOk.of (d := 80) rfl rfl hv7) (ev_t hv11) (ev_t hv15) (by simp) (hK _ _ rfl (Below.refl _ _))
    · intro l ac w h hd K hK
      obtain ⟨v7, hv7, rfl⟩ := h.fact 7 _ rfl (dep hd 7 (by kernel_rfl))
      obtain ⟨v16, hv16, rfl⟩ := h.fact 16 _ rfl (dep hd 16 (by kernel_rfl))
      exact o_pickT rfl GdOk.none (ev_t hv7) (ev_t hv16) (hK _ _ rfl (Below.refl _ _))
    · intro l ac w h hd K hK
      obtain ⟨v17, hv17, rfl⟩ := h.fact 17 _ rfl (dep hd 17 (by kernel_rfl))
      exact o_move rfl GdOk.none (ev_t hv17) (hK _ _ rfl (Below.refl _ _))
    · intro l ac w h hd K hK
      obtain ⟨v18, hv18, rfl⟩ := h.fact 18 _ rfl (dep hd 18 (by kernel_rfl))
      exact o_call0 rfl (GdOk.of (d := 91) rfl rfl hv18)  (enters_of Tryz.func24 (by kernel_rfl) rfl) ((lives_law _).mono fun e w' ⟨he, h2⟩ => ⟨_, he, hK _ _ rfl h2⟩)
    · intro l ac w h hd K hK
      obtain ⟨v18, hv18, rfl⟩ := h.fact 18 _ rfl (dep hd 18 (by kernel_rfl))
      obtain ⟨v19, hv19, rfl⟩ := h.fact 19 _ rfl (dep hd 19 (by kernel_rfl))
      exact o_pickT rfl GdOk.none (ev_t hv18) (ev_t hv19) (hK _ _ rfl (Below.refl _ _))
    · intro l ac w h hd K hK
      obtain ⟨v20, hv20, rfl⟩ := h.fact 20 _ rfl (dep hd 20 (by kernel_rfl))
      exact o_assign rfl GdOk.none (ev_t hv20) (hK _ _ rfl (Below.refl _ _))
  · intro l ac w h hall
    obtain ⟨v73, q73, r73⟩ := h.fact 0 _ rfl (hall 0 (of_decide_eq_true (by kernel_rfl)))
    obtain ⟨v74, q74, r74⟩ := h.fact 1 _ rfl (hall 1 (of_decide_eq_true (by kernel_rfl)))
    obtain ⟨v75, q75, r75⟩ := h.fact 2 _ rfl (hall 2 (of_decide_eq_true (by kernel_rfl)))
    obtain ⟨v76, q76, r76⟩ := h.fact 3 _ rfl (hall 3 (of_decide_eq_true (by kernel_rfl)))
    obtain ⟨v77, q77, r77⟩ := h.fact 4 _ rfl (hall 4 (of_decide_eq_true (by kernel_rfl)))
    obtain ⟨v78, q78, r78⟩ := h.fact 5 _ rfl (hall 5 (of_decide_eq_true (by kernel_rfl)))
    obtain ⟨v79, q79, r79⟩ := h.fact 6 _ rfl (hall 6 (of_decide_eq_true (by kernel_rfl)))
    obtain ⟨v80, q80, r80⟩ := h.fact 7 _ rfl (hall 7 (of_decide_eq_true (by kernel_rfl)))
    obtain ⟨v81, q81, r81⟩ := h.fact 8 _ rfl (hall 8 (of_decide_eq_true (by kernel_rfl)))
    obtain ⟨v82, q82, r82⟩ := h.fact 9 _ rfl (hall 9 (of_decide_eq_true (by kernel_rfl)))
    obtain ⟨v83, q83, r83⟩ := h.fact 10 _ rfl (hall 10 (of_decide_eq_true (by kernel_rfl)))
    obtain ⟨v84, q84, r84⟩ := h.fact 11 _ rfl (hall 11 (of_decide_eq_true (by kernel_rfl)))
    obtain ⟨v85, q85, r85⟩ := h.fact 12 _ rfl (hall 12 (of_decide_eq_true (by kernel_rfl)))
    obtain ⟨v86, q86, r86⟩ := h.fact 13 _ rfl (hall 13 (of_decide_eq_true (by kernel_rfl)))
    obtain ⟨v87, q87, r87⟩ := h.fact 14 _ rfl (hall 14 (of_decide_eq_true (by kernel_rfl)))
    obtain ⟨v88, q88, r88⟩ := h.fact 15 _ rfl (hall 15 (of_decide_eq_true (by kernel_rfl)))
    obtain ⟨v89, q89, r89⟩ := h.fact 16 _ rfl (hall 16 (of_decide_eq_true (by kernel_rfl)))
    obtain ⟨v90, q90, r90⟩ := h.fact 17 _ rfl (hall 17 (of_decide_eq_true (by kernel_rfl)))
    obtain ⟨v91, q91, r91⟩ := h.fact 18 _ rfl (hall 18 (of_decide_eq_true (by kernel_rfl)))
    obtain ⟨v92, q92, r92⟩ := h.fact 19 _ rfl (hall 19 (of_decide_eq_true (by kernel_rfl)))
    obtain ⟨v93, q93, r93⟩ := h.fact 20 _ rfl (hall 20 (of_decide_eq_true (by kernel_rfl)))
    obtain ⟨v2, q2, r2⟩ := h.fact 21 _ rfl (hall 21 (of_decide_eq_true (by kernel_rfl)))
    have ha := act_of [(73, v73), (74, v74), (75, v75), (76, v76), (77, v77), (78, v78), (79, v79), (80, v80), (81, v81), (82, v82), (83, v83), (84, v84), (85, v85), (86, v86), (87, v87), (88, v88), (89, v89), (90, v90), (91, v91), (92, v92), (93, v93), (2, v2)] h.defers h.size (List.forall_mem_cons.2 ⟨q73, List.forall_mem_cons.2 ⟨q74, List.forall_mem_cons.2 ⟨q75, List.forall_mem_cons.2 ⟨q76, List.forall_mem_cons.2 ⟨q77, List.forall_mem_cons.2 ⟨q78, List.forall_mem_cons.2 ⟨q79, List.forall_mem_cons.2 ⟨q80, List.forall_mem_cons.2 ⟨q81, List.forall_mem_cons.2 ⟨q82, List.forall_mem_cons.2 ⟨q83, List.forall_mem_cons.2 ⟨q84, List.forall_mem_cons.2 ⟨q85, List.forall_mem_cons.2 ⟨q86, List.forall_mem_cons.2 ⟨q87, List.forall_mem_cons.2 ⟨q88, List.forall_mem_cons.2 ⟨q89, List.forall_mem_cons.2 ⟨q90, List.forall_mem_cons.2 ⟨q91, List.forall_mem_cons.2 ⟨q92, List.forall_mem_cons.2 ⟨q93, List.forall_mem_cons.2 ⟨q2, fun _ h => by cases h⟩⟩⟩⟩⟩⟩⟩⟩⟩⟩⟩⟩⟩⟩⟩⟩⟩⟩⟩⟩⟩⟩) (fun t ht => h.same t (fun hm => ht (in_dst (F := [73, 74, 75, 76, 77, 78, 79, 80, 81, 82, 83, 84, 85, 86, 87, 88, 89, 90, 91, 92, 93, 2]) (by kernel_rfl) hm)))
    rw [ha]
    exact hQ w _ _ _ _ _ _ _ _ _ _ _ _ _ _ _ _ _ _ _ _ _ _ h.below   r2
end Go.Proofs.YtocooajlfpngdaaGreatDoor
namespace Go.Proofs.YtocooajlfpngdaaGreatDoor
open Go.RowKit
set_option linter.unusedVariables false

theorem enc_byte {s1 s2 : ByteArray} (h : (encR (sB s1)).length ≤ 10001 ∧ (encR (sB s2)).length ≤ 10001 ∧ rdL rdO ⟨encR (sB s1) ++ encR (sB s2), 0⟩ = (sB s1, ⟨encR (sB s2), 0⟩) ∧ rdL rdO ⟨encR (sB s2), 0⟩ = (sB s2, ⟨[], 0⟩)) : ∀ x ∈ (([] : List Int) ++ encR (sB s1) ++ encR (sB s2)), byteI x := by
  intro x hx
  have key : ∀ s : ByteArray, (encR (sB s)).length ≤ 10001 → ∀ x ∈ encR (sB s), byteI x := by
    intro s hl x hx
    unfold encR at hx hl
    rcases List.mem_append.1 hx with hx | hx
    · exact encU_byte _ (Int.natCast_nonneg _) x hx
    · exact sB_byte s x hx
  rw [List.nil_append] at hx
  rcases List.mem_append.1 hx with hx | hx
  · exact key s1 h.1 x hx
  · exact key s2 h.2.1 x hx
theorem equal_same {a : Rat} {u v : Value} {w : World} (ha : RepF w w.heap.size a u) (hb : RepF w w.heap.size a v) (ia : InF a) : Calls Tryz.prog 41 #[u, v] w (fun e w' => e = .returned (.bool true) ∧ Below w.heap.size w w') := by
  have h := equal_cmp ha hb ia ia
  rw [cmpF_self] at h
  exact h
theorem sgnF_selfsub {x : Rat} : sgnF (x + -x) = 0 := by
  rw [show x + -x = 0 by grind]
  exact sgnF_zero
set_option maxRecDepth 100000 in
set_option maxHeartbeats 8000000 in
theorem fracWritten_law (A0 : Option Addr) (n0 c0 : Nat) (zs : List Int) (w : World) (hI : InI w A0 n0 zs) (hn : n0 ≤ 9223372036854775807) :
    Calls Tryz.prog 10 #[.slice A0 n0 c0] w (fun e w' => e = .returned (.bool true) ∧ Below w.heap.size w w') := by
  have HI := Lib.hid hI
  clear hI
  have HB := Lib.hid (Below.refl w.heap.size w)
  go_enter Tryz.func10, Tryz.ntmps10
  go_wp2_with fail
  refine (gfrac_any A0 n0 c0 0 zs _ HI.out hn (by omega) (by omega)).mono ?_
  rintro e w51 ⟨x51, hx, v, rfl, h, b⟩
  obtain ⟨d51, A51, n51, c51, e51, E51, m51, f51, rfl⟩ := h.shape
  have z51 := b.size
  replace z51 := Lib.hid z51
  replace HI := Lib.hid (HI.out.below b)
  replace HB := Lib.hid (bstep HB.out b)
  have V51 := Lib.hid h
  have S51 := Lib.hid (fr_sz hx)
  clear h b hx
  go_wp2_with fail
  refine (of_law x51 _ _ V51.out (S51.out.inF (by omega))).mono ?_
  rintro e w52 ⟨v, rfl, h, b⟩
  obtain ⟨d52, A52, n52, c52, e52, E52, m52, f52, rfl⟩ := h.shape
  have z52 := b.size
  replace z52 := Lib.hid z52
  replace HI := Lib.hid (HI.out.below b)
  replace HB := Lib.hid (bstep HB.out b)
  replace V51 := Lib.hid (V51.out.step b)
  have V52 := Lib.hid h
  clear h b
  clear V51
  have h := HoldQ.new V52.out
  have b := al_below w52 (.cells #[.bool d52, .slice A52 n52 c52, .bool e52, .slice E52 m52 f52] 36)
  replace HI := Lib.hid (HI.out.below b)
  replace HB := Lib.hid (bstep HB.out b)
  clear b
  have H52 := Lib.hid h
  clear h V52
  go_wp2_with fail
  refine (gfrac_any A0 n0 c0 4 zs _ HI.out hn (by omega) (by omega)).mono ?_
  rintro e w53 ⟨x53, hx, v, rfl, h, b⟩
  obtain ⟨d53, A53, n53, c53, e53, E53, m53, f53, rfl⟩ := h.shape
  have z53 := b.size
  simp only [World.size_alloc] at z53
  replace z53 := Lib.hid z53
  replace HI := Lib.hid (HI.out.below b)
  replace HB := Lib.hid (bstep HB.out b)
  replace H52 := Lib.hid (H52.out.below b)
  have V53 := Lib.hid h
  have S53 := Lib.hid (fr_sz hx)
  clear h b hx
  go_wp2_with fail
  refine (of_law x53 _ _ V53.out (S53.out.inF (by omega))).mono ?_
  rintro e w54 ⟨v, rfl, h, b⟩
  obtain ⟨d54, A54, n54, c54, e54, E54, m54, f54, rfl⟩ := h.shape
  have z54 := b.size
  replace z54 := Lib.hid z54
  replace HI := Lib.hid (HI.out.below b)
  replace HB := Lib.hid (bstep HB.out b)
  replace H52 := Lib.hid (H52.out.below b)
  replace V53 := Lib.hid (V53.out.step b)
  have V54 := Lib.hid h
  clear h b
  clear V53
  have h := HoldQ.new V54.out
  have b := al_below w54 (.cells #[.bool d54, .slice A54 n54 c54, .bool e54, .slice E54 m54 f54] 36)
  replace HI := Lib.hid (HI.out.below b)
  replace HB := Lib.hid (bstep HB.out b)
  replace H52 := Lib.hid (H52.out.below b)
  clear b
  have H54 := Lib.hid h
  clear h V54
  clear HI
  obtain ⟨xa, hx⟩ : ∃ x, x51 = x := ⟨_, rfl⟩
  rw [hx] at H52 S51
  clear hx
  obtain ⟨xb, hx⟩ : ∃ x, x53 = x := ⟨_, rfl⟩
  rw [hx] at H54 S53
  clear hx
  have SA := Lib.hid S51.out
  have SB := Lib.hid S53.out
  have IA := Lib.hid (S51.out.inF (by omega))
  have IB := Lib.hid (S53.out.inF (by omega))
  clear S51 S53 hn
  obtain ⟨sa, hsa⟩ : ∃ s, strB (textQ xa) = s := ⟨_, rfl⟩
  obtain ⟨sb, hsb⟩ : ∃ s, strB (textQ xb) = s := ⟨_, rfl⟩
  have la := textw_len IA.out
  have lb := textw_len IB.out
  rw [hsa] at la
  rw [hsb] at lb
  have WOK := Lib.hid (wr_ok la lb)
  have LA := Lib.hid la
  have LB := Lib.hid lb
  have HSA := Lib.hid hsa
  have HSB := Lib.hid hsb
  clear la lb hsa hsb
  have z51_ := z51.out
  have z52_ := z52.out
  have z53_ := z53.out
  have z54_ := z54.out
  have hb := al_below (w54.alloc (.cells #[.bool d54, .slice A54 n54 c54, .bool e54, .slice E54 m54 f54] 36)) (.cells #[.slice none 0 0] 81)
  have FA := FixQ.new H52.out hb
  have FB := FixQ.new H54.out hb
  have WR := Wr.new (w54.alloc (.cells #[.bool d54, .slice A54 n54 c54, .bool e54, .slice E54 m54 f54] 36))
  clear hb
  simp only [World.size_alloc] at FA FB WR
  replace FA := Lib.hid FA
  replace FB := Lib.hid FB
  replace WR := Lib.hid WR
  have HPW := Lib.hid (show w.heap.size ≤ w54.heap.size + 1 by omega)
  clear z51_ z52_ z53_ z54_
  have b := al_below (w54.alloc (.cells #[.bool d54, .slice A54 n54 c54, .bool e54, .slice E54 m54 f54] 36)) (.cells #[.slice none 0 0] 81)
  replace HB := Lib.hid (bstep HB.out b)
  replace H52 := Lib.hid (H52.out.below b)
  replace H54 := Lib.hid (H54.out.below b)
  clear b
  clear H52 H54
  have gFA0 := FA.out.hold.c0
  have gFA1 := FA.out.hold.c1
  have gFA2 := FA.out.hold.c2
  have gFA3 := FA.out.hold.c3
  go_wp2_with fail
  refine (string_as IA.out HSA.out FA.out.hold.2).mono ?_
  rintro e w55 ⟨rfl, b⟩
  clear gFA0 gFA1 gFA2 gFA3
  have z55 := b.size
  simp only [World.size_alloc] at z55
  replace z55 := Lib.hid z55
  replace HB := Lib.hid (bstep HB.out b)
  replace FA := Lib.hid (FA.out.below b)
  replace FB := Lib.hid (FB.out.below b)
  replace WR := Lib.hid (WR.out.below b)
  clear b
  go_wp2_with fail
  have hl := LA.out
  refine (w_text (w54.heap.size + 1) ([] : List Int) sa _ WR.out (by simp; omega)).mono ?_
  rintro e w56 ⟨rfl, hw, b⟩
  clear hl
  replace WR := Lib.hid hw
  replace FA := Lib.hid (FA.out.low b)
  replace FB := Lib.hid (FB.out.low b)
  replace HB := Lib.hid (HB.out.trans (b.mono HPW.out))
  clear hw b
  have gFB0 := FB.out.hold.c0
  have gFB1 := FB.out.hold.c1
  have gFB2 := FB.out.hold.c2
  have gFB3 := FB.out.hold.c3
  go_wp2_with fail
  refine (string_as IB.out HSB.out FB.out.hold.2).mono ?_
  rintro e w57 ⟨rfl, b⟩
  clear gFB0 gFB1 gFB2 gFB3
  have z57 := b.size
  replace z57 := Lib.hid z57
  replace HB := Lib.hid (bstep HB.out b)
  replace FA := Lib.hid (FA.out.below b)
  replace FB := Lib.hid (FB.out.below b)
  replace WR := Lib.hid (WR.out.below b)
  clear b
  go_wp2_with fail
  have hl := LB.out
  refine (w_text (w54.heap.size + 1) (([] : List Int) ++ encR (sB sa)) sb _ WR.out (by have := WOK.out.1; simp only [List.nil_append]; omega)).mono ?_
  rintro e w58 ⟨rfl, hw, b⟩
  clear hl
  replace WR := Lib.hid hw
  replace FA := Lib.hid (FA.out.low b)
  replace FB := Lib.hid (FB.out.low b)
  replace HB := Lib.hid (HB.out.trans (b.mono HPW.out))
  clear hw b
  obtain ⟨bs, hbs⟩ : ∃ l, ((([] : List Int) ++ encR (sB sa)) ++ encR (sB sb)) = l := ⟨_, rfl⟩
  have WR' := WR.out
  rw [hbs] at WR'
  replace WR := Lib.hid WR'
  have HBL := Lib.hid (show bs.length ≤ 1000000 by rw [← hbs]; have h1 := WOK.out.1; have h2 := WOK.out.2.1; simp only [List.nil_append, List.length_append]; omega)
  have HBY := Lib.hid (show ∀ x ∈ bs, byteI x from hbs ▸ enc_byte WOK.out)
  have HBE := Lib.hid (show bs = encR (sB sa) ++ encR (sB sb) by rw [← hbs, List.nil_append])
  clear hbs WR'
  go_wp2_with fail
  refine (w_done (w54.heap.size + 1) bs _ WR.out HBL.out).mono ?_
  rintro e w59 ⟨v, rfl, ho, b⟩
  obtain ⟨AD, cD, rfl, hnc, hcm, hA, hsl⟩ := own_sl (k := .u8) ho
  clear WR ho
  replace HB := Lib.hid (bstep HB.out b)
  replace FA := Lib.hid (FA.out.below b)
  replace FB := Lib.hid (FB.out.below b)
  clear b
  go_wp2_with fail
  refine (r_read _ _ _ _ _ hsl hA HBL.out HBY.out).mono ?_
  rintro e w60 ⟨q, rfl, hq, hr, b⟩
  have HWQ := Lib.hid (show w.heap.size ≤ q from Nat.le_trans HB.out.size hq)
  replace HB := Lib.hid (bstep HB.out b)
  replace FA := Lib.hid (FA.out.below b)
  replace FB := Lib.hid (FB.out.below b)
  clear b hsl hA hnc hcm hq
  have RD := Lib.hid (show RdW w60 q w60.heap.size ⟨encR (sB sa) ++ encR (sB sb), 0⟩ from HBE.out ▸ hr)
  clear hr HBL HBY HBE
  obtain ⟨BR, hBR⟩ : ∃ B, w60.heap.size = B := ⟨_, rfl⟩
  rw [hBR] at RD
  clear hBR
  have H52 := Lib.hid FA.out.hold
  have H54 := Lib.hid FB.out.hold
  clear FA FB
  go_wp2_with fail
  have CT := r_text q BR ⟨encR (sB sa) ++ encR (sB sb), 0⟩ _ RD.out (by have h1 := WOK.out.1; have h2 := WOK.out.2.1; simp only [List.length_append]; omega)
  rw [WOK.out.2.2.1] at CT
  simp only [strOf_sB] at CT
  refine CT.mono ?_
  rintro e w61 ⟨rfl, hr, hg⟩
  clear CT
  replace HB := Lib.hid (below_grown1 HB.out hg HB.out.size HWQ.out)
  replace H52 := Lib.hid (H52.out.off_rd RD.out hg)
  replace H54 := Lib.hid (H54.out.off_rd RD.out hg)
  replace RD := Lib.hid (show RdW w61 q BR ⟨encR (sB sb), 0⟩ from hr)
  clear hr hg
  go_wp2_with fail
  refine (parse_as IA.out HSA.out _).mono ?_
  rintro e w62 ⟨v, rfl, h, b⟩
  obtain ⟨d62, A62, n62, c62, e62, E62, m62, f62, rfl⟩ := h.shape
  have z62 := b.size
  replace z62 := Lib.hid z62
  replace HB := Lib.hid (bstep HB.out b)
  replace H52 := Lib.hid (H52.out.below b)
  replace H54 := Lib.hid (H54.out.below b)
  replace RD := Lib.hid (RD.out.below b)
  have V62 := Lib.hid h
  clear h b
  have h := HoldQ.new V62.out
  have b := al_below w62 (.cells #[.bool d62, .slice A62 n62 c62, .bool e62, .slice E62 m62 f62] 36)
  replace HB := Lib.hid (bstep HB.out b)
  replace H52 := Lib.hid (H52.out.below b)
  replace H54 := Lib.hid (H54.out.below b)
  replace RD := Lib.hid (RD.out.below b)
  clear b
  have H62 := Lib.hid h
  clear h V62
  go_wp2_with fail
  have CT := r_text q BR ⟨encR (sB sb), 0⟩ _ RD.out (by have h1 := WOK.out.1; have h2 := WOK.out.2.1; show (encR (sB sb)).length ≤ _; omega)
  rw [WOK.out.2.2.2] at CT
  simp only [strOf_sB] at CT
  refine CT.mono ?_
  rintro e w63 ⟨rfl, hr, hg⟩
  clear CT
  replace HB := Lib.hid (below_grown1 HB.out hg HB.out.size HWQ.out)
  replace H52 := Lib.hid (H52.out.off_rd RD.out hg)
  replace H54 := Lib.hid (H54.out.off_rd RD.out hg)
  replace H62 := Lib.hid (H62.out.off_rd RD.out hg)
  replace RD := Lib.hid (show RdW w63 q BR ⟨[], 0⟩ from hr)
  clear hr hg
  go_wp2_with fail
  refine (parse_as IB.out HSB.out _).mono ?_
  rintro e w64 ⟨v, rfl, h, b⟩
  obtain ⟨d64, A64, n64, c64, e64, E64, m64, f64, rfl⟩ := h.shape
  have z64 := b.size
  replace z64 := Lib.hid z64
  replace HB := Lib.hid (bstep HB.out b)
  replace H52 := Lib.hid (H52.out.below b)
  replace H54 := Lib.hid (H54.out.below b)
  replace RD := Lib.hid (RD.out.below b)
  replace H62 := Lib.hid (H62.out.below b)
  have V64 := Lib.hid h
  clear h b
  have h := HoldQ.new V64.out
  have b := al_below w64 (.cells #[.bool d64, .slice A64 n64 c64, .bool e64, .slice E64 m64 f64] 36)
  replace HB := Lib.hid (bstep HB.out b)
  replace H52 := Lib.hid (H52.out.below b)
  replace H54 := Lib.hid (H54.out.below b)
  replace RD := Lib.hid (RD.out.below b)
  replace H62 := Lib.hid (H62.out.below b)
  clear b
  have H64 := Lib.hid h
  clear h V64
  go_wp2_with fail
  refine (r_end q BR ⟨[], 0⟩ _ RD.out (by simp)).mono ?_
  rintro e w65 ⟨rfl, rfl⟩
  rw [show endE ⟨[], 0⟩ = 0 from rfl]
  clear RD
  have gH620 := H62.out.c0
  have gH621 := H62.out.c1
  have gH622 := H62.out.c2
  have gH623 := H62.out.c3
  have gH520 := H52.out.c0
  have gH521 := H52.out.c1
  have gH522 := H52.out.c2
  have gH523 := H52.out.c3
  go_wp2_with fail
  refine (equal_same H62.out.2 H52.out.2 IA.out).mono ?_
  rintro e w66 ⟨rfl, b⟩
  clear gH620 gH621 gH622 gH623 gH520 gH521 gH522 gH523
  have z66 := b.size
  simp only [World.size_alloc] at z66
  replace z66 := Lib.hid z66
  replace HB := Lib.hid (bstep HB.out b)
  replace H52 := Lib.hid (H52.out.below b)
  replace H54 := Lib.hid (H54.out.below b)
  replace H62 := Lib.hid (H62.out.below b)
  replace H64 := Lib.hid (H64.out.below b)
  clear b
  have gH640 := H64.out.c0
  have gH641 := H64.out.c1
  have gH642 := H64.out.c2
  have gH643 := H64.out.c3
  have gH540 := H54.out.c0
  have gH541 := H54.out.c1
  have gH542 := H54.out.c2
  have gH543 := H54.out.c3
  go_wp2_with fail
  refine (equal_same H64.out.2 H54.out.2 IB.out).mono ?_
  rintro e w67 ⟨rfl, b⟩
  clear gH640 gH641 gH642 gH643 gH540 gH541 gH542 gH543
  have z67 := b.size
  replace z67 := Lib.hid z67
  replace HB := Lib.hid (bstep HB.out b)
  replace H52 := Lib.hid (H52.out.below b)
  replace H54 := Lib.hid (H54.out.below b)
  replace H62 := Lib.hid (H62.out.below b)
  replace H64 := Lib.hid (H64.out.below b)
  clear b
  have gH620 := H62.out.c0
  have gH621 := H62.out.c1
  have gH622 := H62.out.c2
  have gH623 := H62.out.c3
  have gH640 := H64.out.c0
  have gH641 := H64.out.c1
  have gH642 := H64.out.c2
  have gH643 := H64.out.c3
  go_wp2_with fail
  refine (fsub_sz H62.out.2 H64.out.2 SA.out SB.out (by omega)).mono ?_
  rintro e w68 ⟨v, rfl, h, b⟩
  obtain ⟨d68, A68, n68, c68, e68, E68, m68, f68, rfl⟩ := h.shape
  clear gH620 gH621 gH622 gH623 gH640 gH641 gH642 gH643
  have z68 := b.size
  replace z68 := Lib.hid z68
  replace HB := Lib.hid (bstep HB.out b)
  replace H52 := Lib.hid (H52.out.below b)
  replace H54 := Lib.hid (H54.out.below b)
  replace H62 := Lib.hid (H62.out.below b)
  replace H64 := Lib.hid (H64.out.below b)
  have V68 := Lib.hid h
  clear h b
  have h := HoldQ.new V68.out
  have b := al_below w68 (.cells #[.bool d68, .slice A68 n68 c68, .bool e68, .slice E68 m68 f68] 36)
  replace HB := Lib.hid (bstep HB.out b)
  replace H52 := Lib.hid (H52.out.below b)
  replace H54 := Lib.hid (H54.out.below b)
  replace H62 := Lib.hid (H62.out.below b)
  replace H64 := Lib.hid (H64.out.below b)
  clear b
  have H68 := Lib.hid h
  clear h V68
  clear H62
  clear H64
  have ID := Lib.hid ((Sz.add SA.out (Sz.neg SB.out)).inF (by omega))
  by_cases hab : xa = xb
  · subst hab
    have hss : sa = sb := HSA.out.symm.trans HSB.out
    clear HSB LB SB IB WOK
    subst hss
    have gH520 := H52.out.c0
    have gH521 := H52.out.c1
    have gH522 := H52.out.c2
    have gH523 := H52.out.c3
    have gH540 := H54.out.c0
    have gH541 := H54.out.c1
    have gH542 := H54.out.c2
    have gH543 := H54.out.c3
    go_wp2_with fail
    refine (equal_same H52.out.2 H54.out.2 IA.out).mono ?_
    rintro e w69 ⟨rfl, b⟩
    clear gH520 gH521 gH522 gH523 gH540 gH541 gH542 gH543
    have z69 := b.size
    simp only [World.size_alloc] at z69
    replace z69 := Lib.hid z69
    replace HB := Lib.hid (bstep HB.out b)
    replace H52 := Lib.hid (H52.out.below b)
    replace H54 := Lib.hid (H54.out.below b)
    replace H68 := Lib.hid (H68.out.below b)
    clear b
    go_wp2_with fail
    refine wr_r15 rfl rfl rfl H52.out rfl H54.out rfl H68.out IA.out ID.out sgnF_selfsub HSA.out LA.out ?_
    intro w70 u73 u74 u75 u76 u77 u78 u79 u80 u81 u82 u83 u84 u85 u86 u87 u88 u89 u90 u91 u92 u93 u2   b   o2
    obtain rfl := o2
    simp only [List.foldl_cons, List.foldl_nil, List.setIfInBounds_toArray, List.set_cons_zero, List.set_cons_succ]
    have z70 := b.size
    replace z70 := Lib.hid z70
    replace HB := Lib.hid (bstep HB.out b)
    replace H52 := Lib.hid (H52.out.below b)
    replace H54 := Lib.hid (H54.out.below b)
    replace H68 := Lib.hid (H68.out.below b)
    clear b
    have HF := HB.out
    clear HB H52 H54 H68
    go_wp2_with fail
    go_ret
    exact ⟨rfl, HF⟩
  · skip
    obtain ⟨c, hc⟩ : ∃ c, cmpF xa xb = c := ⟨_, rfl⟩
    have hc0 : (c == 0) = false := by
      have : c ≠ 0 := fun h => hab (cmpF_zero.1 (hc.trans h))
      simp [this]
    obtain ⟨s, hs⟩ : ∃ s, sgnF (xa + -xb) = s := ⟨_, rfl⟩
    have hs0 : (s == 0) = false := by
      have : s ≠ 0 := fun h => sgnF_ne (z := xa + -xb) (fun e => hab (by grind)) (hs.trans h)
      simp [this]
    have hc1 : (c != 0) = true := by rw [bne, hc0]; rfl
    have hs1 : (s != 0) = true := by rw [bne, hs0]; rfl
    have hc2 : c ≠ 0 := by simpa using hc0
    have hs2 : s ≠ 0 := by simpa using hs0
    have HC := Lib.hid hc
    have HS := Lib.hid hs
    clear hc hs hab
    have gH520 := H52.out.c0
    have gH521 := H52.out.c1
    have gH522 := H52.out.c2
    have gH523 := H52.out.c3
    have gH540 := H54.out.c0
    have gH541 := H54.out.c1
    have gH542 := H54.out.c2
    have gH543 := H54.out.c3
    go_wp2_with fail
    refine (HC.out ▸ equal_cmp H52.out.2 H54.out.2 IA.out IB.out).mono ?_
    rintro e w71 ⟨rfl, b⟩
    clear gH520 gH521 gH522 gH523 gH540 gH541 gH542 gH543
    have z71 := b.size
    simp only [World.size_alloc] at z71
    replace z71 := Lib.hid z71
    replace HB := Lib.hid (bstep HB.out b)
    replace H52 := Lib.hid (H52.out.below b)
    replace H54 := Lib.hid (H54.out.below b)
    replace H68 := Lib.hid (H68.out.below b)
    clear b
    have gH680 := H68.out.c0
    have gH681 := H68.out.c1
    have gH682 := H68.out.c2
    have gH683 := H68.out.c3
    go_wp2_with fail
    refine (HS.out ▸ fsgn_in H68.out.2 ID.out).mono ?_
    rintro e w72 ⟨rfl, b⟩
    clear gH680 gH681 gH682 gH683
    have z72 := b.size
    replace z72 := Lib.hid z72
    replace HB := Lib.hid (bstep HB.out b)
    replace H52 := Lib.hid (H52.out.below b)
    replace H54 := Lib.hid (H54.out.below b)
    replace H68 := Lib.hid (H68.out.below b)
    clear b
    have gH520 := H52.out.c0
    have gH521 := H52.out.c1
    have gH522 := H52.out.c2
    have gH523 := H52.out.c3
    have gH540 := H54.out.c0
    have gH541 := H54.out.c1
    have gH542 := H54.out.c2
    have gH543 := H54.out.c3
    go_wp2_with fail
    refine (HC.out ▸ fcmp_in H52.out.2 H54.out.2 IA.out IB.out).mono ?_
    rintro e w73 ⟨rfl, b⟩
    clear gH520 gH521 gH522 gH523 gH540 gH541 gH542 gH543
    have z73 := b.size
    replace z73 := Lib.hid z73
    replace HB := Lib.hid (bstep HB.out b)
    replace H52 := Lib.hid (H52.out.below b)
    replace H54 := Lib.hid (H54.out.below b)
    replace H68 := Lib.hid (H68.out.below b)
    clear b
    go_wp2_with fail
    refine (lives_law _).mono ?_
    rintro e w74 ⟨rfl, b⟩
    have z74 := b.size
    replace z74 := Lib.hid z74
    replace HB := Lib.hid (bstep HB.out b)
    replace H52 := Lib.hid (H52.out.below b)
    replace H54 := Lib.hid (H54.out.below b)
    replace H68 := Lib.hid (H68.out.below b)
    clear b
    have HF := HB.out
    clear HB H52 H54 H68
    go_wp2_with fail
    go_ret
    exact ⟨rfl, HF⟩
end Go.Proofs.YtocooajlfpngdaaGreatDoor
