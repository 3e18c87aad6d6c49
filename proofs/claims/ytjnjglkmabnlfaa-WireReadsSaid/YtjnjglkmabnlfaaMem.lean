/- A writer's and a reader's memory: what their blocks hold, and what leaves them alone. -/
import Derived.Test.YtjnjglkmabnlfaaRef
import Derived.Test.YtjnjglkmabnlfaaWireM
import Derived.Test.YtjnjglkmabnlfaaCells
import Derived.RangeFuncBox
import Derived.Maps.AppendAt
import Derived.Laws.AppendOwnNone
import Derived.Lib.AppendStr
import Derived.Lib.SliceRun
import Derived.Test.YtjnjglkmabnlfaaConv
namespace Go.Proofs.Ytjnjglkmabnlfaa
open Go.RowKit
set_option linter.unusedVariables false

/-- a list as cells of bytes, of ints -/
def cB (l : List Int) : List Value := l.map (Value.int .u8)
def cI (l : List Int) : List Value := l.map (Value.int .i64)
theorem cB_snoc (l : List Int) (x : Int) : cB l ++ [Value.int .u8 x] = cB (l ++ [x]) := by simp [cB]
theorem cB_app (l r : List Int) : cB l ++ cB r = cB (l ++ r) := by simp [cB]
theorem cB_len (l : List Int) : (cB l).length = l.length := by simp [cB]
theorem cI_len (l : List Int) : (cI l).length = l.length := by simp [cI]

/-- block p is a writer whose bytes are bs; its row lies at p or behind -/
def Wr (w : World) (p : Nat) (bs : List Int) : Prop := ∃ v, Boxed w p 32 v ∧ w.ownsRow p 5 1 v bs.length (cB bs)

theorem Wr.lt {w : World} {p : Nat} {bs : List Int} (h : Wr w p bs) : p < w.heap.size := by
  obtain ⟨v, hv, _⟩ := h; exact hv.lt
theorem Wr.below {w w' : World} {p : Nat} {bs : List Int} (h : Wr w p bs) (hb : Below w.heap.size w w') : Wr w' p bs := by
  obtain ⟨v, hv, hr⟩ := h
  exact ⟨v, (hb.block p hv.lt).trans hv, ownsRow_below' hr hb⟩
theorem Wr.drewN {w : World} {p : Nat} {bs : List Int} (h : Wr w p bs) (q : Nat) : Wr (w.drewN q) p bs := h
theorem Wr.new (w : World) : Wr (w.alloc (.cells #[.slice none 0 0] 32)) w.heap.size [] := ⟨_, Boxed.new w _ _, World.ownsRow_nil _ _ _ _⟩
/-- what is below a world's end stays so -/
theorem Below.of_size {B : Nat} {w w' : World} (h : Below w.heap.size w w') (hB : B ≤ w.heap.size) : Below B w w' := h.mono hB
/-- append of a slice that came from elsewhere, nil or not -/
theorem wpList_append_sl {P : Program} {w : World} {ops : Array Oper} {rest : List Oper} {o : Oper} {a : Act} {Q : Exit → Act → World → Prop} (hgd : o.guard = none) (s x : Operand) (t : TypeId)
    (ho : o.op = .call { callee := .builtin .append, args := #[s, x], argTypes := #[t, t] })
    (base : Nat) (e : TypeId) (i : TypeInfo) (z : Value) (bytes : Nat) (ht : P.underlying t = some (.slice e)) (hi : P.info? e = some i) (hz : i.zero = some z)
    (hsize : i.size = 1) (hby : i.bytes = bytes) (hzs : z.cells.size = 1)
    (v : Value) (n : Nat) (xs : List Value) (hs : a.eval s = v) (hown : w.ownsRow base e 1 v n xs)
    (k : IntKind) (B : Nat) (A : Option Addr) (m c : Nat) (zs : List Int) (hx : a.eval x = .slice A m c) (hsl : Sl k w B A m zs) (hA : A = none → c = 0)
    (h63 : n + m ≤ maxLen) (hbytes : (n + m) * bytes ≤ 140737488355328) (hbase : base ≤ w.heap.size)
    (h : ∀ v' w', w'.ownsRow base e 1 v' (n + m) (xs ++ zs.map (Value.int k)) → w.grownBy w' v.ownBlock → wpList P ops Q rest (a.put o.dst v') w') : wpList P ops Q (o :: rest) a w := by
  have hl := hsl.len
  cases A with
  | none =>
    have hm : m = 0 := by
      rcases Nat.eq_zero_or_pos m with h0 | h0
      · exact h0
      · obtain ⟨_, _, hA', _⟩ := hsl.at_ h0
        cases hA'
    subst hm
    have hzz : zs = [] := List.eq_nil_of_length_eq_zero hl
    subst hzz
    rw [hA rfl] at hx
    exact wpList_append_own_none hgd s x t ho base e i 1 ht hi v n xs hs hown hx (h v w (by simpa using hown) (World.grownBy.refl _ _))
  | some ad =>
    refine wpList_append_own w hgd s x t ho base e i z 1 bytes ht hi hz hsize hby hzs (by omega) v n xs hs hown ad m c (zs.map (Value.int k)) hx (by simp [hl]) ?_ (ints_oneCell k zs) h63 hbytes hbase (fun v' w' h1 h2 _ => h v' w' h1 h2)
    intro j u hu
    have hj : j < zs.length := by have := (List.getElem?_eq_some_iff.1 hu).1; simpa using this
    obtain ⟨b, off, hA', _, hc⟩ := hsl.at_ (by omega)
    cases hA'
    rw [add_lit, hc j (by omega), ← hu, List.getElem?_map, List.getElem?_eq_getElem hj]
    rfl

/-- the writer's box behind an append that laid no block of its own -/
theorem box_put {W w1 : World} {B : Nat} {t e : TypeId} {v v' : Value} {k m : Nat} {xs ys : List Value}
    (hv : Boxed W B t v) (hte : t ≠ e) (hrow : W.ownsRow B e 1 v k xs) (hown' : w1.ownsRow B e 1 v' m ys) (hg : W.grownBy w1 v.ownBlock) :
    Boxed w1 B t v ∧ Boxed (w1.setCell ⟨B, 0, none⟩ v') B t v' ∧ (w1.setCell ⟨B, 0, none⟩ v').ownsRow B e 1 v' m ys ∧ Below B W (w1.setCell ⟨B, 0, none⟩ v') := by
  have hv1 : Boxed w1 B t v := hv.kept hg (hv.not_row hte hrow)
  refine ⟨hv1, hv1.set v', hown'.kept (grownBy_setCell' w1 B v') (.inr (hv1.not_row hte hown').symm), ?_⟩
  exact ((Below.refl B W).grown hg (Nat.le_of_lt hv.lt) fun j ej => (hrow.lt j ej).1).setCell (p := ⟨B, 0, none⟩) (Nat.le_refl _) v'
/-- a row of the call's own, read as numbers; of nil the capacity is 0 -/
theorem own_sl {k : IntKind} {w : World} {base n : Nat} {e : TypeId} {v : Value} {zs : List Int} (h : w.ownsRow base e 1 v n (zs.map (Value.int k))) :
    ∃ A c, v = .slice A n c ∧ n ≤ c ∧ c ≤ maxLen ∧ (A = none → c = 0) ∧ Sl k w w.heap.size A n zs := by
  obtain ⟨A, c, rfl, h1, h2, h3⟩ := Sl.of_own h
  refine ⟨A, c, rfl, h1, h2, ?_, h3⟩
  rintro rfl
  rcases h.2 with ⟨e1, _⟩ | ⟨g, cap, cur, e1, _⟩
  · injection e1
  · simp at e1
theorem sl_none {k : IntKind} {w : World} {B n : Nat} {zs : List Int} (h : Sl k w B none n zs) : n = 0 ∧ zs = [] := by
  have hm : n = 0 := by
    rcases Nat.eq_zero_or_pos n with h0 | h0
    · exact h0
    · obtain ⟨_, _, hA', _⟩ := h.at_ h0
      cases hA'
  exact ⟨hm, List.eq_nil_of_length_eq_zero (by rw [h.len, hm])⟩
theorem strCells_eq (s : ByteArray) : Lib.strCells s = cB (sB s) := by simp [Lib.strCells, cB, sB]
end Go.Proofs.Ytjnjglkmabnlfaa
