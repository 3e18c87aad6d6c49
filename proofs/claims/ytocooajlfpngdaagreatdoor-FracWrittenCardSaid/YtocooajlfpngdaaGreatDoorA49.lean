/- A writer's and a reader's memory: what their blocks hold, and what leaves them alone. · A reader's block: a slice and an error; what leaves it alone. · Contracts of the writer's methods. · Contracts of the reader's methods. · Contracts of the reader's other methods. · Contracts of the reader's lists: list, Text, Raw, Ints. -/
import Derived.Test.YtocooajlfpngdaaGreatDoorA47
import Derived.Test.YtocooajlfpngdaaGreatDoorA48
import Derived.Test.YtocooajlfpngdaaGreatDoorA07
import Derived.RangeFuncBox
import Derived.Maps.AppendAt
import Derived.Laws.AppendOwnNone
import Derived.Lib.AppendStr
import Derived.Lib.SliceRun
import Derived.Test.YtocooajlfpngdaaGreatDoorA22
import Derived.Test.YtocooajlfpngdaaGreatDoorA05
import Derived.Laws.BitsAllLaws
import Derived.Test.YtocooajlfpngdaaGreatDoorA23
namespace Go.Proofs.YtocooajlfpngdaaGreatDoor
open Go.RowKit
set_option linter.unusedVariables false

/-- a list as cells of bytes, of ints -/
def cB (l : List Int) : List Value := l.map (Value.int .u8)
theorem cB_snoc (l : List Int) (x : Int) : cB l ++ [Value.int .u8 x] = cB (l ++ [x]) := by simp [cB]
theorem cB_app (l r : List Int) : cB l ++ cB r = cB (l ++ r) := by simp [cB]
/-- block p is a writer whose bytes are bs; its row lies at p or behind -/
def Wr (w : World) (p : Nat) (bs : List Int) : Prop := ∃ v, Boxed w p 81 v ∧ w.ownsRow p 5 1 v bs.length (cB bs)

theorem Wr.lt {w : World} {p : Nat} {bs : List Int} (h : Wr w p bs) : p < w.heap.size := by
  obtain ⟨v, hv, _⟩ := h; exact hv.lt
theorem Wr.below {w w' : World} {p : Nat} {bs : List Int} (h : Wr w p bs) (hb : Below w.heap.size w w') : Wr w' p bs := by
  obtain ⟨v, hv, hr⟩ := h
  exact ⟨v, (hb.block p hv.lt).trans hv, ownsRow_below' hr hb⟩
theorem Wr.drewN {w : World} {p : Nat} {bs : List Int} (h : Wr w p bs) (q : Nat) : Wr (w.drewN q) p bs := h
theorem Wr.new (w : World) : Wr (w.alloc (.cells #[.slice none 0 0] 81)) w.heap.size [] := ⟨_, Boxed.new w _ _, World.ownsRow_nil _ _ _ _⟩
/-- append of a slice that came from elsewhere, nil or not -/
theorem wpList_append_sl {P : Program} {w : World} {ops : Array Oper} {rest : List Oper} {o : Oper} {a : Act} {Q : Exit → Act → World → Prop} (hgd : o.guard = none) (s x : Operand) (t : TypeId)
    (ho : o.op = .call { callee := .builtin .append, args := #[s, x], argTypes := #[t, t] })
    (base : Nat) (e : TypeId) (i : TypeInfo) (z : Value) (bytes : Nat) (ht : P.underlying t = some (.slice e)) (hi : P.info? e = some i) (hz : i.zero = some z)
    (hsize : i.size = 1) (hby : i.bytes = bytes) (hzs : z.cells.size = 1)
    (v : Value) (n : Nat) (xs : List Value) (hs : a.eval s = v) (hown : w.ownsRow base e 1 v n xs)
    (k : IntKind) (B : Nat) (A : Option Addr) (m c : Nat) (zs : List Int) (hx : a.eval x = .slice A m c) (hsl : Sl k w B A m zs) (hA : A = none → c = 0)
    (h63 : n + m ≤ maxLen) (hbytes : (n + m) * bytes ≤ 140737488355328) (hbase : base ≤ w.heap.size)
    (h : ∀ v' w', w'.ownsRow base e 1 v' (n + m) (xs ++ zs.map (Value.int k)) → w.grownBy w' v.ownBlock → wpList P ops Q rest (a.put o.dst v') w') : wpList P ops Q (o :: rest) a w := by
  have hl := hsl.len
  cases A with
  | none =>
    have hm : m = 0 := by
      rcases Nat.eq_zero_or_pos m with h0 | h0
      · exact h0
      · obtain ⟨_, _, hA', _⟩ := hsl.at_ h0
        cases hA'
    subst hm
    have hzz : zs = [] := List.eq_nil_of_length_eq_zero hl
    subst hzz
    rw [hA rfl] at hx
    exact wpList_append_own_none hgd s x t ho base e i 1 ht hi v n xs hs hown hx (h v w (by simpa using hown) (World.grownBy.refl _ _))
  | some ad =>
    refine wpList_append_own w hgd s x t ho base e i z 1 bytes ht hi hz hsize hby hzs (by omega) v n xs hs hown ad m c (zs.map (Value.int k)) hx (by simp [hl]) ?_ (ints_oneCell k zs) h63 hbytes hbase (fun v' w' h1 h2 _ => h v' w' h1 h2)
    intro j u hu
    have hj : j < zs.length := by have := (List.getElem?_eq_some_iff.1 hu).1; simpa using this
    obtain ⟨b, off, hA', _, hc⟩ := hsl.at_ (by omega)
    cases hA'
    rw [add_lit, hc j (by omega), ← hu, List.getElem?_map, List.getElem?_eq_getElem hj]
    rfl

/-- the writer's box behind an append that laid no block of its own -/
theorem box_put {W w1 : World} {B : Nat} {t e : TypeId} {v v' : Value} {k m : Nat} {xs ys : List Value}
    (hv : Boxed W B t v) (hte : t ≠ e) (hrow : W.ownsRow B e 1 v k xs) (hown' : w1.ownsRow B e 1 v' m ys) (hg : W.grownBy w1 v.ownBlock) :
    Boxed w1 B t v ∧ Boxed (w1.setCell ⟨B, 0, none⟩ v') B t v' ∧ (w1.setCell ⟨B, 0, none⟩ v').ownsRow B e 1 v' m ys ∧ Below B W (w1.setCell ⟨B, 0, none⟩ v') := by
  have hv1 : Boxed w1 B t v := hv.kept hg (hv.not_row hte hrow)
  refine ⟨hv1, hv1.set v', hown'.kept (grownBy_setCell' w1 B v') (.inr (hv1.not_row hte hown').symm), ?_⟩
  exact ((Below.refl B W).grown hg (Nat.le_of_lt hv.lt) fun j ej => (hrow.lt j ej).1).setCell (p := ⟨B, 0, none⟩) (Nat.le_refl _) v'
/-- a row of the call's own, read as numbers; of nil the capacity is 0 -/
theorem own_sl {k : IntKind} {w : World} {base n : Nat} {e : TypeId} {v : Value} {zs : List Int} (h : w.ownsRow base e 1 v n (zs.map (Value.int k))) :
    ∃ A c, v = .slice A n c ∧ n ≤ c ∧ c ≤ maxLen ∧ (A = none → c = 0) ∧ Sl k w w.heap.size A n zs := by
  obtain ⟨A, c, rfl, h1, h2, h3⟩ := Sl.of_own h
  refine ⟨A, c, rfl, h1, h2, ?_, h3⟩
  rintro rfl
  rcases h.2 with ⟨e1, _⟩ | ⟨g, cap, cur, e1, _⟩
  · injection e1
  · simp at e1
theorem sl_none {k : IntKind} {w : World} {B n : Nat} {zs : List Int} (h : Sl k w B none n zs) : n = 0 ∧ zs = [] := by
  have hm : n = 0 := by
    rcases Nat.eq_zero_or_pos n with h0 | h0
    · exact h0
    · obtain ⟨_, _, hA', _⟩ := h.at_ h0
      cases hA'
  exact ⟨hm, List.eq_nil_of_length_eq_zero (by rw [h.len, hm])⟩
theorem strCells_eq (s : ByteArray) : Lib.strCells s = cB (sB s) := by simp [Lib.strCells, cB, sB]
end Go.Proofs.YtocooajlfpngdaaGreatDoor
namespace Go.Proofs.YtocooajlfpngdaaGreatDoor
open Go.RowKit
set_option linter.unusedVariables false

theorem own_mono {w : World} {base base' : Nat} {e : TypeId} {size : Nat} {v : Value} {n : Nat} {xs : List Value} (h : w.ownsRow base e size v n xs) (hb : base' ≤ base) : w.ownsRow base' e size v n xs := by
  refine ⟨h.1, ?_⟩
  rcases h.2 with h0 | ⟨g, cap, cur, h1, h2, h3⟩
  · exact .inl h0
  · exact .inr ⟨g, cap, cur, h1, by omega, h3⟩
theorem wgrown_below {w w' : World} (h : Below w.heap.size w w') (row : Option Nat) : w.grownBy w' row := ⟨h.os, h.tape, h.output, h.size, fun k hk _ => h.block k hk⟩
theorem grown_trans {a b c : World} {row : Option Nat} (h : a.grownBy b row) (k : b.grownBy c row) : a.grownBy c row :=
  ⟨k.os.trans h.os, k.tape.trans h.tape, k.output.trans h.output, Nat.le_trans h.size k.size, fun i hi hn => (k.block i (Nat.lt_of_lt_of_le hi h.size) hn).trans (h.block i hi hn)⟩
/-- what a call does to blocks from B on, where the one block that was there lies from B on -/
theorem below_grown1 {B g : Nat} {w0 w w' : World} (hb : Below B w0 w) (hg : w.grownBy w' (some g)) (hB : B ≤ w.heap.size) (hgB : B ≤ g) : Below B w0 w' :=
  hb.trans ⟨hg.os, hg.tape, hg.output, hg.size, fun k hk => hg.block k (by omega) (fun e => by injection e with e; omega)⟩

/-- a slice of bytes lies in no block of two such cells -/
theorem Sl.two {w w' : World} {B g n : Nat} {A : Option Addr} {zs : List Int} {t : TypeId} {A' : Option Addr} {n' c' : Nat} {e : Int} (h : Sl .u8 w B A n zs) (hB : B ≤ w.heap.size) (h2 : Blk2 w g t (.slice A' n' c') (.int .i64 e)) (hg : w.grownBy w' (some g)) : Sl .u8 w' B A n zs := by
  refine ⟨h.1, ?_⟩
  rcases h.2 with h0 | ⟨b, off, rfl, hlt, hc⟩
  · exact .inl h0
  · refine .inr ⟨b, off, rfl, hlt, fun j hj => ?_⟩
    have hne : b ≠ g := by
      rintro rfl
      have := hc j hj
      simp only [World.cell?, show w.heap[b]? = _ from h2] at this
      rcases Nat.lt_or_ge (off + j) 2 with hk | hk
      · have h01 : off + j = 0 ∨ off + j = 1 := by omega
        rcases h01 with h01 | h01 <;> simp [h01] at this
      · rw [Array.getElem?_eq_none (by simp; omega)] at this; simp at this
    exact (World.cell?_of_block (hg.block b (by omega) (fun e => hne (by injection e)))).trans (hc j hj)
/-- a row of the call's own lies in no such block -/
theorem own_two {w w' : World} {base g n size : Nat} {e t : TypeId} {v x y : Value} {xs : List Value} (h : w.ownsRow base e size v n xs) (h2 : Blk2 w g t x y) (hne : e ≠ t) (hg : w.grownBy w' (some g)) : w'.ownsRow base e size v n xs := by
  refine h.kept hg ?_
  rcases h.2 with ⟨rfl, _⟩ | ⟨g', cap, cur, rfl, _, hh, _⟩
  · exact .inl rfl
  · refine .inr fun e' => ?_
    obtain rfl : g' = g := by simpa [Value.ownBlock] using e'
    have := (show w.heap[g']? = _ from h2).symm.trans hh
    simp at this
    exact hne this.2.symm

/-- block p is a reader of type t in state s; its bytes lie below B -/
def Rd (t : TypeId) (w : World) (p B : Nat) (s : RS) : Prop :=
  ∃ A n c, Blk2 w p t (.slice A n c) (.int .i64 s.er) ∧ n ≤ c ∧ c ≤ maxLen ∧ (A = none → c = 0) ∧ (s.er = 0 → Sl .u8 w B A n s.bs) ∧ s.ok ∧ B ≤ w.heap.size
theorem Rd.lt {t : TypeId} {w : World} {p B : Nat} {s : RS} (h : Rd t w p B s) : p < w.heap.size := by obtain ⟨A, n, c, h, _⟩ := h; exact h.lt
theorem Rd.ok {t : TypeId} {w : World} {p B : Nat} {s : RS} (h : Rd t w p B s) : s.ok := by obtain ⟨A, n, c, _, _, _, _, _, h, _⟩ := h; exact h
theorem Rd.size {t : TypeId} {w : World} {p B : Nat} {s : RS} (h : Rd t w p B s) : B ≤ w.heap.size := by obtain ⟨A, n, c, _, _, _, _, _, _, h⟩ := h; exact h
theorem Rd.more {t : TypeId} {w : World} {p B B' : Nat} {s : RS} (h : Rd t w p B s) (h1 : B ≤ B') (h2 : B' ≤ w.heap.size) : Rd t w p B' s := by
  obtain ⟨A, n, c, k1, k2, k3, k4, k5, k6, k7⟩ := h
  exact ⟨A, n, c, k1, k2, k3, k4, fun h0 => (k5 h0).more h1, k6, h2⟩
theorem Rd.below {t : TypeId} {w w' : World} {p B : Nat} {s : RS} (h : Rd t w p B s) (hb : Below w.heap.size w w') : Rd t w' p B s := by
  obtain ⟨A, n, c, h1, h2, h3, h4, h5, h6, h7⟩ := h
  exact ⟨A, n, c, h1.below hb, h2, h3, h4, fun h0 => (h5 h0).below (hb.mono h7), h6, Nat.le_trans h7 hb.size⟩
theorem Rd.drewN {t : TypeId} {w : World} {p B : Nat} {s : RS} (h : Rd t w p B s) (q : Nat) : Rd t (w.drewN q) p B s := h
/-- another reader's call leaves it alone -/
theorem Rd.other {t t' : TypeId} {w w' : World} {p p' B B' : Nat} {s s' : RS} (h : Rd t w p B s) (h' : Rd t' w p' B' s') (hne : p ≠ p') (hg : w.grownBy w' (some p')) : Rd t w' p B s := by
  obtain ⟨A, n, c, h1, h2, h3, h4, h5, h6, h7⟩ := h
  obtain ⟨A', n', c', k1, _⟩ := h'
  exact ⟨A, n, c, h1.grown hg (fun e => hne (by injection e)), h2, h3, h4, fun h0 => (h5 h0).two h7 k1 hg, h6, Nat.le_trans h7 hg.size⟩
theorem Rd.own {t : TypeId} {w w' : World} {p B base n size : Nat} {s : RS} {e : TypeId} {v : Value} {xs : List Value} (h : Rd t w p B s) (ho : w.ownsRow base e size v n xs) (hne : e ≠ t) (hg : w.grownBy w' (some p)) : w'.ownsRow base e size v n xs := by
  obtain ⟨A, m, c, k1, _⟩ := h
  exact own_two ho k1 hne hg
theorem Rd.sl {t : TypeId} {w w' : World} {p n B B' : Nat} {s : RS} {A : Option Addr} {zs : List Int} (h : Rd t w p B' s) (hs : Sl .u8 w B A n zs) (hB : B ≤ w.heap.size) (hg : w.grownBy w' (some p)) : Sl .u8 w' B A n zs := by
  obtain ⟨A', m, c, k1, _⟩ := h
  exact hs.two hB k1 hg
/-- a store into a block from B on, which is not the reader's -/
theorem Rd.far {t : TypeId} {w : World} {p B g j : Nat} {s : RS} (h : Rd t w p B s) (hg : B ≤ g) (hne : p ≠ g) (u : Value) : Rd t (w.setCell ⟨g, j, none⟩ u) p B s := by
  obtain ⟨A, n, c, h1, h2, h3, h4, h5, h6, h7⟩ := h
  have hb : Below B w (w.setCell ⟨g, j, none⟩ u) := (Below.refl _ _).setCell (p := ⟨g, j, none⟩) hg _
  exact ⟨A, n, c, h1.grown (grown_set w g j u) (fun e => hne (by injection e)), h2, h3, h4, fun h0 => (h5 h0).below hb, h6, Nat.le_trans h7 hb.size⟩
end Go.Proofs.YtocooajlfpngdaaGreatDoor
namespace Go.Proofs.YtocooajlfpngdaaGreatDoor
open Go.RowKit
set_option linter.unusedVariables false

theorem or128 (k : Int) (h : 0 ≤ k) : bits BinOp.or IntKind.u8 (k % 256) 128 = 128 + k % 128 := by
  rw [u8_or _ _ (by omega) (by omega) (by omega) (by omega)]
  have e : ∀ a : Fin 256, (a.val ||| 128) = 128 + a.val % 128 := by decide +kernel
  have := e ⟨(k % 256).toNat, by omega⟩
  simp only at this
  show (((k % 256).toNat ||| 128 : Nat) : Int) = _
  rw [this]; omega

set_option maxHeartbeats 1000000 in
theorem w_uint (p : Nat) (bs : List Int) (n : Int) (w : World) (h : Wr w p bs) (hn : u64 n) (hl : bs.length ≤ 1000000) :
    Calls Tryz.prog 88 #[.pointer (some ⟨p, 0, none⟩), .int .u64 n] w fun e w' => e = .returned (.tuple #[]) ∧ Wr w' p (bs ++ encU n) ∧ Below p w w' := by
  obtain ⟨i0, hi, hz0, hz1, hz2⟩ := info_parts u8_info
  have hen := encU_len n hn
  unfold u64 at hn
  have HW := Lib.hid h
  clear h
  go_enter Tryz.func88, Tryz.ntmps88
  go_wp2
  go_loopw [1] (fun i wr => ∃ (k : Int) (xs : List Int), 0 ≤ k ∧ k ≤ n ∧ i = .int .u64 k ∧ Hid (xs ++ encU k = bs ++ encU n) ∧ Wr wr p xs ∧ Below p w wr) (fun i _ => (intOf i).toNat)
  case atStart => exact ⟨n, bs, hn.1, Int.le_refl _, rfl, rfl, HW.out, Below.refl _ _⟩
  case round =>
    obtain ⟨k, xs, hk0, hk1, rfl, HE, ⟨v, hbx, hown⟩, hbel⟩ := hrel
    have hxl : xs.length ≤ 1000010 := by
      have := congrArg List.length HE.out
      have := encU_pos k
      simp only [List.length_append] at *; omega
    have hpw : p < wr.heap.size := hbx.lt
    obtain ⟨A, c, rfl, hnc, hcm, _⟩ := Sl.of_own hown
    have hc := hbx.cell
    have hf := hbx.frozen
    have HBX := Lib.hid hbx
    clear hbx
    have hr1 : xs.length + 1 ≤ maxLen := by unfold maxLen; omega
    have hr2 : (xs.length + 1) * 1 ≤ 140737488355328 := by omega
    have h1 : xs.length + 1 = (xs ++ [128 + k % 128]).length := by simp
    have h2 : xs.length + 1 = (xs ++ [k]).length := by simp
    have H1 := Lib.hid h1
    have H2 := Lib.hid h2
    clear h1 h2
    by_cases hlt : 128 ≤ k
    · have hor := or128 k hk0
      have HS := Lib.hid (encU_ge k (by omega))
      go_wp2_with (at_builtin; refine wpList_append_own _ rfl _ _ _ rfl p 5 i0 _ 1 1 Tryz.underlying76 hi hz0 hz1 hz2 rfl (by omega) _ xs.length (cB xs) rfl (hown.alloc _) ⟨wr.heap.size, 0, none⟩ 1 1 [.int .u8 (128 + k % 128)] rfl rfl (cell_one_new _ _ _) (by simp [Value.oneCell']) hr1 hr2 (by simp; omega) ?_; intro v1 w1 hown1 hg1 hnil1; obtain ⟨g1, cap1, rfl⟩ := ownsRow_succ hown1; obtain ⟨hv1, hv2, hr2', hk2, hb2⟩ := HBX.out.appended (by decide) hown (by omega) (Nat.le_refl _) hown1 hg1; have hc1 := hv1.cell; have hf1 := hv1.frozen)
      go_roundw
      case rel =>
        refine ⟨k / 128, xs ++ [128 + k % 128], by omega, by omega, rfl, ?_, ⟨_, hv2, ?_⟩, hbel.trans hb2⟩
        · show _ = _
          rw [← HE.out, HS.out]; simp
        · rw [← H1.out, ← cB_snoc]; exact hr2'
      case measure => simp [intOf]; omega
    · have hge : k < 128 := by omega
      have hk256 : k % 256 = k := by omega
      go_wp2_with (at_builtin; refine wpList_append_own _ rfl _ _ _ rfl p 5 i0 _ 1 1 Tryz.underlying76 hi hz0 hz1 hz2 rfl (by omega) _ xs.length (cB xs) rfl (hown.alloc _) ⟨wr.heap.size, 0, none⟩ 1 1 [.int .u8 k] rfl rfl (cell_one_new _ _ _) (by simp [Value.oneCell']) hr1 hr2 (by simp; omega) ?_; intro v1 w1 hown1 hg1 hnil1; obtain ⟨g1, cap1, rfl⟩ := ownsRow_succ hown1; obtain ⟨hv1, hv2, hr2', hk2, hb2⟩ := HBX.out.appended (by decide) hown (by omega) (Nat.le_refl _) hown1 hg1; have hc1 := hv1.cell; have hf1 := hv1.frozen)
      go_end0
      have e := HE.out
      rw [encU_lt k hge] at e
      refine ⟨rfl, ⟨_, hv2, ?_⟩, hbel.trans hb2⟩
      rw [← e, ← H2.out, ← cB_snoc]; exact hr2'
set_option maxHeartbeats 400000 in
theorem w_text (p : Nat) (bs : List Int) (s : ByteArray) (w : World) (h : Wr w p bs) (hl : bs.length + s.size + 10 ≤ 1000000) :
    Calls Tryz.prog 53 #[.pointer (some ⟨p, 0, none⟩), .string s] w fun e w' => e = .returned (.tuple #[]) ∧ Wr w' p (bs ++ encR (sB s)) ∧ Below p w w' := by
  obtain ⟨i0, hi, hz0, hz1, hz2⟩ := info_parts u8_info
  have hu : u64 (s.size : Int) := by unfold u64; omega
  have hlm := encU_len (s.size : Int) hu
  have HE := Lib.hid (show encR (sB s) = encU (s.size : Int) ++ sB s by rw [encR, sB_len])
  have HZ := Lib.hid (sB_len s)
  go_enter Tryz.func53, Tryz.ntmps53
  go_wp2_with fail
  refine (w_uint p bs (s.size : Int) _ h hu (by omega)).mono ?_
  rintro e w1 ⟨rfl, ⟨v, hbx, hown⟩, hb⟩
  obtain ⟨ys, hys⟩ : ∃ ys, ys = bs ++ encU (s.size : Int) := ⟨_, rfl⟩
  rw [← hys] at hown
  have hyl : ys.length ≤ bs.length + 10 := by rw [hys, List.length_append]; omega
  have HY := Lib.hid hys
  clear hys hlm
  have hpw : p < w1.heap.size := hbx.lt
  obtain ⟨A1, c1, rfl, hnc, hcm, _⟩ := Sl.of_own hown
  have hc := hbx.cell
  have hf := hbx.frozen
  have HBX := Lib.hid hbx
  have HB := Lib.hid hb
  clear hbx hb
  have hr1 : ys.length + s.size ≤ maxLen := by unfold maxLen; omega
  have hr2 : ys.length + s.size ≤ 140737488355328 := by omega
  have E1 := Lib.hid (show cB ys ++ Lib.strCells s = cB (ys ++ sB s) by rw [strCells_eq, cB_app])
  go_wp2_with (at_builtin; refine Lib.wpList_append_own_string _ rfl _ _ _ _ rfl p 5 i0 Tryz.underlying76 Tryz.underlying9 hi hz0 hz1 hz2 _ ys.length (cB ys) rfl hown s rfl hr1 hr2 (by omega) ?_; intro v1 w2 hown1 hg1 hnil1; rw [E1.out] at hown1; obtain ⟨A2, c2, rfl, _, _, _⟩ := Sl.of_own (k := .u8) (zs := ys ++ sB s) hown1; obtain ⟨hv1, hv2, hr2', hb2⟩ := box_put HBX.out (by decide) hown hown1 hg1; have hc1 := hv1.cell; have hf1 := hv1.frozen)
  go_end0
  refine ⟨rfl, ⟨_, hv2, ?_⟩, HB.out.trans hb2⟩
  rw [HE.out, ← List.append_assoc, ← HY.out, List.length_append, HZ.out]; exact hr2'

/-! ### Clone, Done -/
theorem eq_nil24 : ∀ (w : World) (a : Option Addr) (n c n' c' : Nat), (binOp .eql 76 (.slice a n c) (.slice none n' c')).run Tryz.prog w = .ok (.bool a.isNone) w :=
  fun w a n c n' c' => Lib.run_eql_slice_nil w _ _ a n c n' c' Tryz.underlying76
set_option maxHeartbeats 400000 in
theorem wclone_any (A : Option Addr) (n c : Nat) (zs : List Int) (w : World) (h : Sl .u8 w w.heap.size A n zs) (hA : A = none → c = 0) (hn : n ≤ 1000000) :
    Calls Tryz.prog 89 #[.slice A n c] w fun e w' => ∃ v, e = .returned v ∧ w'.ownsRow w.heap.size 5 1 v n (cB zs) ∧ Below w.heap.size w w' := by
  obtain ⟨i0, hi, hz0, hz1, hz2⟩ := info_parts u8_info
  have hr1 : 0 + n ≤ maxLen := by unfold maxLen; omega
  have hr2 : (0 + n) * 1 ≤ 140737488355328 := by omega
  have hq := eq_nil24
  cases A with
  | none =>
    obtain rfl := hA rfl
    obtain ⟨rfl, rfl⟩ := sl_none h
    go_enter Tryz.func89, Tryz.ntmps89
    go_wp2
    go_ret
    exact ⟨_, rfl, World.ownsRow_nil _ _ _ _, Below.refl _ _⟩
  | some ad =>
    have HS := Lib.hid h
    clear h
    have E1 := Lib.hid (show [] ++ zs.map (Value.int .u8) = cB zs from rfl)
    go_enter Tryz.func89, Tryz.ntmps89
    go_wp2_with (at_builtin; refine wpList_append_sl rfl _ _ _ rfl w.heap.size 5 i0 _ 1 Tryz.underlying76 hi hz0 hz1 hz2 rfl _ 0 [] rfl (World.ownsRow_made w #[] 0 (Nat.le_refl _) (Nat.zero_le _) rfl) .u8 w.heap.size (some ad) n c zs rfl (HS.out.below ((Below.refl _ w).alloc (Nat.le_refl _) _)) hA hr1 hr2 (by simp) ?_; intro v1 w2 hown1 hg1; rw [E1.out, Nat.zero_add] at hown1)
    go_ret
    exact ⟨_, rfl, hown1, ((Below.refl _ w).alloc (Nat.le_refl _) _).grown hg1 (by simp) (by intro k hk; have hk' : some w.heap.size = some k := hk; injection hk' with hk'; omega)⟩

set_option maxHeartbeats 400000 in
theorem w_done (p : Nat) (bs : List Int) (w : World) (h : Wr w p bs) (hl : bs.length ≤ 1000000) :
    Calls Tryz.prog 55 #[.pointer (some ⟨p, 0, none⟩)] w fun e w' => ∃ v, e = .returned v ∧ w'.ownsRow w.heap.size 5 1 v bs.length (cB bs) ∧ Below w.heap.size w w' := by
  obtain ⟨v, hbx, hown⟩ := h
  obtain ⟨A, c, rfl, hnc, hcm, hA, hsl⟩ := own_sl (k := .u8) hown
  have hc := hbx.cell
  have HS := Lib.hid hsl
  have HA := Lib.hid hA
  clear hsl hown hA
  go_enter Tryz.func55, Tryz.ntmps55
  go_wp2_with fail
  refine (wclone_any A bs.length c bs _ HS.out HA.out hl).mono ?_
  rintro e w1 ⟨v, rfl, hown, hb⟩
  go_wp2_with fail
  go_ret
  exact ⟨_, rfl, hown, hb⟩
end Go.Proofs.YtocooajlfpngdaaGreatDoor
namespace Go.Proofs.YtocooajlfpngdaaGreatDoor
open Go.RowKit
set_option linter.unusedVariables false

/-- a reader of package wire -/
def RdW (w : World) (p B : Nat) (s : RS) : Prop := Rd 122 w p B s

theorem ok_tail {b : Int} {t : List Int} (h : RS.ok ⟨b :: t, 0⟩) : RS.ok ⟨t, 0⟩ := ⟨fun x hx => h.1 x (by simp only at hx; simp [hx]), fun h => absurd rfl h, .inl rfl⟩

set_option maxHeartbeats 1000000 in
theorem r_octet (p B : Nat) (s : RS) (w : World) (h : RdW w p B s) :
    Calls Tryz.prog 91 #[.pointer (some ⟨p, 0, none⟩)] w fun e w' => e = .returned (.int .u8 (rdO s).1) ∧ RdW w' p B (rdO s).2 ∧ w.grownBy w' (some p) := by
  obtain ⟨A, n, c, h1, h2, h3, h4, h5, h6, h7⟩ := h
  have c0 := h1.c0
  have c1 := h1.c1
  have f0 := h1.f0
  have f1 := h1.f1
  have H1 := Lib.hid h1
  clear h1
  by_cases he : s.er = 0
  · obtain ⟨bs, er⟩ := s
    simp only at he
    subst he
    have hsl := h5 rfl
    have H6 := Lib.hid h6
    have H4 := Lib.hid h4
    have hl := hsl.len
    clear h5 h6 h4
    unfold maxLen at h3
    cases bs with
    | nil =>
      have hn : n = 0 := by simpa using hl.symm
      subst hn
      clear hl
      go_enter Tryz.func91, Tryz.ntmps91
      go_wp2
      go_ret
      exact ⟨ret_int rfl, ⟨A, 0, c, H1.out.set1 _, by omega, by unfold maxLen; omega, H4.out, (fun h => by simp [rdO, bad] at h), bad_ok 3 (.inr rfl), Nat.le_trans h7 (grown_set _ _ _ _).size⟩, grown_set _ _ _ _⟩
    | cons b t =>
      have hn : n = t.length + 1 := by simpa using hl.symm
      obtain ⟨bl, off, rfl, hb, hcl⟩ := hsl.at_ (by omega)
      have hcell := hcl 0 (by omega)
      simp only [Nat.add_zero, List.getElem?_cons_zero, Option.getD_some] at hcell
      have HT : Hid (∀ j, j < t.length → w.cell? ⟨bl, off + 1 + j, none⟩ = some (.int .u8 (t[j]?.getD 0))) := fun j hj => by
        have := hcl (j + 1) (by omega)
        rw [List.getElem?_cons_succ] at this
        rw [show off + 1 + j = off + (j + 1) by omega]; exact this
      have hg1 : 1 ≤ n := by omega
      have HN := Lib.hid hn
      clear hl hcl hn hsl
      by_cases hc1 : c = 1
      · subst hc1
        obtain rfl : n = 1 := by omega
        go_enter Tryz.func91, Tryz.ntmps91
        go_wp2
        go_ret
        refine ⟨ret_int rfl, ⟨_, 0, _, H1.out.set0 _, by omega, by unfold maxLen; omega, (fun h => by cases h), fun _ => ?_, ok_tail H6.out, Nat.le_trans h7 (grown_set _ _ _ _).size⟩, grown_set _ _ _ _⟩
        have ht : t = [] := List.eq_nil_of_length_eq_zero (by have := HN.out; omega)
        subst ht
        exact Sl.nil _ _ _ _
      · go_enter Tryz.func91, Tryz.ntmps91
        go_wp2
        go_ret
        refine ⟨ret_int rfl, ⟨_, n - 1, _, H1.out.set0 _, by omega, by unfold maxLen; omega, (fun h => by cases h), fun _ => ?_, ok_tail H6.out, Nat.le_trans h7 (grown_set _ _ _ _).size⟩, grown_set _ _ _ _⟩
        have hs : Sl .u8 w B (some ⟨bl, off + 1, none⟩) (n - 1) t := ⟨by have := HN.out; omega, .inr ⟨bl, off + 1, rfl, hb, fun j hj => HT.out j (by have := HN.out; omega)⟩⟩
        exact hs.two h7 H1.out (grown_set _ _ _ _)
  · have hr : rdO s = (0, s) := by unfold rdO; rw [if_neg he]
    rw [hr]
    have hne : (s.er != 0) = true := by simpa using he
    clear hr
    go_enter Tryz.func91, Tryz.ntmps91
    go_wp2
    go_ret
    exact ⟨rfl, ⟨A, n, c, H1.out, h2, h3, h4, h5, h6, h7⟩, World.grownBy.refl _ _⟩

theorem r_octet_cons (p B : Nat) (b : Int) (t : List Int) (w : World) (h : RdW w p B ⟨b :: t, 0⟩) :
    Calls Tryz.prog 91 #[.pointer (some ⟨p, 0, none⟩)] w fun e w' => e = .returned (.int .u8 b) ∧ RdW w' p B ⟨t, 0⟩ ∧ w.grownBy w' (some p) := r_octet p B _ w h
theorem r_octet_nil (p B : Nat) (w : World) (h : RdW w p B ⟨[], 0⟩) :
    Calls Tryz.prog 91 #[.pointer (some ⟨p, 0, none⟩)] w fun e w' => e = .returned (.int .u8 0) ∧ RdW w' p B (bad 3) ∧ w.grownBy w' (some p) := r_octet p B _ w h
theorem rdO_bad (s : RS) (h : s.er ≠ 0) : rdO s = (0, s) := by unfold rdO; rw [if_neg h]
theorem r_octet_bad (p B : Nat) (s : RS) (w : World) (h : RdW w p B s) (he : s.er ≠ 0) :
    Calls Tryz.prog 91 #[.pointer (some ⟨p, 0, none⟩)] w fun e w' => e = .returned (.int .u8 0) ∧ RdW w' p B s ∧ w.grownBy w' (some p) := by
  have := r_octet p B s w h
  rw [rdO_bad s he] at this; exact this
/-- a reader's cells -/
theorem RdW.cells {w : World} {p B : Nat} {s : RS} (h : RdW w p B s) : ∃ A n c, w.cell? ⟨p, 0, none⟩ = some (.slice A n c) ∧ w.cell? ⟨p, 1, none⟩ = some (.int .i64 s.er) ∧ w.frozen? ⟨p, 0, none⟩ = false ∧ w.frozen? ⟨p, 1, none⟩ = false ∧ n ≤ c ∧ c ≤ maxLen ∧ (s.er = 0 → n = s.bs.length) := by
  obtain ⟨A, n, c, h1, h2, h3, h4, h5, h6, _⟩ := h
  exact ⟨A, n, c, h1.c0, h1.c1, h1.f0, h1.f1, h2, h3, fun h0 => (h5 h0).len.symm⟩
/-- an error is recorded -/
theorem RdW.fail {w : World} {p B : Nat} {s : RS} (h : RdW w p B s) (e : Int) (he : e = 2 ∨ e = 3) : RdW (w.setCell ⟨p, 1, none⟩ (.int .i64 e)) p B (bad e) := by
  obtain ⟨A, n, c, h1, h2, h3, h4, h5, h6, h7⟩ := h
  exact ⟨A, n, c, h1.set1 _, h2, h3, h4, (fun h => by simp only [bad] at h; omega), bad_ok e he, Nat.le_trans h7 (grown_set _ _ _ _).size⟩
/-! ### Uint -/
theorem andNot128 (b : Int) (h0 : 0 ≤ b) (h1 : b ≤ 255) : bits BinOp.andNot IntKind.u8 b 128 = b % 128 := by
  rw [u8_andNot _ _ (by omega) (by omega) (by omega) (by omega)]
  have e : ∀ a : Fin 256, (a.val &&& (255 - 128)) = a.val % 128 := by decide +kernel
  have := e ⟨b.toNat, by omega⟩
  simp only at this
  show ((b.toNat &&& (255 - 128) : Nat) : Int) = _
  rw [this]; omega
theorem or_step7 (W z : Int) (k : Nat) (hk : k ≤ 9) (hW : 0 ≤ W ∧ W < 128 ^ k) (hz : 0 ≤ z ∧ z ≤ 127) (h9 : k = 9 → z ≤ 1) :
    bits BinOp.or IntKind.u64 W (IntKind.u64.wrap (z * 2 ^ (7 * k))) = W + z * 128 ^ k := by
  obtain ⟨hz0, hz1⟩ := hz
  obtain ⟨a, rfl⟩ := Int.eq_ofNat_of_zero_le hW.1
  obtain ⟨y, rfl⟩ := Int.eq_ofNat_of_zero_le hz0
  have hp : (128 : Int) ^ k = ((2 ^ (7 * k) : Nat) : Int) := by
    rw [Nat.pow_mul]; simp
  have hp2 : (2 : Int) ^ (7 * k) = ((2 ^ (7 * k) : Nat) : Int) := by simp
  rw [hp] at hW ⊢
  rw [hp2]
  have ha : a < 2 ^ (7 * k) := by omega
  have hy : y * 2 ^ (7 * k) ≤ 9223372036854775808 := by
    by_cases h : k = 9
    · subst h
      have : y ≤ 1 := by have := h9 rfl; omega
      exact Nat.le_trans (Nat.mul_le_mul this (Nat.le_refl _)) (by decide)
    · have hP : 2 ^ (7 * k) ≤ 2 ^ 56 := Nat.pow_le_pow_right (by omega) (by omega)
      exact Nat.le_trans (Nat.mul_le_mul (show y ≤ 128 by omega) hP) (by decide)
  have hP : 2 ^ (7 * k) ≤ 2 ^ 63 := Nat.pow_le_pow_right (by omega) (by omega)
  have e1 : ((y : Int) * ((2 ^ (7 * k) : Nat) : Int)) = ((y * 2 ^ (7 * k) : Nat) : Int) := by simp
  rw [e1]
  have e2 : IntKind.u64.wrap ((y * 2 ^ (7 * k) : Nat) : Int) = ((y * 2 ^ (7 * k) : Nat) : Int) := by
    rw [IntKind.wrap_u64]; omega
  rw [e2, u64_or_nat _ _ (by omega) (by omega)]
  have h := Nat.shiftLeft_add_eq_or_of_lt ha y
  rw [Nat.shiftLeft_eq] at h
  rw [Nat.or_comm, ← h]
  omega

theorem rdU_nil (s : RS) (h : s.er = 0) (e : Int) (hd : decA 0 0 s.bs = .err e) : rdU s = (0, bad e) := by
  unfold rdU; rw [if_pos h, hd]; rfl
theorem rdU_got (s : RS) (h : s.er = 0) (v : Int) (r : List Int) (hd : decA 0 0 s.bs = .got v r) : rdU s = (v, ⟨r, 0⟩) := by
  unfold rdU; rw [if_pos h, hd]; rfl

theorem decA_badc (v : Int) (k : Nat) (b : Int) (t : List Int) (h : (0 < k ∧ b = 0) ∨ (k = 9 ∧ 1 < b)) : decA v k (b :: t) = .err 2 := by rw [decA, if_pos h]
theorem decA_last (v : Int) (k : Nat) (b : Int) (t : List Int) (h : ¬ ((0 < k ∧ b = 0) ∨ (k = 9 ∧ 1 < b))) (hb : b < 128) : decA v k (b :: t) = .got (v + b * 128 ^ k) t := by rw [decA, if_neg h, if_pos hb]
theorem decA_more (v : Int) (k : Nat) (b : Int) (t : List Int) (h : ¬ ((0 < k ∧ b = 0) ∨ (k = 9 ∧ 1 < b))) (hb : ¬ b < 128) : decA v k (b :: t) = decA (v + (b - 128) * 128 ^ k) (k + 1) t := by rw [decA, if_neg h, if_neg hb]
theorem next_bd (v b : Int) (k : Nat) (hk : k ≤ 9) (hv0 : 0 ≤ v) (hv1 : v < 128 ^ k) (hb0 : 128 ≤ b) (hb1 : b ≤ 255) : 0 ≤ v + (b - 128) * 128 ^ k ∧ v + (b - 128) * 128 ^ k < 128 ^ (k + 1) := by
  have hP := pow128 k hk
  have := wmul_bd (b - 128) (128 ^ k) (by omega) (by omega) hP.1
  rw [pow128_succ]; omega

theorem or9 (v b : Int) (h0 : 0 ≤ b) (h1 : b ≤ 1) (h : bits BinOp.or IntKind.u64 v (IntKind.u64.wrap (b * 2 ^ (7 * 9))) = v + b * 128 ^ 9) : bits BinOp.or IntKind.u64 v (b * 9223372036854775808) = v + b * 128 ^ 9 := by
  have e : IntKind.u64.wrap (b * 2 ^ (7 * 9)) = b * 9223372036854775808 := by
    rw [IntKind.wrap_u64, show (2 : Int) ^ (7 * 9) = 9223372036854775808 by decide]; omega
  rw [e] at h; exact h

set_option maxHeartbeats 4000000 in
theorem r_uint (p B : Nat) (s : RS) (w : World) (h : RdW w p B s) :
    Calls Tryz.prog 116 #[.pointer (some ⟨p, 0, none⟩)] w fun e w' => e = .returned (.int .u64 (rdU s).1) ∧ RdW w' p B (rdU s).2 ∧ w.grownBy w' (some p) := by
  have HR := Lib.hid h
  clear h
  by_cases he : s.er = 0
  · have HE := Lib.hid he
    clear he
    go_enter Tryz.func116, Tryz.ntmps116
    go_wp2_with fail
    go_loopw [3, 8] (fun n i wr => ∃ (k : Nat) (v : Int) (bs : List Int), k ≤ 9 ∧ i = .int .i64 k ∧ n = .int .u64 v ∧ 0 ≤ v ∧ Hid (v < 128 ^ k) ∧ Hid (decA v k bs = decA 0 0 s.bs) ∧ RdW wr p B ⟨bs, 0⟩ ∧ w.grownBy wr (some p)) (fun _ i _ => 10 - (intOf i).toNat)
    case atStart => exact ⟨0, 0, s.bs, by omega, rfl, rfl, by omega, by show (0 : Int) < 128 ^ 0; decide, rfl, by have := HR.out; have e := HE.out; cases s; simp only at e; subst e; exact this, World.grownBy.refl _ _⟩
    case round =>
      obtain ⟨k, v, bs, hk, rfl, rfl, hv0, HV, HD, hrd, hg⟩ := hrel
      have HG := Lib.hid hg
      have HRD := Lib.hid hrd
      clear hrd hg
      cases bs with
      | nil =>
        go_wp2_with fail
        refine (r_octet_nil p B _ HRD.out).mono ?_
        rintro e w1 ⟨rfl, h1, hg1⟩
        obtain ⟨A, n, c, _, c1, _, _, _, _, _⟩ := h1.cells
        have H1 := Lib.hid h1
        have he1 : ((bad 3).er != 0) = true := rfl
        clear h1
        go_wp2_with fail
        go_ret
        rw [rdU_nil s HE.out 3 HD.out.symm]
        exact ⟨rfl, H1.out, grown_trans HG.out hg1⟩
      | cons b t =>
        have hbb := HRD.out.ok.1 b (by simp)
        unfold byteI at hbb
        obtain ⟨hb0, hb1⟩ := hbb
        go_wp2_with fail
        refine (r_octet_cons p B b t _ HRD.out).mono ?_
        rintro e w1 ⟨rfl, h1, hg1⟩
        obtain ⟨A, n, c, _, c1, _, f1, _, _, _⟩ := h1.cells
        have H1 := Lib.hid h1
        have HG1 := Lib.hid (grown_trans HG.out hg1)
        clear h1 hg1
        simp only at c1
        by_cases hbad : (0 < k ∧ b = 0) ∨ (k = 9 ∧ 1 < b)
        · have HB := Lib.hid (HD.out.symm.trans (decA_badc v k b t hbad))
          rcases hbad with ⟨hk0, hb⟩ | ⟨hk9, hb⟩
          · subst hb
            go_wp2_with fail
            all_goals
              go_ret
              rw [rdU_nil s HE.out 2 HB.out]
              exact ⟨rfl, H1.out.fail 2 (.inl rfl), grown_trans HG1.out (grown_set _ _ _ _)⟩
          · subst hk9
            have hbn : (b == 0) = false := by simp; omega
            go_wp2_with fail
            all_goals
              go_ret
              rw [rdU_nil s HE.out 2 HB.out]
              exact ⟨rfl, H1.out.fail 2 (.inl rfl), grown_trans HG1.out (grown_set _ _ _ _)⟩
        · have hbn : 0 < k → (b == 0) = false := fun h => by simp; intro e; exact hbad (.inl ⟨h, e⟩)
          have h9 : k = 9 → b ≤ 1 := fun h => by
            rcases Int.lt_or_le 1 b with h' | h'
            · exact absurd (.inr ⟨h, h'⟩) hbad
            · exact h'
          have hPk := pow128 k hk
          have han := andNot128 b hb0 hb1
          by_cases hlt : b < 128
          · have HB := Lib.hid (HD.out.symm.trans (decA_last v k b t hbad hlt))
            have HO := Lib.hid (or_step7 v b k hk ⟨hv0, HV.out⟩ ⟨hb0, by omega⟩ h9)
            have hmod : b % 128 = b := by omega
            clear hbad hPk
            by_cases hk9 : k = 9
            · subst hk9
              have hb9 := h9 rfl
              have HO9 := Lib.hid (or9 v b hb0 hb9 HO.out)
              clear h9
              go_wp2_with fail
              go_ret
              rw [rdU_got s HE.out _ _ HB.out]
              exact ⟨ret_int HO9.out, H1.out, HG1.out⟩
            · clear h9
              go_wp2_with fail
              all_goals
                go_ret
                rw [rdU_got s HE.out _ _ HB.out]
                exact ⟨ret_int HO.out, H1.out, HG1.out⟩
          · have hk9 : k ≠ 9 := fun h => by have := h9 h; omega
            have HB := Lib.hid ((decA_more v k b t hbad hlt).symm.trans HD.out)
            have HO := Lib.hid (or_step7 v (b % 128) k hk ⟨hv0, HV.out⟩ ⟨by omega, by omega⟩ (fun h => absurd h hk9))
            have hbd := next_bd v b k hk hv0 HV.out (by omega) hb1
            have HBD := Lib.hid hbd
            have hm : b % 128 = b - 128 := by omega
            have HM := Lib.hid hm
            clear hbad h9 hPk hbd hm
            go_wp2_with fail
            all_goals
              go_roundw
              case rel => exact ⟨k + 1, _, t, by omega, by go_num, by rw [HO.out, HM.out], HBD.out.1, HBD.out.2, HB.out, H1.out, HG1.out⟩
              case measure => simp [intOf]; omega
  · have hr : rdU s = (0, s) := by unfold rdU; rw [if_neg he]
    rw [hr]
    have hne : (s.er != 0) = true := by simpa using he
    have HNE := Lib.hid hne
    clear hr hne
    go_enter Tryz.func116, Tryz.ntmps116
    go_wp2_with fail
    go_loopw [3, 8] (fun n i wr => i = .int .i64 0 ∧ n = .int .u64 0 ∧ wr = w) (fun _ i _ => 10 - (intOf i).toNat)
    case atStart => exact ⟨rfl, rfl, rfl⟩
    case round =>
      obtain ⟨rfl, rfl, rfl⟩ := hrel
      go_wp2_with fail
      refine (r_octet_bad p B s _ HR.out he).mono ?_
      rintro e w1 ⟨rfl, h1, hg1⟩
      obtain ⟨A, n, c, _, c1, _, f1, _, _, _⟩ := h1.cells
      have H1 := Lib.hid h1
      have hne := HNE.out
      clear h1
      go_wp2_with fail
      go_ret
      exact ⟨rfl, H1.out, hg1⟩
end Go.Proofs.YtocooajlfpngdaaGreatDoor
namespace Go.Proofs.YtocooajlfpngdaaGreatDoor
open Go.RowKit
set_option linter.unusedVariables false

/-! ### Int -/
/-! ### Bool -/
/-! ### End -/
theorem r_end (p B : Nat) (s : RS) (w : World) (h : RdW w p B s) (hl : s.bs.length ≤ 1000000) :
    Calls Tryz.prog 57 #[.pointer (some ⟨p, 0, none⟩)] w fun e w' => e = .returned (.int .i64 (endE s)) ∧ w = w' := by
  obtain ⟨A, n, c, c0, c1, _, _, h2, h3, h4⟩ := h.cells
  unfold maxLen at h3
  by_cases he : s.er = 0
  · have hn := h4 he
    by_cases hz : 0 < n
    · have hE : endE s = 2 := by unfold endE; rw [if_pos ⟨he, by omega⟩]
      rw [he] at c1
      rw [hE]
      have hne : (s.er == 0) = true := by simpa using he
      clear hE hn h4 he
      go_enter Tryz.func57, Tryz.ntmps57
      go_wp2
      go_ret
      exact ⟨rfl, rfl⟩
    · have hE : endE s = s.er := by unfold endE; rw [if_neg (by omega)]
      rw [hE]
      obtain rfl : n = 0 := by omega
      rw [he] at c1 ⊢
      clear hE hn h4 he
      go_enter Tryz.func57, Tryz.ntmps57
      go_wp2
      go_ret
      exact ⟨rfl, rfl⟩
  · have hE : endE s = s.er := by unfold endE; rw [if_neg (fun h => he h.1)]
    rw [hE]
    have hne : (s.er == 0) = false := by simpa using he
    clear hE h4 he
    go_enter Tryz.func57, Tryz.ntmps57
    go_wp2
    go_ret
    exact ⟨rfl, rfl⟩

/-! ### Read -/
theorem r_read (A : Option Addr) (n c : Nat) (zs : List Int) (w : World) (h : Sl .u8 w w.heap.size A n zs) (hA : A = none → c = 0) (hn : n ≤ 1000000) (hz : ∀ b ∈ zs, byteI b) :
    Calls Tryz.prog 54 #[.slice A n c] w fun e w' => ∃ p, e = .returned (.pointer (some ⟨p, 0, none⟩)) ∧ w.heap.size ≤ p ∧ RdW w' p w'.heap.size ⟨zs, 0⟩ ∧ Below w.heap.size w w' := by
  go_enter Tryz.func54, Tryz.ntmps54
  go_wp2_with fail
  refine (wclone_any A n c zs _ h hA hn).mono ?_
  rintro e w1 ⟨v, rfl, hown, hb⟩
  obtain ⟨A1, c1, rfl, hnc, hcm, hA1, hsl⟩ := own_sl (k := .u8) hown
  have HS := Lib.hid hsl
  have HA := Lib.hid hA1
  clear hsl hown hA1
  go_wp2_with fail
  go_ret
  have hw2 : Below w1.heap.size w1 (w1.alloc (.cells #[.slice A1 n c1, .int .i64 0] 122)) := (Below.refl _ _).alloc (Nat.le_refl _) _
  exact ⟨_, rfl, hb.size, ⟨A1, n, c1, Blk2.new _ _ _ _, hnc, hcm, HA.out, fun _ => (HS.out.below hw2).more hw2.size, ⟨hz, fun h => absurd rfl h, .inl rfl⟩, Nat.le_refl _⟩, hb.trans (hw2.mono hb.size)⟩
end Go.Proofs.YtocooajlfpngdaaGreatDoor
namespace Go.Proofs.YtocooajlfpngdaaGreatDoor
open Go.RowKit
set_option linter.unusedVariables false

theorem rdN_step (f : RS → Int × RS) (k : Nat) (acc : List Int) (s : RS) (h : (f s).2.er = 0) : rdN f (k + 1) acc s = rdN f k (acc ++ [(f s).1]) (f s).2 := by rw [rdN, if_pos h]
theorem rdN_fail (f : RS → Int × RS) (k : Nat) (acc : List Int) (s : RS) (h : (f s).2.er ≠ 0) : rdN f (k + 1) acc s = ([], (f s).2) := by rw [rdN, if_neg h]
theorem rdL_err (f : RS → Int × RS) (s : RS) (h : (rdU s).2.er ≠ 0) : rdL f s = ([], (rdU s).2) := by rw [rdL, if_neg h]
theorem rdL_more (f : RS → Int × RS) (s : RS) (N : Nat) (hN : (rdU s).1 = N) (h : (rdU s).2.er = 0) (hm : (rdU s).2.bs.length < N) : rdL f s = ([], bad 3) := by
  rw [rdL, if_pos h, if_neg (by rw [hN]; omega)]
theorem rdL_run (f : RS → Int × RS) (s : RS) (N : Nat) (hN : (rdU s).1 = N) (h : (rdU s).2.er = 0) (hm : ¬ (rdU s).2.bs.length < N) : rdL f s = rdN f N [] (rdU s).2 := by
  rw [rdL, if_pos h, if_pos (by rw [hN]; omega), hN]; rfl
theorem set_here (f : Int → Value) (acc : List Int) (z x : Int) (rest : List Value) : (acc.map f ++ f z :: rest).set acc.length (f x) = (acc ++ [x]).map f ++ rest := by
  rw [List.set_append_right _ _ (by simp)]; simp
theorem row_split {w : World} {base e N k : Nat} {v : Value} {acc : List Int} {f : Int → Value} (h : w.ownsRow base e 1 v N (acc.map f ++ List.replicate (N - k) (f 0))) (hk : k < N) : w.ownsRow base e 1 v N (acc.map f ++ f 0 :: List.replicate (N - (k + 1)) (f 0)) := by
  rw [show N - k = N - (k + 1) + 1 by omega, List.replicate_succ] at h; exact h

set_option maxRecDepth 100000 in
set_option maxHeartbeats 2000000 in
theorem r_listB (p B : Nat) (s : RS) (w : World) (h : RdW w p B s) (hl : s.bs.length ≤ 1000000) :
    Calls Tryz.prog 90 #[.pointer (some ⟨p, 0, none⟩), .func (.func 91) #[.pointer (some ⟨p, 0, none⟩)] #[]] w fun e w' => ∃ v, e = .returned v ∧ w'.ownsRow w.heap.size 5 1 v (rdL rdO s).1.length (cB (rdL rdO s).1) ∧ RdW w' p B (rdL rdO s).2 ∧ w.grownBy w' (some p) := by
  obtain ⟨i0, hi, hz0, hz1, hz2⟩ := info_parts u8_info
  obtain ⟨hu, hok, hle, hzero⟩ := rdU_ok s h.ok
  obtain ⟨N, hN⟩ : ∃ N : Nat, (rdU s).1 = N := ⟨(rdU s).1.toNat, by unfold u64 at hu; omega⟩
  have hN64 : N ≤ 18446744073709551615 := by unfold u64 at hu; omega
  have hpw := h.lt
  have HLE := Lib.hid hle
  obtain ⟨R, hR⟩ : ∃ R, R = rdL rdO s := ⟨_, rfl⟩
  rw [← hR]
  have HRL := Lib.hid hR
  clear hR
  go_enter Tryz.func90, Tryz.ntmps90
  go_wp2_with fail
  refine (r_uint p B s _ h).mono ?_
  rintro e w1 ⟨rfl, h1, hg1⟩
  rw [hN]
  obtain ⟨A, n, c, c0, c1, _, f1, hnc, hcm, hnl⟩ := h1.cells
  have HNL := Lib.hid hnl
  have H1 := Lib.hid h1
  have HG1 := Lib.hid hg1
  have HN := Lib.hid hN
  have HZ := Lib.hid hzero
  unfold maxLen at hcm
  have hsz1 := hg1.size
  clear h1 hg1 hN hnl hzero h hle
  by_cases he : (rdU s).2.er = 0
  · have hnl := HNL.out he
    have hle := HLE.out
    have hn6 : n ≤ 1000000 := by omega
    have HE := Lib.hid he
    have HNN := Lib.hid hnl
    clear hnl hle
    by_cases hm : n < N
    · obtain rfl : R = ([], bad 3) := HRL.out.trans (rdL_more rdO s N HN.out HE.out (by rw [← HNN.out]; exact hm))
      clear he
      go_wp2_with fail
      go_ret
      exact ⟨_, rfl, World.ownsRow_nil _ _ _ _, H1.out.fail 3 (.inr rfl), grown_trans HG1.out (grown_set _ _ _ _)⟩
    · have hNn : N ≤ n := by omega
      have hrun := HRL.out.trans (rdL_run rdO s N HN.out HE.out (by rw [← HNN.out]; exact hm))
      obtain ⟨s1, hs1⟩ : ∃ s1, s1 = (rdU s).2 := ⟨_, rfl⟩
      rw [← hs1] at H1 HE c1 he hrun
      have HRUN := Lib.hid hrun
      clear hs1 hrun HRL
      have HE0 := Lib.hid he
      clear he hm
      have hb1 : i0.bytes * N ≤ 281474976710656 := by rw [hz2]; omega
      have hb2 : N ≤ maxLen := by unfold maxLen; omega
      have HW0 := Lib.hid hsz1
      go_wp2_with (at_make; refine wpList_make_full _ rfl _ _ _ rfl w1.heap.size 5 i0 _ 1 Tryz.underlying76 hi hz0 hz1 _ _ _ _ N rfl rfl rfl rfl hb1 hb2 (Nat.le_refl _) ?_; intro w2 hown2 hg2)
      have hrow : w2.ownsRow w1.heap.size 5 1 (.slice (some ⟨w1.heap.size, 0, none⟩) N N) N (cB [] ++ List.replicate N (.int .u8 0)) := by
        have e := toList_madeCells_one (.int .u8 0) N
        rw [show (Value.int .u8 0).cells = #[.int .u8 0] from rfl, Nat.mul_one, e] at hown2
        exact hown2
      have hb2' : Below w1.heap.size w1 w2 := ⟨hg2.os, hg2.tape, hg2.output, hg2.size, fun k hk => hg2.block k hk (by simp)⟩
      have H2 := Lib.hid (Rd.below H1.out hb2')
      have HG2 := Lib.hid (grown_trans HG1.out (wgrown_below hb2' (some p)))
      have HR := Lib.hid hrow
      have hsz2 := hb2'.size
      have hne : p ≠ w1.heap.size := by have := H1.out.lt; omega
      clear hown2 hg2 hrow hb2' HE HNN HNL
      go_wp2_with fail
      go_loopw [25] (fun i wr => ∃ (k : Nat) (acc : List Int) (sk : RS), k ≤ N ∧ i = .int .i64 k ∧ Hid (acc.length = k) ∧ Hid (sk.er = 0) ∧ Hid (rdN rdO (N - k) acc sk = rdN rdO N [] s1) ∧ wr.ownsRow w1.heap.size 5 1 (.slice (some ⟨w1.heap.size, 0, none⟩) N N) N (cB acc ++ List.replicate (N - k) (.int .u8 0)) ∧ RdW wr p B sk ∧ w.grownBy wr (some p)) (fun i _ => N - (intOf i).toNat)
      case atStart => exact ⟨0, [], s1, Nat.zero_le _, rfl, rfl, HE0.out, rfl, HR.out, H2.out, HG2.out⟩
      case round =>
        obtain ⟨k, acc, sk, hk, rfl, HA, HS, HD, hown, hrd, hgr⟩ := hrel
        have HO := Lib.hid hown
        have HRD := Lib.hid hrd
        have HGR := Lib.hid hgr
        clear hown hrd hgr
        by_cases hlt : k < N
        · go_wp2_with fail
          refine (r_octet p B sk _ HRD.out).mono ?_
          rintro e w3 ⟨rfl, h3, hg3⟩
          have hown3 := Rd.own HRD.out (row_split HO.out hlt) (by decide) hg3
          have hc3 : w3.cell? ⟨w1.heap.size, k, none⟩ = some (.int .u8 0) := by
            rw [hown3.cellAt k (by omega), List.getElem?_append_right (by simp [HA.out]), List.length_map, HA.out, Nat.sub_self]; rfl
          have hf3 := hown3.frozenAt k
          have hst := hown3.stored k (.int .u8 (rdO sk).1)
          have hB1 : B ≤ w1.heap.size := H1.out.size
          have h4 : RdW (w3.setCell ⟨w1.heap.size, k, none⟩ (.int .u8 (rdO sk).1)) p B (rdO sk).2 := Rd.far h3 hB1 hne _
          obtain ⟨A4, n4, c4, _, hc4, _, _, _, _, _⟩ := h4.cells
          have HS4 := Lib.hid hst.1
          have H4 := Lib.hid h4
          have HG4 := Lib.hid (grown_far (grown_trans HGR.out hg3) (j := k) (u := .int .u8 (rdO sk).1) hsz1)
          clear hown3 hst h4 h3 hg3
          by_cases hf : (rdO sk).2.er = 0
          · have hfn : ((rdO sk).2.er != 0) = false := by simpa using hf
            go_wp2_with fail
            go_roundw
            case rel =>
              refine ⟨k + 1, acc ++ [(rdO sk).1], (rdO sk).2, by omega, by go_num, by show _ = _; rw [List.length_append, HA.out]; rfl, hf, ?_, ?_, H4.out, HG4.out⟩
              · show _ = _
                rw [← HD.out, show N - k = N - (k + 1) + 1 by omega, rdN_step _ _ _ _ hf]
              · have e := HS4.out
                rw [← HA.out] at e
                have e2 := set_here (Value.int .u8) acc 0 (rdO sk).1 (List.replicate (N - (acc.length + 1)) (.int .u8 0))
                rw [e2] at e
                rw [HA.out] at e
                exact e
            case measure => simp [intOf]; omega
          · have hfn : ((rdO sk).2.er != 0) = true := by simpa using hf
            obtain rfl : R = ([], (rdO sk).2) := by rw [HRUN.out, ← HD.out, show N - k = N - (k + 1) + 1 by omega, rdN_fail _ _ _ _ hf]
            go_wp2_with fail
            go_ret
            exact ⟨_, rfl, World.ownsRow_nil _ _ _ _, H4.out, HG4.out⟩
        · obtain rfl : k = N := by omega
          obtain rfl : R = (acc, sk) := by rw [HRUN.out, ← HD.out, Nat.sub_self]; rfl
          go_wp2_with fail
          go_ret
          have e := HO.out
          rw [Nat.sub_self, List.replicate_zero, List.append_nil] at e
          refine ⟨_, rfl, ?_, HRD.out, HGR.out⟩
          have e3 := own_mono e hsz1
          show World.ownsRow _ _ _ _ _ acc.length _
          rw [HA.out]; exact e3
  · have hN0 : N = 0 := by have := HZ.out he; rw [HN.out] at this; omega
    subst hN0
    obtain rfl : R = ([], (rdU s).2) := HRL.out.trans (rdL_err rdO s he)
    have hne : ((rdU s).2.er != 0) = true := by simpa using he
    go_wp2_with (at_make; refine wpList_make_full _ rfl _ _ _ rfl w1.heap.size 5 i0 _ 1 Tryz.underlying76 hi hz0 hz1 _ _ _ _ 0 rfl rfl rfl rfl (by omega) (by omega) (Nat.le_refl _) ?_; intro w2 hown2 hg2)
    have hb2' : Below w1.heap.size w1 w2 := ⟨hg2.os, hg2.tape, hg2.output, hg2.size, fun k hk => hg2.block k hk (by simp)⟩
    have H2 := Lib.hid (Rd.below H1.out hb2')
    have HG2 := Lib.hid (grown_trans HG1.out (wgrown_below hb2' (some p)))
    have HR := Lib.hid hown2
    clear hown2 hg2 hb2'
    go_wp2_with fail
    go_loopw [25] (fun i wr => i = .int .i64 0 ∧ wr = w2) (fun i _ => 0)
    case atStart => exact ⟨rfl, rfl⟩
    case round =>
      obtain ⟨rfl, rfl⟩ := hrel
      go_wp2_with fail
      go_ret
      exact ⟨_, rfl, by have e := own_mono HR.out hsz1; rw [show (Value.int .u8 0).cells = #[.int .u8 0] from rfl, Nat.zero_mul, toList_madeCells_one] at e; exact e, H2.out, HG2.out⟩

theorem rdN_ok (f : RS → Int × RS) (G : Int → Prop) (hf : ∀ s : RS, s.ok → G (f s).1 ∧ (f s).2.ok) : ∀ (k : Nat) (acc : List Int) (s : RS), s.ok → (∀ x ∈ acc, G x) → (∀ x ∈ (rdN f k acc s).1, G x) ∧ (rdN f k acc s).2.ok := by
  intro k
  induction k with
  | zero => intro acc s hs ha; exact ⟨ha, hs⟩
  | succ k ih =>
    intro acc s hs ha
    obtain ⟨g1, g2⟩ := hf s hs
    by_cases h : (f s).2.er = 0
    · rw [rdN_step _ _ _ _ h]
      exact ih _ _ g2 (fun x hx => by
        rcases List.mem_append.1 hx with hx | hx
        · exact ha x hx
        · have : x = (f s).1 := by simpa using hx
          rw [this]; exact g1)
    · rw [rdN_fail _ _ _ _ h]
      exact ⟨by simp, g2⟩
theorem rdL_ok (f : RS → Int × RS) (G : Int → Prop) (hf : ∀ s : RS, s.ok → G (f s).1 ∧ (f s).2.ok) (s : RS) (hs : s.ok) : (∀ x ∈ (rdL f s).1, G x) ∧ (rdL f s).2.ok := by
  have hu := (rdU_ok s hs).2.1
  unfold rdL
  split
  · split
    · exact rdN_ok f G hf _ _ _ hu (by simp)
    · exact ⟨by simp, bad_ok 3 (.inr rfl)⟩
  · exact ⟨by simp, hu⟩
theorem rdL_byte (s : RS) (hs : s.ok) : ∀ x ∈ (rdL rdO s).1, byteI x := (rdL_ok rdO byteI (fun s h => ⟨(rdO_ok s h).1, (rdO_ok s h).2.1⟩) s hs).1
set_option maxRecDepth 100000 in
theorem r_text (p B : Nat) (s : RS) (w : World) (h : RdW w p B s) (hl : s.bs.length ≤ 1000000) :
    Calls Tryz.prog 56 #[.pointer (some ⟨p, 0, none⟩)] w fun e w' => e = .returned (.string (strOf (rdL rdO s).1)) ∧ RdW w' p B (rdL rdO s).2 ∧ w.grownBy w' (some p) := by
  have hby := rdL_byte s h.ok
  go_enter Tryz.func56, Tryz.ntmps56
  go_wp2_with fail
  refine (r_listB p B s _ h hl).mono ?_
  rintro e w1 ⟨v, rfl, hown, h1, hg⟩
  obtain ⟨A1, c1, rfl, _, _, hA1, hsl⟩ := own_sl (k := .u8) hown
  have hconv := conv_sl (P := Tryz.prog) w1 76 9 5 A1 _ c1 _ _ Tryz.underlying76 Tryz.underlying5 Tryz.underlying9 hsl hby
  clear hby hown hsl hA1
  go_wp2_with fail
  go_ret
  exact ⟨rfl, h1, hg⟩
end Go.Proofs.YtocooajlfpngdaaGreatDoor
