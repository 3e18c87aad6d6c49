/- The contract of refuterref02.Vals. -/
import Derived.Test.YtjnjglkmabnlfaaMemV
import Derived.Deep.RegionLaw
import Derived.Deep.AppendLies
namespace Go.Proofs.Ytjnjglkmabnlfaa
open Go.RowKit
set_option linter.unusedVariables false

/-- a value that Vals builds -/
def V.good (v : V) : Prop := v.can ∧ v.b.length ≤ 9 ∧ v.l.length ≤ 4

/-- block q is a value's variable -/
def Blk5 (w : World) (q : Nat) (a b c d e : Value) : Prop := w.heap[q]? = some (.cells #[a, b, c, d, e] 28 (0, 0))
section
variable {w w' : World} {q : Nat} {a b c d e : Value}
theorem Blk5.lt (h : Blk5 w q a b c d e) : q < w.heap.size := (Array.getElem?_eq_some_iff.1 h).1
theorem Blk5.c0 (h : Blk5 w q a b c d e) : w.cell? ⟨q, 0, none⟩ = some a := by simp [World.cell?, show w.heap[q]? = _ from h]
theorem Blk5.c1 (h : Blk5 w q a b c d e) : w.cell? ⟨q, 1, none⟩ = some b := by simp [World.cell?, show w.heap[q]? = _ from h]
theorem Blk5.c2 (h : Blk5 w q a b c d e) : w.cell? ⟨q, 2, none⟩ = some c := by simp [World.cell?, show w.heap[q]? = _ from h]
theorem Blk5.c3 (h : Blk5 w q a b c d e) : w.cell? ⟨q, 3, none⟩ = some d := by simp [World.cell?, show w.heap[q]? = _ from h]
theorem Blk5.c4 (h : Blk5 w q a b c d e) : w.cell? ⟨q, 4, none⟩ = some e := by simp [World.cell?, show w.heap[q]? = _ from h]
theorem Blk5.fr (h : Blk5 w q a b c d e) (i : Nat) : w.frozen? ⟨q, i, none⟩ = false := by simp [World.frozen?, show w.heap[q]? = _ from h]
theorem Blk5.new (w : World) (a b c d e : Value) : Blk5 (w.alloc (.cells #[a, b, c, d, e] 28)) w.heap.size a b c d e := World.alloc_heap_new w _
theorem Blk5.grown {row : Option Nat} (h : Blk5 w q a b c d e) (hg : w.grownBy w' row) (hne : some q ≠ row) : Blk5 w' q a b c d e := (hg.block q h.lt hne).trans h
theorem Blk5.below (h : Blk5 w q a b c d e) (hb : Below w.heap.size w w') : Blk5 w' q a b c d e := (hb.block q h.lt).trans h
theorem Blk5.set3 (h : Blk5 w q a b c d e) (v : Value) : Blk5 (w.setCell ⟨q, 3, none⟩ v) q a b c v e := by
  unfold Blk5 at h ⊢
  simp [World.setCell, Array.getElem?_modify, h]
theorem Blk5.set4 (h : Blk5 w q a b c d e) (v : Value) : Blk5 (w.setCell ⟨q, 4, none⟩ v) q a b c d v := by
  unfold Blk5 at h ⊢
  simp [World.setCell, Array.getElem?_modify, h]
theorem Blk5.not_row {base n size : Nat} {t : TypeId} {v : Value} {xs : List Value} (h : Blk5 w q a b c d e) (hr : w.ownsRow base t size v n xs) (hne : t ≠ 28) : some q ≠ v.ownBlock := by
  rcases hr.2 with ⟨rfl, _⟩ | ⟨g, cap, cur, rfl, _, hh, _⟩
  · simp [Value.ownBlock]
  · intro e'
    have : q = g := by simpa [Value.ownBlock] using e'
    subst this
    have := (show w.heap[q]? = _ from h).symm.trans hh
    simp at this
    exact hne this.2.symm
end

/-- one value more -/
theorem OwnV.snoc {w w1 : World} {base k : Nat} {o v1 : Value} {vs : List V} {v : V} {Ab Al : Option Addr} {cb cl : Nat} {cs : List Value}
    (hrow : w.ownsRow base 28 5 o k cs) (hd : Desc w w.heap.size vs cs) (hl : vs.length = k) (hv : VOk w w.heap.size v Ab cb Al cl)
    (hown : w1.ownsRow base 28 5 v1 (k + 1) (cs ++ vCs v Ab cb Al cl)) (hg : w.grownBy w1 o.ownBlock) : OwnV w1 base v1 (k + 1) (vs ++ [v]) := by
  refine ⟨cs ++ vCs v Ab cb Al cl, hown, ?_, by simp [hl]⟩
  have key : ∀ {us : List V} {ds : List Value}, Desc w w.heap.size us ds → Desc w1 w.heap.size us ds := by
    intro us ds h
    rcases hrow.2 with ⟨rfl, _⟩ | ⟨g, cap, cur, rfl, _, hh, _⟩
    · exact h.below ⟨hg.os, hg.tape, hg.output, hg.size, fun i hi => hg.block i hi (by simp [Value.ownBlock])⟩
    · exact h.grown hg hh
  exact ((key hd).append (key (Desc.one hv))).more hg.size

theorem vals_end {w wr w2 w1 : World} {base k : Nat} {o v1 : Value} {vs : List V} {v : V} {Ab Al : Option Addr} {cb cl : Nat} {cs : List Value}
    (hrow : wr.ownsRow base 28 5 o k cs) (hd : Desc wr wr.heap.size vs cs) (hl : vs.length = k) (hb : Below wr.heap.size wr w2) (hv : VOk w2 w2.heap.size v Ab cb Al cl)
    (hown : w1.ownsRow base 28 5 v1 (k + 1) (cs ++ vCs v Ab cb Al cl)) (hg : w2.grownBy w1 o.ownBlock) (hbw : Below base w wr) (hbase : base ≤ wr.heap.size) :
    OwnV w1 base v1 (k + 1) (vs ++ [v]) ∧ Below base w w1 := by
  have hrow2 := ownsRow_below' hrow hb
  refine ⟨OwnV.snoc hrow2 ((hd.below hb).more hb.size) hl hv hown hg, ?_⟩
  exact below_row (hbw.trans (hb.mono hbase)) hg (Nat.le_trans hbase hb.size) (fun g hg' => (hrow2.lt g hg').1)
theorem good_snoc {vs : List V} {v : V} (h : ∀ v ∈ vs, v.good) (hv : v.good) : ∀ u ∈ vs ++ [v], u.good := by
  intro u hu
  rcases List.mem_append.1 hu with hu | hu
  · exact h u hu
  · have : u = v := by simpa using hu
    rw [this]; exact hv
theorem vok_nil (w : World) (B : Nat) (k u n : Int) : VOk w B ⟨k, u, n, [], []⟩ none 0 none 0 := ⟨RowB.nil, RowB.nil⟩
theorem good0 (u : Int) (h : u64 u) : V.good ⟨0, u, 0, [], []⟩ := ⟨.inl ⟨rfl, h, rfl, rfl, rfl⟩, by simp, by simp⟩
theorem good1 (n : Int) (h : i64 n) : V.good ⟨1, 0, n, [], []⟩ := ⟨.inr (.inl ⟨rfl, rfl, h, rfl, rfl⟩), by simp, by simp⟩
theorem good2 (n : Int) (h : n = 0 ∨ n = 1) : V.good ⟨2, 0, n, [], []⟩ := ⟨.inr (.inr (.inl ⟨rfl, rfl, h, rfl, rfl⟩)), by simp, by simp⟩
theorem good3 (k : Int) (hk : k = 3 ∨ k = 4) (b : List Int) (h : ∀ x ∈ b, byteI x) (hl : b.length ≤ 9) : V.good ⟨k, 0, 0, b, []⟩ := ⟨.inr (.inr (.inr (.inl ⟨hk, rfl, rfl, by simp only; omega, h, rfl⟩))), hl, by simp⟩
theorem good5 (l : List Int) (h : ∀ x ∈ l, i64 x) (hl : l.length ≤ 4) : V.good ⟨5, 0, 0, [], l⟩ := ⟨.inr (.inr (.inr (.inr ⟨rfl, rfl, rfl, rfl, by simp only; omega, h⟩))), by simp, hl⟩
theorem two_alloc (w : World) (a b : Obj) : Below w.heap.size w ((w.alloc a).alloc b) := ((Below.refl _ _).alloc (Nat.le_refl _) _).alloc (by simp) _

/-- the bytes laid so far into a value's variable -/
def BRel (wr wi : World) (K : Int) (bs : List Int) (j : Nat) : Prop := ∃ vb, Blk5 wi wr.heap.size (.int .i64 K) (.int .u64 0) (.int .i64 0) vb (.slice none 0 0) ∧ wi.ownsRow wr.heap.size 5 1 vb j (cB bs) ∧ Below wr.heap.size wr wi ∧ bs.length = j ∧ ∀ x ∈ bs, byteI x
def LRel (wr wi : World) (l : List Int) (j : Nat) : Prop := ∃ vl, Blk5 wi wr.heap.size (.int .i64 5) (.int .u64 0) (.int .i64 0) (.slice none 0 0) vl ∧ wi.ownsRow wr.heap.size 3 1 vl j (cI l) ∧ Below wr.heap.size wr wi ∧ l.length = j ∧ ∀ x ∈ l, i64 x

theorem blk5_step {wi w1 : World} {q : Nat} {a b c d e : Value} {row : Option Nat} {o : Obj} (h : Blk5 wi q a b c d e) (hg : ((wi.alloc o).drew).grownBy w1 row) (hne : row ≠ some q) : Blk5 w1 q a b c d e := by
  have h1 : Blk5 ((wi.alloc o).drew) q a b c d e := (Below.heap_alloc wi o q h.lt).trans h
  exact h1.grown hg (fun e => hne e.symm)
theorem cell_step {wi w1 : World} {p : Addr} {v : Value} {row : Option Nat} {o : Obj} (h : wi.cell? p = some v) (hg : ((wi.alloc o).drew).grownBy w1 row) (hne : row ≠ some p.block) : w1.cell? p = some v := by
  have h1 : ((wi.alloc o).drew).cell? p = some v := (World.cell?_alloc_lt wi o p (World.block_lt_of_cell? wi p h)).trans h
  exact hg.cell h1 (fun e => hne e.symm)

theorem rel_below {wr wi w1 : World} {row : Option Nat} {o : Obj} {v : Value} {f : Nat} (hq : wr.heap.size < wi.heap.size) (hbl : Below wr.heap.size wr wi) (hg : ((wi.alloc o).drew).grownBy w1 row) (hr : ∀ g, row = some g → wr.heap.size ≤ g) :
    Below wr.heap.size wr (w1.setCell ⟨wr.heap.size, f, none⟩ v) := by
  have h1 : Below wr.heap.size wr ((wi.alloc o).drew) := (hbl.alloc (by omega) _).drew
  exact (below_row h1 hg (by simp; omega) hr).setCell (p := ⟨wr.heap.size, f, none⟩) (Nat.le_refl _) _
theorem brel_step {wr wi w1 : World} {row : Option Nat} {o : Obj} {K : Int} {vb v1 : Value} {bs : List Int} {j : Nat} {y : Int} (hblk1 : Blk5 w1 wr.heap.size (.int .i64 K) (.int .u64 0) (.int .i64 0) vb (.slice none 0 0))
    (hown1 : w1.ownsRow wr.heap.size 5 1 v1 (j + 1) (cB bs ++ [.int .u8 y])) (hq : wr.heap.size < wi.heap.size) (hbl : Below wr.heap.size wr wi) (hg : ((wi.alloc o).drew).grownBy w1 row) (hr : ∀ g, row = some g → wr.heap.size ≤ g)
    (hl : bs.length = j) (hb : ∀ x ∈ bs, byteI x) (hy : byteI y) : BRel wr (w1.setCell ⟨wr.heap.size, 3, none⟩ v1) K (bs ++ [y]) (j + 1) := by
  rw [cB_snoc] at hown1
  refine ⟨v1, hblk1.set3 v1, hown1.kept (grown_set w1 _ 3 v1) (.inr (hblk1.not_row hown1 (by decide)).symm), rel_below hq hbl hg hr, by simp [hl], ?_⟩
  intro x hx
  rcases List.mem_append.1 hx with hx | hx
  · exact hb x hx
  · have : x = y := by simpa using hx
    rw [this]; exact hy
theorem lrel_step {wr wi w1 : World} {row : Option Nat} {o : Obj} {vl v1 : Value} {l : List Int} {j : Nat} {y : Int} (hblk1 : Blk5 w1 wr.heap.size (.int .i64 5) (.int .u64 0) (.int .i64 0) (.slice none 0 0) vl)
    (hown1 : w1.ownsRow wr.heap.size 3 1 v1 (j + 1) (cI l ++ [.int .i64 y])) (hq : wr.heap.size < wi.heap.size) (hbl : Below wr.heap.size wr wi) (hg : ((wi.alloc o).drew).grownBy w1 row) (hr : ∀ g, row = some g → wr.heap.size ≤ g)
    (hl : l.length = j) (hb : ∀ x ∈ l, i64 x) (hy : i64 y) : LRel wr (w1.setCell ⟨wr.heap.size, 4, none⟩ v1) (l ++ [y]) (j + 1) := by
  rw [show cI l ++ [Value.int .i64 y] = cI (l ++ [y]) by simp [cI]] at hown1
  refine ⟨v1, hblk1.set4 v1, hown1.kept (grown_set w1 _ 4 v1) (.inr (hblk1.not_row hown1 (by decide)).symm), rel_below hq hbl hg hr, by simp [hl], ?_⟩
  intro x hx
  rcases List.mem_append.1 hx with hx | hx
  · exact hb x hx
  · have : x = y := by simpa using hx
    rw [this]; exact hy
theorem wrap_u8_byte (x : Int) : byteI (IntKind.u8.wrap x) := by rw [IntKind.wrap_u8]; unfold byteI; omega

theorem quo_bd (x : Int) (j : Nat) (h : i64 x) : i64 (x / 2 ^ j) := by
  unfold i64 at *
  have hp : (0 : Int) < 2 ^ j := Int.pow_pos (by omega)
  have h1 : (1 : Int) ≤ 2 ^ j := by omega
  constructor
  · rw [Int.le_ediv_iff_mul_le hp]
    have := Int.mul_le_mul_of_nonneg_left h1 (show (0 : Int) ≤ 9223372036854775808 by omega)
    rw [Int.neg_mul]; omega
  · have : x / 2 ^ j ≤ 9223372036854775807 / 1 := by
      rcases Int.lt_or_le x 0 with hx | hx
      · have : x / 2 ^ j < 0 := Int.ediv_neg_of_neg_of_pos hx hp
        omega
      · exact Int.le_trans (Int.ediv_le_self _ hx) (by omega)
    omega
theorem wrapq_u64 (x : Int) (j : Nat) : u64 (IntKind.u64.wrap x / 2 ^ j) := by
  have hp : (0 : Int) < 2 ^ j := Int.pow_pos (by omega)
  have h0 : 0 ≤ IntKind.u64.wrap x := by rw [IntKind.wrap_u64]; omega
  have h1 : IntKind.u64.wrap x ≤ 18446744073709551615 := by rw [IntKind.wrap_u64]; omega
  exact ⟨Int.ediv_nonneg h0 (by omega), Int.le_trans (Int.ediv_le_self _ h0) h1⟩

/-- what Vals leaves -/
def ValsPost (w : World) (e : Ending) (w' : World) : Prop := ∃ v k vs, e = .returned v ∧ k ≤ 8 ∧ OwnV w' w.heap.size v k vs ∧ (∀ v ∈ vs, v.good) ∧ Below w.heap.size w w'

set_option maxRecDepth 100000 in
set_option maxHeartbeats 4000000 in
theorem vals_any (A : Option Addr) (n c : Nat) (zs : List Int) (w : World) (hn : n ≤ c) (hc : c ≤ maxLen) (h : Sl .i64 w w.heap.size A n zs) (hz : ∀ x ∈ zs, i64 x) :
    Calls Try.prog 11 #[.slice A n c] w (ValsPost w) := by
  obtain ⟨i0, hi, hz0, hz1, hz2⟩ := info_parts val_info
  obtain ⟨j0, hju, hjz0, hjz1, hjz2⟩ := info_parts u8_info
  obtain ⟨l0, hlu, hlz0, hlz1, hlz2⟩ := info_parts int_info
  have HS := Lib.hid h
  have HZ := Lib.hid hz
  have HL := Lib.hid h.len
  clear h hz
  unfold maxLen at hc
  go_enter Try.func11, Try.ntmps11
  go_wp2_with fail
  go_loopw [3, 4] (fun o i wr => ∃ (k : Nat) (vs : List V), k ≤ n ∧ k ≤ 8 ∧ i = .int .i64 k ∧ OwnV wr w.heap.size o k vs ∧ Hid (∀ v ∈ vs, v.good) ∧ Below w.heap.size w wr) (fun _ i _ => n - (intOf i).toNat)
  case atStart => exact ⟨0, [], Nat.zero_le _, by omega, rfl, OwnV.nil _ _, by show ∀ v ∈ [], _; simp, Below.refl _ _⟩
  case round =>
    obtain ⟨k, vs, hk, hk8, rfl, ⟨cs, hrow, hdesc, hvl⟩, HG, hbel⟩ := hrel
    have HB := Lib.hid hbel
    have HD := Lib.hid hdesc
    have HV := Lib.hid hvl
    clear hdesc hvl
    by_cases hgo : k < n ∧ k < 8
    · obtain ⟨hlt, h8⟩ := hgo
      obtain ⟨b, off, rfl, hb, hcl⟩ := HS.out.at_ (by omega)
      have hcell := (hbel.cell (p := ⟨b, off + k, none⟩) hb).trans (hcl k hlt)
      have hkz : k < zs.length := by rw [HL.out]; exact hlt
      obtain ⟨x, hx⟩ : ∃ x, x = zs[k] := ⟨_, rfl⟩
      have hx2 : zs[k]?.getD 0 = x := by rw [List.getElem?_eq_getElem hkz, hx]; rfl
      have hxi : i64 x := by rw [hx]; exact HZ.out _ (List.getElem_mem hkz)
      rw [hx2] at hcell
      have hbs : b < wr.heap.size := Nat.lt_of_lt_of_le hb hbel.size
      have hbase : w.heap.size ≤ wr.heap.size := hbel.size
      obtain ⟨hd0, hd1⟩ := tdiv6_bd x hxi.1 hxi.2
      have hx0 := hxi.1
      have hx1 := hxi.2
      have HXI := Lib.hid hxi
      clear hcl hx hx2 hkz hxi hbel
      obtain ⟨A1, c1, hv, hnc, hcm⟩ := own_shape hrow
      subst hv
      go_wp2_with fail
      refine (around_any x 6 _ hx0 hx1 (by omega) (by omega)).mono ?_
      rintro e w' ⟨rfl, rfl⟩
      go_wp2_with fail
      refine (around_any (x.tdiv 6) 63 _ hd0 hd1 (by omega) (by omega)).mono ?_
      rintro e w' ⟨rfl, rfl⟩
      obtain ⟨K, hK⟩ : ∃ K, K = aroundI x 6 := ⟨_, rfl⟩
      obtain ⟨J, hJ⟩ : ∃ J : Nat, aroundI (x.tdiv 6) 63 = J := ⟨(aroundI (x.tdiv 6) 63).toNat, by have := aroundI_bd (x.tdiv 6) 63 (by omega); omega⟩
      have hK0 := aroundI_bd x 6 (by omega)
      have hJ0 := aroundI_bd (x.tdiv 6) 63 (by omega)
      rw [← hK] at hK0 ⊢
      rw [hJ] at hJ0 ⊢
      have hK1 : 0 ≤ K := hK0.1
      have hK6 : K < 6 := hK0.2
      have hJ63 : J < 63 := by omega
      clear hK hJ hK0 hJ0
      have hcase : K = 0 ∨ K = 1 ∨ K = 2 ∨ K = 3 ∨ K = 4 ∨ K = 5 := by omega
      have hr1 : k + 1 ≤ maxLen := by unfold maxLen; omega
      have hr2 : (k + 1) * 72 ≤ 140737488355328 := by omega
      clear hK1 hK6
      rcases hcase with rfl | rfl | rfl | rfl | rfl | rfl
      · -- an unsigned number
        have hu := wrapq_u64 x J
        go_wp2_with (at_builtin; refine wpList_append_own _ rfl _ _ _ rfl w.heap.size 28 i0 _ 5 72 Try.underlying25 hi hz0 hz1 hz2 rfl (by omega) _ k cs rfl ((hrow.alloc _).alloc _) ⟨wr.heap.size + 1, 0, none⟩ 1 1 [_, _, _, _, _] rfl rfl (cells_five _ _ _ _ _ _ _ _ (by simp)) (by simp [Value.oneCell']) hr1 hr2 (by simp; omega) ?_; intro v1 w1 hown1 hg1 hnil1)
        obtain ⟨f1, f2⟩ := vals_end (v := ⟨0, IntKind.u64.wrap x / 2 ^ J, 0, [], []⟩) hrow HD.out HV.out (two_alloc wr _ _) (vok_nil _ _ _ _ _) hown1 hg1 HB.out hbase
        exact ⟨⟨k + 1, _, by omega, by omega, by go_num, f1, good_snoc HG.out (good0 _ hu), f2⟩, by simp [intOf]; omega⟩
      · -- a signed one
        have hu := quo_bd x J HXI.out
        go_wp2_with (at_builtin; refine wpList_append_own _ rfl _ _ _ rfl w.heap.size 28 i0 _ 5 72 Try.underlying25 hi hz0 hz1 hz2 rfl (by omega) _ k cs rfl ((hrow.alloc _).alloc _) ⟨wr.heap.size + 1, 0, none⟩ 1 1 [_, _, _, _, _] rfl rfl (cells_five _ _ _ _ _ _ _ _ (by simp)) (by simp [Value.oneCell']) hr1 hr2 (by simp; omega) ?_; intro v1 w1 hown1 hg1 hnil1)
        obtain ⟨f1, f2⟩ := vals_end (v := ⟨1, 0, x / 2 ^ J, [], []⟩) hrow HD.out HV.out (two_alloc wr _ _) (vok_nil _ _ _ _ _) hown1 hg1 HB.out hbase
        exact ⟨⟨k + 1, _, by omega, by omega, by go_num, f1, good_snoc HG.out (good1 _ hu), f2⟩, by simp [intOf]; omega⟩
      · -- a truth value
        go_wp2_with (at_builtin; refine wpList_append_own _ rfl _ _ _ rfl w.heap.size 28 i0 _ 5 72 Try.underlying25 hi hz0 hz1 hz2 rfl (by omega) _ k cs rfl ((hrow.alloc _).alloc _) ⟨wr.heap.size + 1, 0, none⟩ 1 1 [_, _, _, _, _] rfl rfl (cells_five _ _ _ _ _ _ _ _ (by simp)) (by simp [Value.oneCell']) hr1 hr2 (by simp; omega) ?_; intro v1 w1 hown1 hg1 hnil1)
        obtain ⟨f1, f2⟩ := vals_end (v := ⟨2, 0, (J : Int) % 2, [], []⟩) hrow HD.out HV.out (two_alloc wr _ _) (vok_nil _ _ _ _ _) hown1 hg1 HB.out hbase
        exact ⟨⟨k + 1, _, by omega, by omega, by go_num, f1, good_snoc HG.out (good2 _ (by omega)), f2⟩, by simp [intOf]; omega⟩
      · -- kind 3
        go_wp2_with fail
        go_loopw [8] (fun i wi => ∃ (j : Nat) (bs : List Int), j ≤ J % 10 ∧ i = .int .i64 j ∧ BRel wr wi 3 bs j) (fun i _ => J % 10 - (intOf i).toNat)
        case atStart => exact ⟨0, [], Nat.zero_le _, rfl, _, Blk5.new _ _ _ _ _ _, World.ownsRow_nil _ _ _ _, (Below.refl _ _).alloc (Nat.le_refl _) _, rfl, by simp⟩
        case round =>
          obtain ⟨j, bs, hj, rfl, vb, hblk, hown, hbl, hbsl, hbsb⟩ := hrel
          rename World => wi
          obtain ⟨Ab, cb, rfl, hncb, hcmb⟩ := own_shape hown
          have hcb := (hbl.cell (p := ⟨b, off + k, none⟩) hbs).trans hcell
          have hc3 := hblk.c3
          have hf3 := hblk.fr 3
          have HBLK := Lib.hid hblk
          have HBL := Lib.hid hbl
          have HBSL := Lib.hid hbsl
          have HBSB := Lib.hid hbsb
          have hqs := hblk.lt
          clear hblk hbl hbsl hbsb
          by_cases hlt2 : j < J % 10
          · have hs1 : j + 1 ≤ maxLen := by unfold maxLen; omega
            have hs2 : (j + 1) * 1 ≤ 140737488355328 := by omega
            have hag := (Blk5.not_row HBLK.out hown (by decide)).symm
            have hlo := fun g hg => (hown.lt g hg).1
            have HLO := Lib.hid hlo
            have hk0 : (0 : Int) ≤ (k : Int) := by omega
            have hk1 : (k : Int) < (n : Int) := by omega
            clear hlo
            go_wp2_with fail
            go_region_law ((refine step_append_lies _ (by rfl) _ _ _ (by rfl) wr.heap.size 5 j0 _ 1 1 Try.underlying24 hju hjz0 hjz1 hjz2 rfl (by omega) (.slice Ab j cb) j (cB bs) (by rfl) ((hown.alloc _).drew) ⟨wi.heap.size, 0, none⟩ 1 1 [.int .u8 (IntKind.u8.wrap (x / 2 ^ min (IntKind.u64.wrap (j : Int)).toNat 64))] (by rfl) (by rfl) (World.news_of_block (cs := #[.int .u8 (IntKind.u8.wrap (x / 2 ^ min (IntKind.u64.wrap (j : Int)).toNat 64))]) (t := 5) (fr := (0, 0)) (heap_alloc_new wi _)) (by simp [Value.oneCell']) (by omega) hs1 hs2 (by simp; omega) (wi.heap.size + 1) (by simp) ?_; intro gg cap w1 hown1 hgrow hat hlt; have hblk1 := blk5_step HBLK.out hgrow hag; have hc1 := hblk1.c3; have hf1 := hblk1.fr 3))
            all_goals
              have HX := Lib.hid (brel_step hblk1 hown1 hqs HBL.out hgrow HLO.out HBSL.out HBSB.out (wrap_u8_byte _))
              clear hown1 hgrow hblk1 hc1 hf1
              go_wp2
              exact ⟨⟨j + 1, _, by omega, by go_num, HX.out⟩, by simp [intOf]; omega⟩
          · have e := HBSL.out
            subst e
            obtain ⟨Ab', cb', hvb, hvok⟩ := RowB.of_own (k := .u8) hown
            cases hvb
            have hbl9 : bs.length ≤ 9 := by omega
            have hrow2 := ownsRow_below' hrow HBL.out
            have hc0 := HBLK.out.c0
            have hc1 := HBLK.out.c1
            have hc2 := HBLK.out.c2
            have hc4 := HBLK.out.c4
            have HVOK := Lib.hid hvok
            clear hvok hown
            go_wp2_with (at_builtin; refine wpList_append_own _ rfl _ _ _ rfl w.heap.size 28 i0 _ 5 72 Try.underlying25 hi hz0 hz1 hz2 rfl (by omega) _ k cs rfl (hrow2.alloc _) ⟨wi.heap.size, 0, none⟩ 1 1 [_, _, _, _, _] rfl rfl (cells_five _ _ _ _ _ _ _ _ rfl) (by simp [Value.oneCell']) hr1 hr2 (by simp; omega) ?_; intro v1 w1 hown1 hg1 hnil1)
            have hal : Below wi.heap.size wi (wi.alloc (.cells #[.int .i64 3, .int .u64 0, .int .i64 0, .slice Ab bs.length cb, .slice none 0 0] 28)) := (Below.refl _ _).alloc (Nat.le_refl _) _
            have hv2 : VOk (wi.alloc (.cells #[.int .i64 3, .int .u64 0, .int .i64 0, .slice Ab bs.length cb, .slice none 0 0] 28)) (wi.alloc (.cells #[.int .i64 3, .int .u64 0, .int .i64 0, .slice Ab bs.length cb, .slice none 0 0] 28)).heap.size ⟨3, 0, 0, bs, []⟩ Ab cb none 0 := ⟨(HVOK.out.below hal).more hal.size, RowB.nil⟩
            obtain ⟨f1, f2⟩ := vals_end (v := ⟨3, 0, 0, bs, []⟩) hrow HD.out HV.out (HBL.out.trans (hal.mono (Nat.le_of_lt hqs))) hv2 hown1 hg1 HB.out hbase
            exact ⟨⟨k + 1, _, by omega, by omega, by go_num, f1, good_snoc HG.out (good3 3 (by omega) _ HBSB.out hbl9), f2⟩, by simp [intOf]; omega⟩
      · -- kind 4
        go_wp2_with fail
        go_loopw [8] (fun i wi => ∃ (j : Nat) (bs : List Int), j ≤ J % 10 ∧ i = .int .i64 j ∧ BRel wr wi 4 bs j) (fun i _ => J % 10 - (intOf i).toNat)
        case atStart => exact ⟨0, [], Nat.zero_le _, rfl, _, Blk5.new _ _ _ _ _ _, World.ownsRow_nil _ _ _ _, (Below.refl _ _).alloc (Nat.le_refl _) _, rfl, by simp⟩
        case round =>
          obtain ⟨j, bs, hj, rfl, vb, hblk, hown, hbl, hbsl, hbsb⟩ := hrel
          rename World => wi
          obtain ⟨Ab, cb, rfl, hncb, hcmb⟩ := own_shape hown
          have hcb := (hbl.cell (p := ⟨b, off + k, none⟩) hbs).trans hcell
          have hc3 := hblk.c3
          have hf3 := hblk.fr 3
          have HBLK := Lib.hid hblk
          have HBL := Lib.hid hbl
          have HBSL := Lib.hid hbsl
          have HBSB := Lib.hid hbsb
          have hqs := hblk.lt
          clear hblk hbl hbsl hbsb
          by_cases hlt2 : j < J % 10
          · have hs1 : j + 1 ≤ maxLen := by unfold maxLen; omega
            have hs2 : (j + 1) * 1 ≤ 140737488355328 := by omega
            have hag := (Blk5.not_row HBLK.out hown (by decide)).symm
            have hlo := fun g hg => (hown.lt g hg).1
            have HLO := Lib.hid hlo
            have hk0 : (0 : Int) ≤ (k : Int) := by omega
            have hk1 : (k : Int) < (n : Int) := by omega
            clear hlo
            go_wp2_with fail
            go_region_law ((refine step_append_lies _ (by rfl) _ _ _ (by rfl) wr.heap.size 5 j0 _ 1 1 Try.underlying24 hju hjz0 hjz1 hjz2 rfl (by omega) (.slice Ab j cb) j (cB bs) (by rfl) ((hown.alloc _).drew) ⟨wi.heap.size, 0, none⟩ 1 1 [.int .u8 (IntKind.u8.wrap (x / 2 ^ min (IntKind.u64.wrap (j : Int)).toNat 64))] (by rfl) (by rfl) (World.news_of_block (cs := #[.int .u8 (IntKind.u8.wrap (x / 2 ^ min (IntKind.u64.wrap (j : Int)).toNat 64))]) (t := 5) (fr := (0, 0)) (heap_alloc_new wi _)) (by simp [Value.oneCell']) (by omega) hs1 hs2 (by simp; omega) (wi.heap.size + 1) (by simp) ?_; intro gg cap w1 hown1 hgrow hat hlt; have hblk1 := blk5_step HBLK.out hgrow hag; have hc1 := hblk1.c3; have hf1 := hblk1.fr 3))
            all_goals
              have HX := Lib.hid (brel_step hblk1 hown1 hqs HBL.out hgrow HLO.out HBSL.out HBSB.out (wrap_u8_byte _))
              clear hown1 hgrow hblk1 hc1 hf1
              go_wp2
              exact ⟨⟨j + 1, _, by omega, by go_num, HX.out⟩, by simp [intOf]; omega⟩
          · have e := HBSL.out
            subst e
            obtain ⟨Ab', cb', hvb, hvok⟩ := RowB.of_own (k := .u8) hown
            cases hvb
            have hbl9 : bs.length ≤ 9 := by omega
            have hrow2 := ownsRow_below' hrow HBL.out
            have hc0 := HBLK.out.c0
            have hc1 := HBLK.out.c1
            have hc2 := HBLK.out.c2
            have hc4 := HBLK.out.c4
            have HVOK := Lib.hid hvok
            clear hvok hown
            go_wp2_with (at_builtin; refine wpList_append_own _ rfl _ _ _ rfl w.heap.size 28 i0 _ 5 72 Try.underlying25 hi hz0 hz1 hz2 rfl (by omega) _ k cs rfl (hrow2.alloc _) ⟨wi.heap.size, 0, none⟩ 1 1 [_, _, _, _, _] rfl rfl (cells_five _ _ _ _ _ _ _ _ rfl) (by simp [Value.oneCell']) hr1 hr2 (by simp; omega) ?_; intro v1 w1 hown1 hg1 hnil1)
            have hal : Below wi.heap.size wi (wi.alloc (.cells #[.int .i64 4, .int .u64 0, .int .i64 0, .slice Ab bs.length cb, .slice none 0 0] 28)) := (Below.refl _ _).alloc (Nat.le_refl _) _
            have hv2 : VOk (wi.alloc (.cells #[.int .i64 4, .int .u64 0, .int .i64 0, .slice Ab bs.length cb, .slice none 0 0] 28)) (wi.alloc (.cells #[.int .i64 4, .int .u64 0, .int .i64 0, .slice Ab bs.length cb, .slice none 0 0] 28)).heap.size ⟨4, 0, 0, bs, []⟩ Ab cb none 0 := ⟨(HVOK.out.below hal).more hal.size, RowB.nil⟩
            obtain ⟨f1, f2⟩ := vals_end (v := ⟨4, 0, 0, bs, []⟩) hrow HD.out HV.out (HBL.out.trans (hal.mono (Nat.le_of_lt hqs))) hv2 hown1 hg1 HB.out hbase
            exact ⟨⟨k + 1, _, by omega, by omega, by go_num, f1, good_snoc HG.out (good3 4 (by omega) _ HBSB.out hbl9), f2⟩, by simp [intOf]; omega⟩
      · -- kind 5
        go_wp2_with fail
        go_loopw [9] (fun i wi => ∃ (j : Nat) (bs : List Int), j ≤ J % 5 ∧ i = .int .i64 j ∧ LRel wr wi bs j) (fun i _ => J % 5 - (intOf i).toNat)
        case atStart => exact ⟨0, [], Nat.zero_le _, rfl, _, Blk5.new _ _ _ _ _ _, World.ownsRow_nil _ _ _ _, (Below.refl _ _).alloc (Nat.le_refl _) _, rfl, by simp⟩
        case round =>
          obtain ⟨j, bs, hj, rfl, vb, hblk, hown, hbl, hbsl, hbsb⟩ := hrel
          rename World => wi
          obtain ⟨Ab, cb, rfl, hncb, hcmb⟩ := own_shape hown
          have hcb := (hbl.cell (p := ⟨b, off + k, none⟩) hbs).trans hcell
          have hc3 := hblk.c4
          have hf3 := hblk.fr 4
          have HBLK := Lib.hid hblk
          have HBL := Lib.hid hbl
          have HBSL := Lib.hid hbsl
          have HBSB := Lib.hid hbsb
          have hqs := hblk.lt
          clear hblk hbl hbsl hbsb
          by_cases hlt2 : j < J % 5
          · have hs1 : j + 1 ≤ maxLen := by unfold maxLen; omega
            have hs2 : (j + 1) * 8 ≤ 140737488355328 := by omega
            have hag := (Blk5.not_row HBLK.out hown (by decide)).symm
            have hlo := fun g hg => (hown.lt g hg).1
            have HLO := Lib.hid hlo
            have hk0 : (0 : Int) ≤ (k : Int) := by omega
            have hk1 : (k : Int) < (n : Int) := by omega
            clear hlo
            go_wp2_with fail
            go_region_law ((refine step_append_lies _ (by rfl) _ _ _ (by rfl) wr.heap.size 3 l0 _ 1 8 Try.underlying22 hlu hlz0 hlz1 hlz2 rfl (by omega) (.slice Ab j cb) j (cI bs) (by rfl) ((hown.alloc _).drew) ⟨wi.heap.size, 0, none⟩ 1 1 [.int .i64 (x / 2 ^ min (IntKind.u64.wrap (IntKind.i64.wrap (13 * (j : Int)))).toNat 64)] (by rfl) (by rfl) (World.news_of_block (cs := #[.int .i64 (x / 2 ^ min (IntKind.u64.wrap (IntKind.i64.wrap (13 * (j : Int)))).toNat 64)]) (t := 3) (fr := (0, 0)) (heap_alloc_new wi _)) (by simp [Value.oneCell']) (by omega) hs1 hs2 (by simp; omega) (wi.heap.size + 1) (by simp) ?_; intro gg cap w1 hown1 hgrow hat hlt; have hblk1 := blk5_step HBLK.out hgrow hag; have hc1 := hblk1.c4; have hf1 := hblk1.fr 4))
            all_goals
              have HX := Lib.hid (lrel_step hblk1 hown1 hqs HBL.out hgrow HLO.out HBSL.out HBSB.out (quo_bd _ _ HXI.out))
              clear hown1 hgrow hblk1 hc1 hf1
              go_wp2
              exact ⟨⟨j + 1, _, by omega, by go_num, HX.out⟩, by simp [intOf]; omega⟩
          · have e := HBSL.out
            subst e
            obtain ⟨Ab', cb', hvb, hvok⟩ := RowB.of_own (k := .i64) hown
            cases hvb
            have hbl9 : bs.length ≤ 4 := by omega
            have hrow2 := ownsRow_below' hrow HBL.out
            have hc0 := HBLK.out.c0
            have hc1 := HBLK.out.c1
            have hc2 := HBLK.out.c2
            have hc4 := HBLK.out.c3
            have HVOK := Lib.hid hvok
            clear hvok hown
            go_wp2_with (at_builtin; refine wpList_append_own _ rfl _ _ _ rfl w.heap.size 28 i0 _ 5 72 Try.underlying25 hi hz0 hz1 hz2 rfl (by omega) _ k cs rfl (hrow2.alloc _) ⟨wi.heap.size, 0, none⟩ 1 1 [_, _, _, _, _] rfl rfl (cells_five _ _ _ _ _ _ _ _ rfl) (by simp [Value.oneCell']) hr1 hr2 (by simp; omega) ?_; intro v1 w1 hown1 hg1 hnil1)
            have hal : Below wi.heap.size wi (wi.alloc (.cells #[.int .i64 5, .int .u64 0, .int .i64 0, .slice none 0 0, .slice Ab bs.length cb] 28)) := (Below.refl _ _).alloc (Nat.le_refl _) _
            have hv2 : VOk (wi.alloc (.cells #[.int .i64 5, .int .u64 0, .int .i64 0, .slice none 0 0, .slice Ab bs.length cb] 28)) (wi.alloc (.cells #[.int .i64 5, .int .u64 0, .int .i64 0, .slice none 0 0, .slice Ab bs.length cb] 28)).heap.size ⟨5, 0, 0, [], bs⟩ none 0 Ab cb := ⟨RowB.nil, (HVOK.out.below hal).more hal.size⟩
            obtain ⟨f1, f2⟩ := vals_end (v := ⟨5, 0, 0, [], bs⟩) hrow HD.out HV.out (HBL.out.trans (hal.mono (Nat.le_of_lt hqs))) hv2 hown1 hg1 HB.out hbase
            exact ⟨⟨k + 1, _, by omega, by omega, by go_num, f1, good_snoc HG.out (good5 _ HBSB.out hbl9), f2⟩, by simp [intOf]; omega⟩
    · have hend : k = n ∨ k = 8 := by omega
      obtain ⟨v1, c1, hv, hnc, hcm⟩ := own_shape hrow
      subst hv
      have HO := Lib.hid (show OwnV wr w.heap.size (.slice v1 k c1) k vs from ⟨cs, hrow, HD.out, HV.out⟩)
      clear hrow
      by_cases hlt : k < n
      · obtain rfl : k = 8 := by omega
        go_wp2_with fail
        go_ret
        exact ⟨_, _, vs, rfl, by omega, HO.out, HG.out, HB.out⟩
      · obtain rfl : k = n := by omega
        go_wp2_with fail
        go_ret
        exact ⟨_, _, vs, rfl, by omega, HO.out, HG.out, HB.out⟩
end Go.Proofs.Ytjnjglkmabnlfaa
