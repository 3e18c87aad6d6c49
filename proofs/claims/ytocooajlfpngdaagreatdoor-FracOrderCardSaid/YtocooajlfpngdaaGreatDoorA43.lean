/- A row of fractions that grows by append. · Layer 4's laws: the drawn regions of FracOrder. -/
import Derived.Deep.AppendLies
import Derived.Test.YtocooajlfpngdaaGreatDoorA42
namespace Go.Proofs.YtocooajlfpngdaaGreatDoor
open Go.RowKit
set_option linter.unusedVariables false

/-- no integer -/
def NI (v : Value) : Prop := ∀ k z, v ≠ .int k z
/-- the world goes on, but for a row of ours, from block B on, that holds no integers -/
def Off (B : Nat) (w w' : World) : Prop := ∃ row, w.grownBy w' row ∧ ∀ g, row = some g → B ≤ g ∧ ∃ cur t fr, w.heap[g]? = some (.cells cur t fr) ∧ ∀ v ∈ cur.toList, NI v
theorem Sl.offr {k : IntKind} {w w' : World} {B B0 n : Nat} {A : Option Addr} {zs : List Int} (h : Sl k w B0 A n zs) (ho : Off B w w') : Sl k w' B0 A n zs := by
  obtain ⟨row, hg, hr⟩ := ho
  refine ⟨h.1, ?_⟩
  rcases h.2 with h0 | ⟨b, off, rfl, hlt, hc⟩
  · exact .inl h0
  · refine .inr ⟨b, off, rfl, hlt, fun j hj => hg.cell (hc j hj) ?_⟩
    intro e
    obtain ⟨_, cur, t, fr, hh, hn⟩ := hr b e.symm
    have h1 := hc j hj
    rw [cell_of_row w b (off + j) cur t fr hh] at h1
    exact hn _ (by rw [Array.mem_toList_iff]; exact Array.mem_of_getElem? h1) _ _ rfl
theorem RepI.offr {w w' : World} {B B0 : Nat} {z : Int} {v : Value} (h : RepI w B0 z v) (ho : Off B w w') : RepI w' B0 z v := by
  obtain ⟨A, n, c, zs, h1, h2⟩ := h
  exact ⟨A, n, c, zs, h1, h2.1.offr ho, h2.2⟩
theorem RepN.offr {w w' : World} {B B0 : Nat} {z : Int} {v : Value} (h : RepN w B0 z v) (ho : Off B w w') : RepN w' B0 z v := by
  obtain ⟨A, n, c, zs, h1, h2, h3⟩ := h
  exact ⟨A, n, c, zs, h1, h2.offr ho, h3⟩
theorem Off.size {B : Nat} {w w' : World} (h : Off B w w') : w.heap.size ≤ w'.heap.size := by
  obtain ⟨_, hg, _⟩ := h
  exact hg.size
theorem RepF.offr {w w' : World} {B : Nat} {x : Rat} {v : Value} (h : RepF w w.heap.size x v) (ho : Off B w w') : RepF w' w'.heap.size x v := by
  obtain ⟨d, A, n, c, d', A', n', c', rfl, h1, q, h2, h3⟩ := h
  exact ⟨_, _, _, _, _, _, _, _, rfl, (h1.offr ho).more ho.size, q, (h2.offr ho).more ho.size, h3⟩
theorem RepG.offr {w w' : World} {B : Nat} {x : Rat} {v : Value} (h : RepG w w.heap.size x v) (ho : Off B w w') : RepG w' w'.heap.size x v := by
  obtain ⟨d, A, n, c, d', A', n', c', rfl, h1, h2⟩ := h
  exact ⟨_, _, _, _, _, _, _, _, rfl, (h1.offr ho).more ho.size, (h2.offr ho).more ho.size⟩
theorem Off.old {B : Nat} {w w' : World} (ho : Off B w w') {p : Addr} {v : Value} (h : w.cell? p = some v) (hp : p.block < B) : w'.cell? p = some v := by
  obtain ⟨row, hg, hr⟩ := ho
  refine hg.cell h ?_
  intro e
  have := (hr _ e.symm).1
  omega
theorem ArrG.offr {w w' : World} {B g : Nat} {L : List Rat} (h : ArrG w g L) (ho : Off B w w') (hg : g < B) : ArrG w' g L := ⟨Nat.lt_of_lt_of_le h.1 ho.size, fun i hi => by
  obtain ⟨d, A, n, c, d', A', n', c', h1⟩ := h.2 i hi
  exact ⟨d, A, n, c, d', A', n', c', Nat.lt_of_lt_of_le h.1 ho.size, ho.old h1.c0 hg, ho.old h1.c1 hg, ho.old h1.c2 hg, ho.old h1.c3 hg, h1.rep.offr ho⟩⟩
theorem below_offr {w0 w w' : World} {B : Nat} (h : Below w0.heap.size w0 w) (ho : Off B w w') (hB : w0.heap.size ≤ B) : Below w0.heap.size w0 w' := by
  obtain ⟨row, hg, hr⟩ := ho
  exact h.trans ⟨hg.os, hg.tape, hg.output, hg.size, fun k hk => hg.block k (Nat.lt_of_lt_of_le hk h.size) (fun e => by have := (hr k e.symm).1; omega)⟩
/-- element j of the cells cs is x -/
def El (cs : Array Value) (w : World) (j : Nat) (x : Rat) : Prop := ∃ d A n c d' A' n' c', cs[j * 4]? = some (.bool d) ∧ cs[j * 4 + 1]? = some (.slice A n c) ∧ cs[j * 4 + 2]? = some (.bool d') ∧ cs[j * 4 + 3]? = some (.slice A' n' c') ∧ RepF w w.heap.size x (.agg #[.bool d, .slice A n c, .bool d', .slice A' n' c'])
/-- v is a row of the fractions L, n so far, from block B on -/
def RowQ (w : World) (B n : Nat) (v : Value) (L : List Rat) : Prop := (n = 0 ∧ v = .slice none 0 0) ∨ ∃ g c cur, v = .slice (some ⟨g, 0, none⟩) n c ∧ B ≤ g ∧ w.heap[g]? = some (.cells cur 36 (0, 0)) ∧ cur.size = c * 4 ∧ 0 < n ∧ n ≤ c ∧ (∀ v ∈ cur.toList, NI v) ∧ ∀ j < n, El cur w j (L[j]?.getD 0)
theorem El.step {cs : Array Value} {w w' : World} {j : Nat} {x : Rat} (h : El cs w j x) (hb : Below w.heap.size w w') : El cs w' j x := by
  obtain ⟨d, A, n, c, d', A', n', c', h0, h1, h2, h3, h4⟩ := h
  exact ⟨d, A, n, c, d', A', n', c', h0, h1, h2, h3, h4.step hb⟩
theorem RowQ.below {w w' : World} {B n : Nat} {v : Value} {L : List Rat} (h : RowQ w B n v L) (hb : Below w.heap.size w w') : RowQ w' B n v L := by
  rcases h with h | ⟨g, c, cur, e, hB, hh, hs, h0, hn, hni, hel⟩
  · exact .inl h
  · exact .inr ⟨g, c, cur, e, hB, (hb.block g (Array.getElem?_eq_some_iff.1 hh).1).trans hh, hs, h0, hn, hni, fun j hj => (hel j hj).step hb⟩
/-- a row that is not empty -/
def RowQ1 (w : World) (B n g c : Nat) (L : List Rat) : Prop := B ≤ g ∧ n ≤ c ∧ ∃ cur, w.heap[g]? = some (.cells cur 36 (0, 0)) ∧ cur.size = c * 4 ∧ (∀ v ∈ cur.toList, NI v) ∧ ∀ j < n, El cur w j (L[j]?.getD 0)
theorem RowQ1.below {w w' : World} {B n g c : Nat} {L : List Rat} (h : RowQ1 w B n g c L) (hb : Below w.heap.size w w') : RowQ1 w' B n g c L := by
  obtain ⟨hB, hn, cur, hh, hs, hni, hel⟩ := h
  exact ⟨hB, hn, cur, (hb.block g (Array.getElem?_eq_some_iff.1 hh).1).trans hh, hs, hni, fun j hj => (hel j hj).step hb⟩
theorem RowQ.pos {w : World} {B n : Nat} {v : Value} {L : List Rat} (h : RowQ w B n v L) (h0 : 0 < n) : ∃ g c, v = .slice (some ⟨g, 0, none⟩) n c ∧ RowQ1 w B n g c L := by
  rcases h with ⟨h, _⟩ | ⟨g, c, cur, e, hB, hh, hs, _, hn, hni, hel⟩
  · omega
  · exact ⟨g, c, e, hB, hn, cur, hh, hs, hni, hel⟩
theorem RowQ1.row {w : World} {B n g c : Nat} {L : List Rat} (h : RowQ1 w B n g c L) (h0 : 0 < n) : RowQ w B n (.slice (some ⟨g, 0, none⟩) n c) L := by
  obtain ⟨hB, hn, cur, hh, hs, hni, hel⟩ := h
  exact .inr ⟨g, c, cur, rfl, hB, hh, hs, h0, hn, hni, hel⟩
theorem RowQ1.get {w : World} {B n g c : Nat} {L : List Rat} (h : RowQ1 w B n g c L) (j : Nat) (hj : j < n) : ∃ d A n c d' A' n' c', HoldEQ w g j (L[j]?.getD 0) d A n c d' A' n' c' := by
  obtain ⟨hB, hn, cur, hh, hs, hni, hel⟩ := h
  obtain ⟨d, A, n, c, d', A', n', c', h0, h1, h2, h3, h4⟩ := hel j hj
  exact ⟨d, A, n, c, d', A', n', c', (Array.getElem?_eq_some_iff.1 hh).1, (cell_of_row w g _ cur _ _ hh).trans h0, (cell_of_row w g _ cur _ _ hh).trans h1, (cell_of_row w g _ cur _ _ hh).trans h2, (cell_of_row w g _ cur _ _ hh).trans h3, h4⟩
theorem zeros_ni (k : Nat) : ∀ v ∈ (Builtin.zeroCells #[.bool false, .slice none 0 0, .bool false, .slice none 0 0] k).toList, NI v := by
  intro v hv
  unfold Builtin.zeroCells at hv
  simp only [Array.toList_map, List.mem_map] at hv
  obtain ⟨i, _, rfl⟩ := hv
  rcases (show i % 4 = 0 ∨ i % 4 = 1 ∨ i % 4 = 2 ∨ i % 4 = 3 by omega) with h | h | h | h <;> (intro k z; simp [h])
theorem q_info : (Tryz.prog.info? 36).map (fun i => (i.zero, i.size, i.bytes)) = some (some (.agg #[.bool false, .slice none 0 0, .bool false, .slice none 0 0]), 4, 64) := by kernel_rfl
theorem el_left {X Y : Array Value} {w : World} {j n : Nat} {x : Rat} (h : El X w j x) (hj : j < n) (hX : n * 4 ≤ X.size) : El (X ++ Y) w j x := by
  obtain ⟨d, A, m, c, d', A', m', c', h0, h1, h2, h3, h4⟩ := h
  refine ⟨d, A, m, c, d', A', m', c', ?_, ?_, ?_, ?_, h4⟩ <;> (rw [Array.getElem?_append_left (by omega)]; assumption)
theorem el_take {cur : Array Value} {w : World} {j n : Nat} {x : Rat} (h : El cur w j x) (hj : j < n) : El (cur.toList.take (n * 4)).toArray w j x := by
  obtain ⟨d, A, m, c, d', A', m', c', h0, h1, h2, h3, h4⟩ := h
  refine ⟨d, A, m, c, d', A', m', c', ?_, ?_, ?_, ?_, h4⟩ <;> (rw [List.getElem?_toArray, List.getElem?_take, if_pos (by omega), Array.getElem?_toList]; assumption)
theorem take_get {cur : Array Value} {k j : Nat} {u : Value} (hu : (if j < k then cur.toList[j]? else none) = some u) : cur[j]? = some u := by
  by_cases hj : j < k
  · rw [if_pos hj] at hu
    simpa using hu
  · rw [if_neg hj] at hu
    cases hu
section
variable {w : World} {d d' : Bool} {A A' : Option Addr} {m c m' c' : Nat} {y : Rat}
theorem el_last {X : Array Value} {n : Nat} (hX : X.size = n * 4) (hr : RepF w w.heap.size y (.agg #[.bool d, .slice A m c, .bool d', .slice A' m' c'])) : El (X ++ #[.bool d, .slice A m c, .bool d', .slice A' m' c']) w n y := by
  refine ⟨d, A, m, c, d', A', m', c', ?_, ?_, ?_, ?_, hr⟩
  · rw [Array.getElem?_append_right (by omega), show n * 4 - X.size = 0 by omega]; rfl
  · rw [Array.getElem?_append_right (by omega), show n * 4 + 1 - X.size = 1 by omega]; rfl
  · rw [Array.getElem?_append_right (by omega), show n * 4 + 2 - X.size = 2 by omega]; rfl
  · rw [Array.getElem?_append_right (by omega), show n * 4 + 3 - X.size = 3 by omega]; rfl
theorem news_ni : ∀ v ∈ ([.bool d, .slice A m c, .bool d', .slice A' m' c'] : List Value), NI v := by
  intro v hv k z
  simp only [List.mem_cons, List.not_mem_nil, or_false] at hv
  rcases hv with rfl | rfl | rfl | rfl <;> simp
/-- the row in a new block -/
theorem row_new {B n cap k : Nat} {L : List Rat} {X : Array Value} (hX : X.size = n * 4) (hni : ∀ v ∈ X.toList, NI v) (hel : ∀ j < n, El X w j (L[j]?.getD 0)) (hy : L[n]?.getD 0 = y) (hr : RepF w w.heap.size y (.agg #[.bool d, .slice A m c, .bool d', .slice A' m' c'])) (hB : B ≤ w.heap.size) (hcap : n + 1 ≤ cap) (hk : k = cap - (n + 1)) :
    RowQ (w.drew.alloc (.cells (X ++ #[.bool d, .slice A m c, .bool d', .slice A' m' c'] ++ Builtin.zeroCells #[.bool false, .slice none 0 0, .bool false, .slice none 0 0] k) 36)) B (n + 1) (.slice (some ⟨w.heap.size, 0, none⟩) (n + 1) cap) L ∧
    Off B w (w.drew.alloc (.cells (X ++ #[.bool d, .slice A m c, .bool d', .slice A' m' c'] ++ Builtin.zeroCells #[.bool false, .slice none 0 0, .bool false, .slice none 0 0] k) 36)) := by
  have hb : Below w.heap.size w (w.drew.alloc (.cells (X ++ #[.bool d, .slice A m c, .bool d', .slice A' m' c'] ++ Builtin.zeroCells #[.bool false, .slice none 0 0, .bool false, .slice none 0 0] k) 36)) := bal (below_drew (Below.refl _ _)) _
  refine ⟨.inr ⟨w.heap.size, cap, _, rfl, hB, World.alloc_heap_new w.drew _, ?_, by omega, hcap, ?_, ?_⟩, none, ⟨hb.os, hb.tape, hb.output, hb.size, fun i hi _ => hb.block i hi⟩, fun g e => by cases e⟩
  · rw [Array.size_append, Array.size_append, size_zeroCells, hX]
    simp
    omega
  · intro v hv
    rw [Array.toList_append, Array.toList_append] at hv
    rcases List.mem_append.1 hv with hv | hv
    · rcases List.mem_append.1 hv with hv | hv
      · exact hni v hv
      · exact news_ni v hv
    · exact zeros_ni k v hv
  · intro j hj
    refine El.step ?_ hb
    refine el_left (n := n + 1) ?_ hj (by rw [Array.size_append, hX]; simp; omega)
    rcases Nat.lt_or_ge j n with h | h
    · exact el_left (hel j h) h (by omega)
    · obtain rfl : j = n := by omega
      rw [hy]
      exact el_last hX hr
theorem app_run {B n : Nat} {v : Value} {L : List Rat} {p : Nat} (ty : TypeId) (h : RowQ w B n v L) (hn : n ≤ 100) (hy : L[n]?.getD 0 = y) (hp : w.heap[p]? = some (.cells #[.bool d, .slice A m c, .bool d', .slice A' m' c'] 36 (0, 0))) (hr : RepF w w.heap.size y (.agg #[.bool d, .slice A m c, .bool d', .slice A' m' c'])) (hB : B ≤ w.heap.size) :
    ∃ v' w', (Builtin.append_ #[65, 65] ty #[v, .slice (some ⟨p, 0, none⟩) 1 1]).run Tryz.prog w = .ok v' w' ∧ RowQ w' B (n + 1) v' L ∧ Off B w w' := by
  obtain ⟨i0, hi, hz0, hz1, hz2⟩ := info_parts q_info
  have hnews : ∀ (j : Nat) (u : Value), ([.bool d, .slice A m c, .bool d', .slice A' m' c'] : List Value)[j]? = some u → w.cell? ((⟨p, 0, none⟩ : Addr).add j) = some u := World.news_of_block hp
  rcases h with ⟨rfl, rfl⟩ | ⟨g, cp, cur, rfl, hBg, hh, hs, h0, hnc, hni, hel⟩
  · have hrun := run_append_nil (P := Tryz.prog) w 65 ty 36 i0 _ Tryz.underlying65 hi hz0 ⟨p, 0, none⟩ 1 1 ([.bool d, .slice A m c, .bool d', .slice A' m' c'] : List Value) (by rw [hz1]; rfl) hnews (by omega) (by omega) (by rw [hz2]; omega)
    have hN := row_new (w := w) (n := 0) (X := #[]) (L := L) (B := B) (cap := grownCap w 1 0 36) rfl (by simp) (fun j hj => absurd hj (Nat.not_lt_zero _)) hy hr hB (grownCap_ge w 1 0 _) rfl
    rw [Array.empty_append] at hN
    exact ⟨_, _, hrun, hN.1, hN.2⟩
  · by_cases hc : n + 1 ≤ cp
    · have hrun := run_append_room (P := Tryz.prog) w 65 ty 36 i0 Tryz.underlying65 hi g n cp cur hh ⟨p, 0, none⟩ 1 1 ([.bool d, .slice A m c, .bool d', .slice A' m' c'] : List Value) (by rw [hz1]; rfl) hnews (by intro u hu; simp at hu; rcases hu with rfl | rfl | rfl | rfl <;> rfl) hc (by rw [hz1, hs]; simp; omega)
      rw [hz1] at hrun
      have ho : Off B w (w.setRow g (cur.toList.take (n * 4) ++ ([.bool d, .slice A m c, .bool d', .slice A' m' c'] : List Value) ++ cur.toList.drop (n * 4 + ([.bool d, .slice A m c, .bool d', .slice A' m' c'] : List Value).length)).toArray) :=
        ⟨some g, ⟨rfl, rfl, rfl, by simp [World.setRow], fun k _ hk => setRow_other w g k _ (fun e => hk (by rw [e]))⟩, fun g' e => by cases e; exact ⟨hBg, cur, _, _, hh, hni⟩⟩
      refine ⟨_, _, hrun, .inr ⟨g, cp, _, rfl, hBg, setRow_heap w g cur _ _ _ hh, ?_, by omega, hc, ?_, ?_⟩, ho⟩
      · simp only [List.size_toArray, List.length_append, List.length_take, List.length_drop, Array.length_toList, hs, List.length_cons, List.length_nil]
        omega
      · intro u hu
        rcases List.mem_append.1 hu with hu | hu
        · rcases List.mem_append.1 hu with hu | hu
          · exact hni u (List.mem_of_mem_take hu)
          · exact news_ni u hu
        · exact hni u (List.mem_of_mem_drop hu)
      · intro j hj
        have hsz : (cur.toList.take (n * 4)).toArray.size = n * 4 := by simp [hs]; omega
        have key : El ((cur.toList.take (n * 4)).toArray ++ #[.bool d, .slice A m c, .bool d', .slice A' m' c'] ++ (cur.toList.drop (n * 4 + 4)).toArray) w j (L[j]?.getD 0) := by
          refine el_left (n := n + 1) ?_ hj (by rw [Array.size_append, hsz]; simp; omega)
          rcases Nat.lt_or_ge j n with h | h
          · exact el_left (el_take (hel j h) h) h (by omega)
          · obtain rfl : j = n := by omega
            rw [hy]
            exact el_last hsz hr
        obtain ⟨d1, A1, n1, c1, d2, A2, n2, c2, k0, k1, k2, k3, k4⟩ := key
        have hcs : ((cur.toList.take (n * 4)).toArray ++ #[.bool d, .slice A m c, .bool d', .slice A' m' c'] ++ (cur.toList.drop (n * 4 + 4)).toArray) = (cur.toList.take (n * 4) ++ ([.bool d, .slice A m c, .bool d', .slice A' m' c'] : List Value) ++ cur.toList.drop (n * 4 + ([.bool d, .slice A m c, .bool d', .slice A' m' c'] : List Value).length)).toArray := by
          simp
        rw [hcs] at k0 k1 k2 k3
        exact ⟨d1, A1, n1, c1, d2, A2, n2, c2, k0, k1, k2, k3, k4.offr ho⟩
    · have hge : n = cp := by omega
      have hrun := run_append_grow (P := Tryz.prog) w 65 ty 36 i0 _ Tryz.underlying65 hi hz0 ⟨g, 0, none⟩ n cp (cur.toList.take (n * 4)) (by rw [hz1]; simp [hs]; omega)
        (holds_add (fun j u hu => by rw [cell_of_row w g j cur _ _ hh]; rw [List.getElem?_take] at hu; exact take_get hu)) ⟨p, 0, none⟩ 1 1 ([.bool d, .slice A m c, .bool d', .slice A' m' c'] : List Value) (by rw [hz1]; rfl) hnews (by omega) (by omega) (growslice_fits (by omega) (by rw [hz2]; omega))
      have hsz : (cur.toList.take (n * 4)).toArray.size = n * 4 := by simp [hs]; omega
      have hN := row_new (w := w) (n := n) (X := (cur.toList.take (n * 4)).toArray) (L := L) (B := B) (cap := grownCap w (n + 1) cp 36) hsz (fun v hv => hni v (List.mem_of_mem_take hv)) (fun j hj => el_take (hel j hj) hj) hy hr hB (grownCap_ge w (n + 1) cp _) rfl
      exact ⟨_, _, hrun, hN.1, hN.2⟩
end
/-- for the walk -/
theorem wpList_app_q {w : World} {ops : Array Oper} {rest : List Oper} {o : Oper} {a : Act} {Q : Exit → Act → World → Prop} (hg : o.guard = none) (s x : Operand) (hop : o.op = Op.call { callee := Callee.builtin Builtin.append, args := #[s, x], argTypes := #[65, 65] })
    {B n : Nat} {v : Value} {L : List Rat} {p : Nat} {d d' : Bool} {A A' : Option Addr} {m c m' c' : Nat} {y : Rat} (hs : a.eval s = v) (hx : a.eval x = .slice (some ⟨p, 0, none⟩) 1 1) (h : RowQ w B n v L) (hn : n ≤ 100) (hy : L[n]?.getD 0 = y) (hp : w.heap[p]? = some (.cells #[.bool d, .slice A m c, .bool d', .slice A' m' c'] 36 (0, 0))) (hr : RepF w w.heap.size y (.agg #[.bool d, .slice A m c, .bool d', .slice A' m' c'])) (hB : B ≤ w.heap.size)
    (hK : ∀ g c w', RowQ1 w' B (n + 1) g c L → Off B w w' → wpList Tryz.prog ops Q rest (a.put o.dst (.slice (some ⟨g, 0, none⟩) (n + 1) c)) w') : wpList Tryz.prog ops Q (o :: rest) a w := by
  refine wpList_plain hg fun K hK' => ?_
  obtain ⟨v', w', hrun, r1, r2⟩ := app_run o.type h hn hy hp hr hB
  obtain ⟨g, c, rfl, r3⟩ := r1.pos (by omega)
  unfold Oper.wp
  simp [execOp, hop, resolve, invoke, builtin, hs, hx, hrun, Result.andThen]
  exact hK' _ _ (hK g c w' r3 r2)
end Go.Proofs.YtocooajlfpngdaaGreatDoor
namespace Go.Proofs.YtocooajlfpngdaaGreatDoor
open Go.RowKit
set_option linter.unusedVariables false

theorem cmp_wrap (a b : Rat) : IntKind.i64.wrap (-cmpF a b) = -cmpF a b := IntWalk.i64_in _ (by have := cmpF_rng a b; omega)
theorem cmp_mulw (a b c : Rat) : IntKind.i64.wrap (cmpF a b * sgnF c) = cmpF a b * sgnF c := by
  have h1 := cmpF_rng a b
  have h2 := sgnF_rng c
  rcases (show cmpF a b = -1 ∨ cmpF a b = 0 ∨ cmpF a b = 1 by omega) with h | h | h <;> rw [h] <;> exact IntWalk.i64_in _ (by omega)
theorem o_mul {ops : Array Oper} {Q : Exit → Act → World → Prop} {k : Nat} {K : Act → World → Prop} {a : Act} {w : World} {d : Tmp} {ty : TypeId} {pos : String} {af : Array Edge} {gd : Option (Nat × Bool)} {x y : Operand} {p q : Int} (ho : ops[k]? = some { dst := some d, op := .binOp .mul 3 x y 3, type := ty, pos := pos, after := af, guard := gd }) (hg : GdOk ops a gd)
    (hx : a.eval x = .int .i64 p) (hy : a.eval y = .int .i64 q) (hr : IntKind.i64.wrap (p * q) = p * q) (hK : K (a.put (some d) (.int .i64 (p * q))) w) : wpOp Tryz.prog ops Q k K a w := by
  refine op_wpg ho hg ?_
  unfold Oper.wp
  simp only [execOp, hx, hy]
  simp [go_sem, hr]
  exact hK
theorem ArrG.row3 {W : World} {z0 z1 z2 : Rat} {d0 e0 : Bool} {A0 E0 : Option Addr} {n0 c0 m0 f0 : Nat} {d1 e1 : Bool} {A1 E1 : Option Addr} {n1 c1 m1 f1 : Nat} {d2 e2 : Bool} {A2 E2 : Option Addr} {n2 c2 m2 f2 : Nat} (h0 : RepG W W.heap.size z0 (.agg #[.bool d0, .slice A0 n0 c0, .bool e0, .slice E0 m0 f0])) (h1 : RepG W W.heap.size z1 (.agg #[.bool d1, .slice A1 n1 c1, .bool e1, .slice E1 m1 f1])) (h2 : RepG W W.heap.size z2 (.agg #[.bool d2, .slice A2 n2 c2, .bool e2, .slice E2 m2 f2])) : ArrG (W.alloc (.cells #[.bool d0, .slice A0 n0 c0, .bool e0, .slice E0 m0 f0, .bool d1, .slice A1 n1 c1, .bool e1, .slice E1 m1 f1, .bool d2, .slice A2 n2 c2, .bool e2, .slice E2 m2 f2] 42)) W.heap.size [z0, z1, z2] := by
  refine ⟨by rw [World.size_alloc]; omega, fun i hi => ?_⟩
  have hb := al_below W (.cells #[.bool d0, .slice A0 n0 c0, .bool e0, .slice E0 m0 f0, .bool d1, .slice A1 n1 c1, .bool e1, .slice E1 m1 f1, .bool d2, .slice A2 n2 c2, .bool e2, .slice E2 m2 f2] 42)
  have hn : (W.alloc (.cells #[.bool d0, .slice A0 n0 c0, .bool e0, .slice E0 m0 f0, .bool d1, .slice A1 n1 c1, .bool e1, .slice E1 m1 f1, .bool d2, .slice A2 n2 c2, .bool e2, .slice E2 m2 f2] 42)).heap[W.heap.size]? = some (.cells #[.bool d0, .slice A0 n0 c0, .bool e0, .slice E0 m0 f0, .bool d1, .slice A1 n1 c1, .bool e1, .slice E1 m1 f1, .bool d2, .slice A2 n2 c2, .bool e2, .slice E2 m2 f2] 42 (0, 0)) := World.alloc_heap_new _ _
  have hi' : i < 3 := hi
  have : i = 0 ∨ i = 1 ∨ i = 2 := by omega
  rcases this with rfl | rfl | rfl
  · exact ⟨_, _, _, _, _, _, _, _, by rw [World.size_alloc]; omega, cell_at hn rfl, cell_at hn rfl, cell_at hn rfl, cell_at hn rfl, h0.step hb⟩
  · exact ⟨_, _, _, _, _, _, _, _, by rw [World.size_alloc]; omega, cell_at hn rfl, cell_at hn rfl, cell_at hn rfl, cell_at hn rfl, h1.step hb⟩
  · exact ⟨_, _, _, _, _, _, _, _, by rw [World.size_alloc]; omega, cell_at hn rfl, cell_at hn rfl, cell_at hn rfl, cell_at hn rfl, h2.step hb⟩
def or_r7_ops : Array Oper := #[
  { dst := some 44, op := .move (.tmp 4), type := 65, pos := "law.go:169", after := #[], guard := none },
  { dst := some 45, op := .move (.tmp 5), type := 3, pos := "law.go:169", after := #[], guard := none },
  { dst := some 46, op := .indexAddr 65 (.tmp 44) (.tmp 45), type := 0, pos := "law.go:169", after := #[⟨0, .data⟩, ⟨1, .data⟩], guard := none },
  { dst := some 47, op := .load 36 (.tmp 46), type := 36, pos := "law.go:169", after := #[⟨2, .data⟩], guard := none },
  { dst := some 48, op := .call { callee := .value (.func 42), args := #[.tmp 47], argTypes := #[36] }, type := 3, pos := "law.go:169", after := #[⟨3, .data⟩], guard := none },
  { dst := some 49, op := .move (.tmp 3), type := 53, pos := "law.go:169", after := #[], guard := none },
  { dst := some 50, op := .move (.tmp 5), type := 3, pos := "law.go:169", after := #[], guard := none },
  { dst := some 51, op := .indexAddr 53 (.tmp 49) (.tmp 50), type := 0, pos := "law.go:169", after := #[⟨5, .data⟩, ⟨6, .data⟩], guard := none },
  { dst := some 52, op := .load 42 (.tmp 51), type := 42, pos := "law.go:169", after := #[⟨7, .data⟩], guard := none },
  { dst := some 53, op := .call { callee := .value (.func 43), args := #[.tmp 52], argTypes := #[42] }, type := 3, pos := "law.go:169", after := #[⟨8, .data⟩, ⟨4, .chain⟩], guard := none },
  { dst := some 54, op := .binOp .neq 3 (.tmp 48) (.tmp 53) 3, type := 4, pos := "law.go:169", after := #[⟨4, .data⟩, ⟨9, .data⟩], guard := none }]
set_option maxRecDepth 100000 in
set_option maxHeartbeats 2000000 in
theorem or_r7 {Q : Exit → Act → World → Prop} {a0 : Act} {w0 : World} {i nx : Nat} {x : Rat} {p3 c3 : Nat} {p4 c4 : Nat} {dGi : Bool} {AGi : Option Addr} {nGi cGi : Nat} {eGi : Bool} {EGi : Option Addr} {mGi fGi : Nat} {dQi : Bool} {AQi : Option Addr} {nQi cQi : Nat} {eQi : Bool} {EQi : Option Addr} {mQi fQi : Nat} (hN : a0.tmps.size = 268) (t3 : a0.tmps[3]? = some (.slice (some ⟨p3, 0, none⟩) 3 c3)) (t4 : a0.tmps[4]? = some (.slice (some ⟨p4, 0, none⟩) nx c4)) (t5 : a0.tmps[5]? = some (.int .i64 (i : Int))) (hi : i < 3) (hx : i < nx) (Gi : HoldEG w0 p3 i x dGi AGi nGi cGi eGi EGi mGi fGi) (Qi : HoldEQ w0 p4 i x dQi AQi nQi cQi eQi EQi mQi fQi) (li : InF x)
    (hQ : ∀ (w : World) (v44 v45 v46 v47 v48 v49 v50 v51 v52 v53 v54 : Value) , Below w0.heap.size w0 w → (Is (.bool false)) v54 w → Q .normal ⟨([(44, v44), (45, v45), (46, v46), (47, v47), (48, v48), (49, v49), (50, v50), (51, v51), (52, v52), (53, v53), (54, v54)] : List (Nat × Value)).foldl (fun ts p => ts.setIfInBounds p.1 p.2) a0.tmps, a0.defers⟩ w) :
    (Code.region 7 or_r7_ops true).wp Tryz.prog Q a0 w0 := by
  refine wp_region_boxes4' (ty := 0) (cl := [.val 44 (Is (.slice (some ⟨p4, 0, none⟩) nx c4)), .val 45 (Is (.int .i64 i)), .val 46 (Is (.pointer (some ⟨p4, i * 4, none⟩))), .val 47 (IsQ (x)), .val 48 (Is (.int .i64 (sgnF (x)))), .val 49 (Is (.slice (some ⟨p3, 0, none⟩) 3 c3)), .val 50 (Is (.int .i64 i)), .val 51 (Is (.pointer (some ⟨p3, i * 4, none⟩))), .val 52 (IsG (x)), .val 53 (Is (.int .i64 (sgnF (x)))), .val 54 (Is (.bool false))]) 268 (by kernel_rfl) hN (by kernel_rfl) ?_ ?_ ?_
  · exact ⟨Is.stb4 _ _, Is.stb4 _ _, Is.stb4 _ _, IsQ.stb4 _ _, Is.stb4 _ _, Is.stb4 _ _, Is.stb4 _ _, Is.stb4 _ _, IsG.stb4 _ _, Is.stb4 _ _, Is.stb4 _ _, trivial⟩
  · refine ⟨?_, ?_, ?_, ?_, ?_, ?_, ?_, ?_, ?_, ?_, ?_, trivial⟩
    · intro l ac w h hd K hK
      exact o_move rfl GdOk.none (ev_t ((h.same 4 (not_dst (by kernel_rfl))).trans t4)) (hK _ _ rfl (Below.refl _ _))
    · intro l ac w h hd K hK
      exact o_move rfl GdOk.none (ev_t ((h.same 5 (not_dst (by kernel_rfl))).trans t5)) (hK _ _ rfl (Below.refl _ _))
    · intro l ac w h hd K hK
      obtain ⟨v0, hv0, rfl⟩ := h.fact 0 _ rfl (dep hd 0 (by kernel_rfl))
      obtain ⟨v1, hv1, rfl⟩ := h.fact 1 _ rfl (dep hd 1 (by kernel_rfl))
      exact o_indexQ (i := i) rfl GdOk.none (ev_t hv0) (ev_t hv1) hx (hK _ _ rfl (Below.refl _ _))
    · intro l ac w h hd K hK
      obtain ⟨v2, hv2, rfl⟩ := h.fact 2 _ rfl (dep hd 2 (by kernel_rfl))
      exact o_loadQ rfl GdOk.none (ev_t hv2) (Qi.below h.below).c0 (Qi.below h.below).c1 (Qi.below h.below).c2 (Qi.below h.below).c3 (hK _ _ (Qi.below h.below).rep (Below.refl _ _))
    · intro l ac w h hd K hK
      obtain ⟨v3, hv3, hF3⟩ := h.fact 3 _ rfl (dep hd 3 (by kernel_rfl))
      exact o_call1 rfl GdOk.none (ev_t hv3) (enters_of Tryz.func42 (by kernel_rfl) rfl) ((fsgn_in hF3 li).mono fun e w' ⟨he, h2⟩ => ⟨_, he, hK _ _ rfl h2⟩)
    · intro l ac w h hd K hK
      exact o_move rfl GdOk.none (ev_t ((h.same 3 (not_dst (by kernel_rfl))).trans t3)) (hK _ _ rfl (Below.refl _ _))
    · intro l ac w h hd K hK
      exact o_move rfl GdOk.none (ev_t ((h.same 5 (not_dst (by kernel_rfl))).trans t5)) (hK _ _ rfl (Below.refl _ _))
    · intro l ac w h hd K hK
      obtain ⟨v5, hv5, rfl⟩ := h.fact 5 _ rfl (dep hd 5 (by kernel_rfl))
      obtain ⟨v6, hv6, rfl⟩ := h.fact 6 _ rfl (dep hd 6 (by kernel_rfl))
      exact o_indexG (i := i) rfl GdOk.none (ev_t hv5) (ev_t hv6) hi (hK _ _ rfl (Below.refl _ _))
    · intro l ac w h hd K hK
      obtain ⟨v7, hv7, rfl⟩ := h.fact 7 _ rfl (dep hd 7 (by kernel_rfl))
      exact o_loadG rfl GdOk.none (ev_t hv7) (Gi.below h.below).c0 (Gi.below h.below).c1 (Gi.below h.below).c2 (Gi.below h.below).c3 (hK _ _ (Gi.below h.below).rep (Below.refl _ _))
    · intro l ac w h hd K hK
      obtain ⟨v8, hv8, hF8⟩ := h.fact 8 _ rfl (dep hd 8 (by kernel_rfl))
      exact o_call1 rfl GdOk.none (ev_t hv8) (enters_of Tryz.func43 (by kernel_rfl) rfl) ((gsgn_in hF8).mono fun e w' ⟨he, h2⟩ => ⟨_, he, hK _ _ rfl h2⟩)
    · intro l ac w h hd K hK
      obtain ⟨v4, hv4, rfl⟩ := h.fact 4 _ rfl (dep hd 4 (by kernel_rfl))
      obtain ⟨v9, hv9, rfl⟩ := h.fact 9 _ rfl (dep hd 9 (by kernel_rfl))
      exact o_neq rfl GdOk.none (ev_t hv4) (ev_t hv9) (by simp) (hK _ _ rfl (Below.refl _ _))
  · intro l ac w h hall
    obtain ⟨v44, q44, r44⟩ := h.fact 0 _ rfl (hall 0 (of_decide_eq_true (by kernel_rfl)))
    obtain ⟨v45, q45, r45⟩ := h.fact 1 _ rfl (hall 1 (of_decide_eq_true (by kernel_rfl)))
    obtain ⟨v46, q46, r46⟩ := h.fact 2 _ rfl (hall 2 (of_decide_eq_true (by kernel_rfl)))
    obtain ⟨v47, q47, r47⟩ := h.fact 3 _ rfl (hall 3 (of_decide_eq_true (by kernel_rfl)))
    obtain ⟨v48, q48, r48⟩ := h.fact 4 _ rfl (hall 4 (of_decide_eq_true (by kernel_rfl)))
    obtain ⟨v49, q49, r49⟩ := h.fact 5 _ rfl (hall 5 (of_decide_eq_true (by kernel_rfl)))
    obtain ⟨v50, q50, r50⟩ := h.fact 6 _ rfl (hall 6 (of_decide_eq_true (by kernel_rfl)))
    obtain ⟨v51, q51, r51⟩ := h.fact 7 _ rfl (hall 7 (of_decide_eq_true (by kernel_rfl)))
    obtain ⟨v52, q52, r52⟩ := h.fact 8 _ rfl (hall 8 (of_decide_eq_true (by kernel_rfl)))
    obtain ⟨v53, q53, r53⟩ := h.fact 9 _ rfl (hall 9 (of_decide_eq_true (by kernel_rfl)))
    obtain ⟨v54, q54, r54⟩ := h.fact 10 _ rfl (hall 10 (of_decide_eq_true (by kernel_rfl)))
    have ha := act_of [(44, v44), (45, v45), (46, v46), (47, v47), (48, v48), (49, v49), (50, v50), (51, v51), (52, v52), (53, v53), (54, v54)] h.defers h.size (List.forall_mem_cons.2 ⟨q44, List.forall_mem_cons.2 ⟨q45, List.forall_mem_cons.2 ⟨q46, List.forall_mem_cons.2 ⟨q47, List.forall_mem_cons.2 ⟨q48, List.forall_mem_cons.2 ⟨q49, List.forall_mem_cons.2 ⟨q50, List.forall_mem_cons.2 ⟨q51, List.forall_mem_cons.2 ⟨q52, List.forall_mem_cons.2 ⟨q53, List.forall_mem_cons.2 ⟨q54, fun _ h => by cases h⟩⟩⟩⟩⟩⟩⟩⟩⟩⟩⟩) (fun t ht => h.same t (fun hm => ht (in_dst (F := [44, 45, 46, 47, 48, 49, 50, 51, 52, 53, 54]) (by kernel_rfl) hm)))
    rw [ha]
    exact hQ w _ _ _ _ _ _ _ _ _ _ _ h.below   r54
def or_r15_ops : Array Oper := #[
  { dst := some 63, op := .move (.tmp 4), type := 65, pos := "law.go:175", after := #[], guard := none },
  { dst := some 64, op := .move (.tmp 6), type := 3, pos := "law.go:175", after := #[], guard := none },
  { dst := some 65, op := .indexAddr 65 (.tmp 63) (.tmp 64), type := 0, pos := "law.go:175", after := #[⟨0, .data⟩, ⟨1, .data⟩], guard := none },
  { dst := some 66, op := .load 36 (.tmp 65), type := 36, pos := "law.go:175", after := #[⟨2, .data⟩], guard := none },
  { dst := some 67, op := .move (.tmp 4), type := 65, pos := "law.go:175", after := #[], guard := none },
  { dst := some 68, op := .move (.tmp 7), type := 3, pos := "law.go:175", after := #[], guard := none },
  { dst := some 69, op := .indexAddr 65 (.tmp 67) (.tmp 68), type := 0, pos := "law.go:175", after := #[⟨4, .data⟩, ⟨5, .data⟩], guard := none },
  { dst := some 70, op := .load 36 (.tmp 69), type := 36, pos := "law.go:175", after := #[⟨6, .data⟩], guard := none },
  { dst := some 71, op := .call { callee := .value (.func 44), args := #[.tmp 66, .tmp 70], argTypes := #[36, 36] }, type := 3, pos := "law.go:175", after := #[⟨3, .data⟩, ⟨7, .data⟩], guard := none },
  { dst := some 8, op := .assign (.tmp 71), type := 3, pos := "law.go:175", after := #[⟨8, .data⟩, ⟨8, .chain⟩, ⟨0, .phase⟩, ⟨1, .phase⟩, ⟨2, .phase⟩, ⟨3, .phase⟩, ⟨4, .phase⟩, ⟨5, .phase⟩, ⟨6, .phase⟩, ⟨7, .phase⟩, ⟨8, .phase⟩], guard := none }]
set_option maxRecDepth 100000 in
set_option maxHeartbeats 2000000 in
theorem or_r15 {Q : Exit → Act → World → Prop} {a0 : Act} {w0 : World} {i k : Nat} {x y : Rat} {p4 c4 : Nat} {dQi : Bool} {AQi : Option Addr} {nQi cQi : Nat} {eQi : Bool} {EQi : Option Addr} {mQi fQi : Nat} {dQk : Bool} {AQk : Option Addr} {nQk cQk : Nat} {eQk : Bool} {EQk : Option Addr} {mQk fQk : Nat} (hN : a0.tmps.size = 268) (t4 : a0.tmps[4]? = some (.slice (some ⟨p4, 0, none⟩) 3 c4)) (t6 : a0.tmps[6]? = some (.int .i64 (i : Int))) (t7 : a0.tmps[7]? = some (.int .i64 (k : Int))) (hi : i < 3) (hk : k < 3) (Qi : HoldEQ w0 p4 i x dQi AQi nQi cQi eQi EQi mQi fQi) (Qk : HoldEQ w0 p4 k y dQk AQk nQk cQk eQk EQk mQk fQk) (li : InF x) (lk : InF y)
    (hQ : ∀ (w : World) (v63 v64 v65 v66 v67 v68 v69 v70 v71 v8 : Value) , Below w0.heap.size w0 w → (Is (.int .i64 (cmpF (x) (y)))) v8 w → Q .normal ⟨([(63, v63), (64, v64), (65, v65), (66, v66), (67, v67), (68, v68), (69, v69), (70, v70), (71, v71), (8, v8)] : List (Nat × Value)).foldl (fun ts p => ts.setIfInBounds p.1 p.2) a0.tmps, a0.defers⟩ w) :
    (Code.region 15 or_r15_ops true).wp Tryz.prog Q a0 w0 := by
  refine wp_region_boxes4' (ty := 0) (cl := [.val 63 (Is (.slice (some ⟨p4, 0, none⟩) 3 c4)), .val 64 (Is (.int .i64 i)), .val 65 (Is (.pointer (some ⟨p4, i * 4, none⟩))), .val 66 (IsQ (x)), .val 67 (Is (.slice (some ⟨p4, 0, none⟩) 3 c4)), .val 68 (Is (.int .i64 k)), .val 69 (Is (.pointer (some ⟨p4, k * 4, none⟩))), .val 70 (IsQ (y)), .val 71 (Is (.int .i64 (cmpF (x) (y)))), .val 8 (Is (.int .i64 (cmpF (x) (y))))]) 268 (by kernel_rfl) hN (by kernel_rfl) ?_ ?_ ?_
  · exact ⟨Is.stb4 _ _, Is.stb4 _ _, Is.stb4 _ _, IsQ.stb4 _ _, Is.stb4 _ _, Is.stb4 _ _, Is.stb4 _ _, IsQ.stb4 _ _, Is.stb4 _ _, Is.stb4 _ _, trivial⟩
  · refine ⟨?_, ?_, ?_, ?_, ?_, ?_, ?_, ?_, ?_, ?_, trivial⟩
    · intro l ac w h hd K hK
      exact o_move rfl GdOk.none (ev_t ((h.same 4 (not_dst (by kernel_rfl))).trans t4)) (hK _ _ rfl (Below.refl _ _))
    · intro l ac w h hd K hK
      exact o_move rfl GdOk.none (ev_t ((h.same 6 (not_dst (by kernel_rfl))).trans t6)) (hK _ _ rfl (Below.refl _ _))
    · intro l ac w h hd K hK
      obtain ⟨v0, hv0, rfl⟩ := h.fact 0 _ rfl (dep hd 0 (by kernel_rfl))
      obtain ⟨v1, hv1, rfl⟩ := h.fact 1 _ rfl (dep hd 1 (by kernel_rfl))
      exact o_indexQ (i := i) rfl GdOk.none (ev_t hv0) (ev_t hv1) hi (hK _ _ rfl (Below.refl _ _))
    · intro l ac w h hd K hK
      obtain ⟨v2, hv2, rfl⟩ := h.fact 2 _ rfl (dep hd 2 (by kernel_rfl))
      exact o_loadQ rfl GdOk.none (ev_t hv2) (Qi.below h.below).c0 (Qi.below h.below).c1 (Qi.below h.below).c2 (Qi.below h.below).c3 (hK _ _ (Qi.below h.below).rep (Below.refl _ _))
    · intro l ac w h hd K hK
      exact o_move rfl GdOk.none (ev_t ((h.same 4 (not_dst (by kernel_rfl))).trans t4)) (hK _ _ rfl (Below.refl _ _))
    · intro l ac w h hd K hK
      exact o_move rfl GdOk.none (ev_t ((h.same 7 (not_dst (by kernel_rfl))).trans t7)) (hK _ _ rfl (Below.refl _ _))
    · intro l ac w h hd K hK
      obtain ⟨v4, hv4, rfl⟩ := h.fact 4 _ rfl (dep hd 4 (by kernel_rfl))
      obtain ⟨v5, hv5, rfl⟩ := h.fact 5 _ rfl (dep hd 5 (by kernel_rfl))
      exact o_indexQ (i := k) rfl GdOk.none (ev_t hv4) (ev_t hv5) hk (hK _ _ rfl (Below.refl _ _))
    · intro l ac w h hd K hK
      obtain ⟨v6, hv6, rfl⟩ := h.fact 6 _ rfl (dep hd 6 (by kernel_rfl))
      exact o_loadQ rfl GdOk.none (ev_t hv6) (Qk.below h.below).c0 (Qk.below h.below).c1 (Qk.below h.below).c2 (Qk.below h.below).c3 (hK _ _ (Qk.below h.below).rep (Below.refl _ _))
    · intro l ac w h hd K hK
      obtain ⟨v3, hv3, hF3⟩ := h.fact 3 _ rfl (dep hd 3 (by kernel_rfl))
      obtain ⟨v7, hv7, hF7⟩ := h.fact 7 _ rfl (dep hd 7 (by kernel_rfl))
      exact o_call2 rfl GdOk.none (ev_t hv3) (ev_t hv7) (enters_of Tryz.func44 (by kernel_rfl) rfl) ((fcmp_in hF3 hF7 li lk).mono fun e w' ⟨he, h2⟩ => ⟨_, he, hK _ _ rfl h2⟩)
    · intro l ac w h hd K hK
      obtain ⟨v8, hv8, rfl⟩ := h.fact 8 _ rfl (dep hd 8 (by kernel_rfl))
      exact o_assign rfl GdOk.none (ev_t hv8) (hK _ _ rfl (Below.refl _ _))
  · intro l ac w h hall
    obtain ⟨v63, q63, r63⟩ := h.fact 0 _ rfl (hall 0 (of_decide_eq_true (by kernel_rfl)))
    obtain ⟨v64, q64, r64⟩ := h.fact 1 _ rfl (hall 1 (of_decide_eq_true (by kernel_rfl)))
    obtain ⟨v65, q65, r65⟩ := h.fact 2 _ rfl (hall 2 (of_decide_eq_true (by kernel_rfl)))
    obtain ⟨v66, q66, r66⟩ := h.fact 3 _ rfl (hall 3 (of_decide_eq_true (by kernel_rfl)))
    obtain ⟨v67, q67, r67⟩ := h.fact 4 _ rfl (hall 4 (of_decide_eq_true (by kernel_rfl)))
    obtain ⟨v68, q68, r68⟩ := h.fact 5 _ rfl (hall 5 (of_decide_eq_true (by kernel_rfl)))
    obtain ⟨v69, q69, r69⟩ := h.fact 6 _ rfl (hall 6 (of_decide_eq_true (by kernel_rfl)))
    obtain ⟨v70, q70, r70⟩ := h.fact 7 _ rfl (hall 7 (of_decide_eq_true (by kernel_rfl)))
    obtain ⟨v71, q71, r71⟩ := h.fact 8 _ rfl (hall 8 (of_decide_eq_true (by kernel_rfl)))
    obtain ⟨v8, q8, r8⟩ := h.fact 9 _ rfl (hall 9 (of_decide_eq_true (by kernel_rfl)))
    have ha := act_of [(63, v63), (64, v64), (65, v65), (66, v66), (67, v67), (68, v68), (69, v69), (70, v70), (71, v71), (8, v8)] h.defers h.size (List.forall_mem_cons.2 ⟨q63, List.forall_mem_cons.2 ⟨q64, List.forall_mem_cons.2 ⟨q65, List.forall_mem_cons.2 ⟨q66, List.forall_mem_cons.2 ⟨q67, List.forall_mem_cons.2 ⟨q68, List.forall_mem_cons.2 ⟨q69, List.forall_mem_cons.2 ⟨q70, List.forall_mem_cons.2 ⟨q71, List.forall_mem_cons.2 ⟨q8, fun _ h => by cases h⟩⟩⟩⟩⟩⟩⟩⟩⟩⟩) (fun t ht => h.same t (fun hm => ht (in_dst (F := [63, 64, 65, 66, 67, 68, 69, 70, 71, 8]) (by kernel_rfl) hm)))
    rw [ha]
    exact hQ w _ _ _ _ _ _ _ _ _ _ h.below   r8
def or_r16_ops : Array Oper := #[
  { dst := some 72, op := .move (.tmp 8), type := 3, pos := "law.go:176", after := #[], guard := none },
  { dst := some 73, op := .move (.tmp 3), type := 53, pos := "law.go:176", after := #[], guard := none },
  { dst := some 74, op := .move (.tmp 6), type := 3, pos := "law.go:176", after := #[], guard := none },
  { dst := some 75, op := .indexAddr 53 (.tmp 73) (.tmp 74), type := 0, pos := "law.go:176", after := #[⟨1, .data⟩, ⟨2, .data⟩], guard := none },
  { dst := some 76, op := .load 42 (.tmp 75), type := 42, pos := "law.go:176", after := #[⟨3, .data⟩], guard := none },
  { dst := some 77, op := .move (.tmp 3), type := 53, pos := "law.go:176", after := #[], guard := none },
  { dst := some 78, op := .move (.tmp 7), type := 3, pos := "law.go:176", after := #[], guard := none },
  { dst := some 79, op := .indexAddr 53 (.tmp 77) (.tmp 78), type := 0, pos := "law.go:176", after := #[⟨5, .data⟩, ⟨6, .data⟩], guard := none },
  { dst := some 80, op := .load 42 (.tmp 79), type := 42, pos := "law.go:176", after := #[⟨7, .data⟩], guard := none },
  { dst := some 81, op := .call { callee := .value (.func 45), args := #[.tmp 76, .tmp 80], argTypes := #[42, 42] }, type := 3, pos := "law.go:176", after := #[⟨4, .data⟩, ⟨8, .data⟩], guard := none },
  { dst := some 82, op := .binOp .neq 3 (.tmp 72) (.tmp 81) 3, type := 4, pos := "law.go:176", after := #[⟨0, .data⟩, ⟨9, .data⟩], guard := none },
  { dst := some 83, op := .move (.tmp 82), type := 4, pos := "law.go:176", after := #[⟨10, .data⟩, ⟨9, .chain⟩], guard := none },
  { dst := some 84, op := .move (.tmp 8), type := 3, pos := "law.go:176", after := #[⟨11, .guard⟩], guard := some (11, false) },
  { dst := some 85, op := .move (.tmp 4), type := 65, pos := "law.go:176", after := #[⟨11, .guard⟩], guard := some (11, false) },
  { dst := some 86, op := .move (.tmp 7), type := 3, pos := "law.go:176", after := #[⟨11, .guard⟩], guard := some (11, false) },
  { dst := some 87, op := .indexAddr 65 (.tmp 85) (.tmp 86), type := 0, pos := "law.go:176", after := #[⟨13, .data⟩, ⟨14, .data⟩, ⟨11, .guard⟩], guard := some (11, false) },
  { dst := some 88, op := .load 36 (.tmp 87), type := 36, pos := "law.go:176", after := #[⟨15, .data⟩, ⟨11, .guard⟩], guard := some (11, false) },
  { dst := some 89, op := .move (.tmp 4), type := 65, pos := "law.go:176", after := #[⟨11, .guard⟩], guard := some (11, false) },
  { dst := some 90, op := .move (.tmp 6), type := 3, pos := "law.go:176", after := #[⟨11, .guard⟩], guard := some (11, false) },
  { dst := some 91, op := .indexAddr 65 (.tmp 89) (.tmp 90), type := 0, pos := "law.go:176", after := #[⟨17, .data⟩, ⟨18, .data⟩, ⟨11, .guard⟩], guard := some (11, false) },
  { dst := some 92, op := .load 36 (.tmp 91), type := 36, pos := "law.go:176", after := #[⟨19, .data⟩, ⟨11, .guard⟩], guard := some (11, false) },
  { dst := some 93, op := .call { callee := .value (.func 44), args := #[.tmp 88, .tmp 92], argTypes := #[36, 36] }, type := 3, pos := "law.go:176", after := #[⟨16, .data⟩, ⟨20, .data⟩, ⟨11, .chain⟩, ⟨11, .guard⟩], guard := some (11, false) },
  { dst := some 94, op := .unOp .neg 3 (.tmp 93), type := 3, pos := "law.go:176", after := #[⟨21, .data⟩, ⟨11, .guard⟩], guard := some (11, false) },
  { dst := some 95, op := .binOp .neq 3 (.tmp 84) (.tmp 94) 3, type := 4, pos := "law.go:176", after := #[⟨12, .data⟩, ⟨22, .data⟩, ⟨11, .guard⟩], guard := some (11, false) },
  { dst := some 96, op := .pick (.tmp 83) (.const (.bool true)) (.tmp 95), type := 4, pos := "law.go:176", after := #[⟨11, .data⟩, ⟨23, .data⟩], guard := none },
  { dst := some 97, op := .move (.tmp 96), type := 4, pos := "law.go:176", after := #[⟨24, .data⟩, ⟨21, .chain⟩], guard := none },
  { dst := some 98, op := .move (.tmp 8), type := 3, pos := "law.go:176", after := #[⟨25, .guard⟩], guard := some (25, false) },
  { dst := some 99, op := .binOp .eql 3 (.tmp 98) (.const (.int .i64 0)) 3, type := 4, pos := "law.go:176", after := #[⟨26, .data⟩, ⟨25, .guard⟩], guard := some (25, false) },
  { dst := some 100, op := .move (.tmp 4), type := 65, pos := "law.go:176", after := #[⟨25, .guard⟩], guard := some (25, false) },
  { dst := some 101, op := .move (.tmp 6), type := 3, pos := "law.go:176", after := #[⟨25, .guard⟩], guard := some (25, false) },
  { dst := some 102, op := .indexAddr 65 (.tmp 100) (.tmp 101), type := 0, pos := "law.go:176", after := #[⟨28, .data⟩, ⟨29, .data⟩, ⟨25, .guard⟩], guard := some (25, false) },
  { dst := some 103, op := .load 36 (.tmp 102), type := 36, pos := "law.go:176", after := #[⟨30, .data⟩, ⟨25, .guard⟩], guard := some (25, false) },
  { dst := some 104, op := .move (.tmp 4), type := 65, pos := "law.go:176", after := #[⟨25, .guard⟩], guard := some (25, false) },
  { dst := some 105, op := .move (.tmp 7), type := 3, pos := "law.go:176", after := #[⟨25, .guard⟩], guard := some (25, false) },
  { dst := some 106, op := .indexAddr 65 (.tmp 104) (.tmp 105), type := 0, pos := "law.go:176", after := #[⟨32, .data⟩, ⟨33, .data⟩, ⟨25, .guard⟩], guard := some (25, false) },
  { dst := some 107, op := .load 36 (.tmp 106), type := 36, pos := "law.go:176", after := #[⟨34, .data⟩, ⟨25, .guard⟩], guard := some (25, false) },
  { dst := some 108, op := .call { callee := .value (.func 41), args := #[.tmp 103, .tmp 107], argTypes := #[36, 36] }, type := 4, pos := "law.go:176", after := #[⟨31, .data⟩, ⟨35, .data⟩, ⟨25, .chain⟩, ⟨25, .guard⟩], guard := some (25, false) },
  { dst := some 109, op := .binOp .neq 4 (.tmp 99) (.tmp 108) 4, type := 4, pos := "law.go:176", after := #[⟨27, .data⟩, ⟨36, .data⟩, ⟨25, .guard⟩], guard := some (25, false) },
  { dst := some 110, op := .pick (.tmp 97) (.const (.bool true)) (.tmp 109), type := 4, pos := "law.go:176", after := #[⟨25, .data⟩, ⟨37, .data⟩], guard := none }]
set_option maxRecDepth 100000 in
set_option maxHeartbeats 2000000 in
theorem or_r16 {Q : Exit → Act → World → Prop} {a0 : Act} {w0 : World} {i k : Nat} {x y : Rat} {p3 c3 : Nat} {p4 c4 : Nat} {dGi : Bool} {AGi : Option Addr} {nGi cGi : Nat} {eGi : Bool} {EGi : Option Addr} {mGi fGi : Nat} {dGk : Bool} {AGk : Option Addr} {nGk cGk : Nat} {eGk : Bool} {EGk : Option Addr} {mGk fGk : Nat} {dQi : Bool} {AQi : Option Addr} {nQi cQi : Nat} {eQi : Bool} {EQi : Option Addr} {mQi fQi : Nat} {dQk : Bool} {AQk : Option Addr} {nQk cQk : Nat} {eQk : Bool} {EQk : Option Addr} {mQk fQk : Nat} (hN : a0.tmps.size = 268) (t3 : a0.tmps[3]? = some (.slice (some ⟨p3, 0, none⟩) 3 c3)) (t4 : a0.tmps[4]? = some (.slice (some ⟨p4, 0, none⟩) 3 c4)) (t6 : a0.tmps[6]? = some (.int .i64 (i : Int))) (t7 : a0.tmps[7]? = some (.int .i64 (k : Int))) (t8 : a0.tmps[8]? = some (.int .i64 (cmpF x y))) (hi : i < 3) (hk : k < 3) (Gi : HoldEG w0 p3 i x dGi AGi nGi cGi eGi EGi mGi fGi) (Gk : HoldEG w0 p3 k y dGk AGk nGk cGk eGk EGk mGk fGk) (Qi : HoldEQ w0 p4 i x dQi AQi nQi cQi eQi EQi mQi fQi) (Qk : HoldEQ w0 p4 k y dQk AQk nQk cQk eQk EQk mQk fQk) (li : InF x) (lk : InF y)
    (hQ : ∀ (w : World) (v72 v73 v74 v75 v76 v77 v78 v79 v80 v81 v82 v83 v84 v85 v86 v87 v88 v89 v90 v91 v92 v93 v94 v95 v96 v97 v98 v99 v100 v101 v102 v103 v104 v105 v106 v107 v108 v109 v110 : Value) , Below w0.heap.size w0 w → (Is (.bool false)) v110 w → Q .normal ⟨([(72, v72), (73, v73), (74, v74), (75, v75), (76, v76), (77, v77), (78, v78), (79, v79), (80, v80), (81, v81), (82, v82), (83, v83), (84, v84), (85, v85), (86, v86), (87, v87), (88, v88), (89, v89), (90, v90), (91, v91), (92, v92), (93, v93), (94, v94), (95, v95), (96, v96), (97, v97), (98, v98), (99, v99), (100, v100), (101, v101), (102, v102), (103, v103), (104, v104), (105, v105), (106, v106), (107, v107), (108, v108), (109, v109), (110, v110)] : List (Nat × Value)).foldl (fun ts p => ts.setIfInBounds p.1 p.2) a0.tmps, a0.defers⟩ w) :
    (Code.region 16 or_r16_ops true).wp Tryz.prog Q a0 w0 := by
  refine wp_region_boxes4' (ty := 0) (cl := [.val 72 (Is (.int .i64 (cmpF x y))), .val 73 (Is (.slice (some ⟨p3, 0, none⟩) 3 c3)), .val 74 (Is (.int .i64 i)), .val 75 (Is (.pointer (some ⟨p3, i * 4, none⟩))), .val 76 (IsG (x)), .val 77 (Is (.slice (some ⟨p3, 0, none⟩) 3 c3)), .val 78 (Is (.int .i64 k)), .val 79 (Is (.pointer (some ⟨p3, k * 4, none⟩))), .val 80 (IsG (y)), .val 81 (Is (.int .i64 (cmpF (x) (y)))), .val 82 (Is (.bool false)), .val 83 (Is (.bool false)), .val 84 (Is (.int .i64 (cmpF x y))), .val 85 (Is (.slice (some ⟨p4, 0, none⟩) 3 c4)), .val 86 (Is (.int .i64 k)), .val 87 (Is (.pointer (some ⟨p4, k * 4, none⟩))), .val 88 (IsQ (y)), .val 89 (Is (.slice (some ⟨p4, 0, none⟩) 3 c4)), .val 90 (Is (.int .i64 i)), .val 91 (Is (.pointer (some ⟨p4, i * 4, none⟩))), .val 92 (IsQ (x)), .val 93 (Is (.int .i64 (cmpF (y) (x)))), .val 94 (Is (.int .i64 (-cmpF (y) (x)))), .val 95 (Is (.bool false)), .val 96 (Is (.bool false)), .val 97 (Is (.bool false)), .val 98 (Is (.int .i64 (cmpF x y))), .val 99 (Is (.bool (cmpF (x) (y) == 0))), .val 100 (Is (.slice (some ⟨p4, 0, none⟩) 3 c4)), .val 101 (Is (.int .i64 i)), .val 102 (Is (.pointer (some ⟨p4, i * 4, none⟩))), .val 103 (IsQ (x)), .val 104 (Is (.slice (some ⟨p4, 0, none⟩) 3 c4)), .val 105 (Is (.int .i64 k)), .val 106 (Is (.pointer (some ⟨p4, k * 4, none⟩))), .val 107 (IsQ (y)), .val 108 (Is (.bool (cmpF (x) (y) == 0))), .val 109 (Is (.bool false)), .val 110 (Is (.bool false))]) 268 (by kernel_rfl) hN (by kernel_rfl) ?_ ?_ ?_
  · exact ⟨Is.stb4 _ _, Is.stb4 _ _, Is.stb4 _ _, Is.stb4 _ _, IsG.stb4 _ _, Is.stb4 _ _, Is.stb4 _ _, Is.stb4 _ _, IsG.stb4 _ _, Is.stb4 _ _, Is.stb4 _ _, Is.stb4 _ _, Is.stb4 _ _, Is.stb4 _ _, Is.stb4 _ _, Is.stb4 _ _, IsQ.stb4 _ _, Is.stb4 _ _, Is.stb4 _ _, Is.stb4 _ _, IsQ.stb4 _ _, Is.stb4 _ _, Is.stb4 _ _, Is.stb4 _ _, Is.stb4 _ _, Is.stb4 _ _, Is.stb4 _ _, Is.stb4 _ _, Is.stb4 _ _, Is.stb4 _ _, Is.stb4 _ _, IsQ.stb4 _ _, Is.stb4 _ _, Is.stb4 _ _, Is.stb4 _ _, IsQ.stb4 _ _, Is.stb4 _ _, Is.stb4 _ _, Is.stb4 _ _, trivial⟩
  · refine ⟨?_, ?_, ?_, ?_, ?_, ?_, ?_, ?_, ?_, ?_, ?_, ?_, ?_, ?_, ?_, ?_, ?_, ?_, ?_, ?_, ?_, ?_, ?_, ?_, ?_, ?_, ?_, ?_, ?_, ?_, ?_, ?_, ?_, ?_, ?_, ?_, ?_, ?_, ?_, trivial⟩
    · intro l ac w h hd K hK
      exact o_move rfl GdOk.none (ev_t ((h.same 8 (not_dst (by kernel_rfl))).trans t8)) (hK _ _ rfl (Below.refl _ _))
    · intro l ac w h hd K hK
      exact o_move rfl GdOk.none (ev_t ((h.same 3 (not_dst (by kernel_rfl))).trans t3)) (hK _ _ rfl (Below.refl _ _))
    · intro l ac w h hd K hK
      exact o_move rfl GdOk.none (ev_t ((h.same 6 (not_dst (by kernel_rfl))).trans t6)) (hK _ _ rfl (Below.refl _ _))
    · intro l ac w h hd K hK
      obtain ⟨v1, hv1, rfl⟩ := h.fact 1 _ rfl (dep hd 1 (by kernel_rfl))
      obtain ⟨v2, hv2, rfl⟩ := h.fact 2 _ rfl (dep hd 2 (by kernel_rfl))
      exact o_indexG (i := i) rfl GdOk.none (ev_t hv1) (ev_t hv2) hi (hK _ _ rfl (Below.refl _ _))
    · intro l ac w h hd K hK
      obtain ⟨v3, hv3, rfl⟩ := h.fact 3 _ rfl (dep hd 3 (by kernel_rfl))
      exact o_loadG rfl GdOk.none (ev_t hv3) (Gi.below h.below).c0 (Gi.below h.below).c1 (Gi.below h.below).c2 (Gi.below h.below).c3 (hK _ _ (Gi.below h.below).rep (Below.refl _ _))
    · intro l ac w h hd K hK
      exact o_move rfl GdOk.none (ev_t ((h.same 3 (not_dst (by kernel_rfl))).trans t3)) (hK _ _ rfl (Below.refl _ _))
    · intro l ac w h hd K hK
      exact o_move rfl GdOk.none (ev_t ((h.same 7 (not_dst (by kernel_rfl))).trans t7)) (hK _ _ rfl (Below.refl _ _))
    · intro l ac w h hd K hK
      obtain ⟨v5, hv5, rfl⟩ := h.fact 5 _ rfl (dep hd 5 (by kernel_rfl))
      obtain ⟨v6, hv6, rfl⟩ := h.fact 6 _ rfl (dep hd 6 (by kernel_rfl))
      exact o_indexG (i := k) rfl GdOk.none (ev_t hv5) (ev_t hv6) hk (hK _ _ rfl (Below.refl _ _))
    · intro l ac w h hd K hK
      obtain ⟨v7, hv7, rfl⟩ := h.fact 7 _ rfl (dep hd 7 (by kernel_rfl))
      exact o_loadG rfl GdOk.none (ev_t hv7) (Gk.below h.below).c0 (Gk.below h.below).c1 (Gk.below h.below).c2 (Gk.below h.below).c3 (hK _ _ (Gk.below h.below).rep (Below.refl _ _))
    · intro l ac w h hd K hK
      obtain ⟨v4, hv4, hF4⟩ := h.fact 4 _ rfl (dep hd 4 (by kernel_rfl))
      obtain ⟨v8, hv8, hF8⟩ := h.fact 8 _ rfl (dep hd 8 (by kernel_rfl))
      exact o_call2 rfl GdOk.none (ev_t hv4) (ev_t hv8) (enters_of Tryz.func45 (by kernel_rfl) rfl) ((gcmp_in hF4 hF8 li lk).mono fun e w' ⟨he, h2⟩ => ⟨_, he, hK _ _ rfl h2⟩)
    · intro l ac w h hd K hK
      obtain ⟨v0, hv0, rfl⟩ := h.fact 0 _ rfl (dep hd 0 (by kernel_rfl))
      obtain ⟨v9, hv9, rfl⟩ := h.fact 9 _ rfl (dep hd 9 (by kernel_rfl))
      exact o_neq rfl GdOk.none (ev_t hv0) (ev_t hv9) (by simp) (hK _ _ rfl (Below.refl _ _))
    · intro l ac w h hd K hK
      obtain ⟨v10, hv10, rfl⟩ := h.fact 10 _ rfl (dep hd 10 (by kernel_rfl))
      exact o_move rfl GdOk.none (ev_t hv10) (hK _ _ rfl (Below.refl _ _))
    · intro l ac w h hd K hK
      obtain ⟨v11, hv11, rfl⟩ := h.fact 11 _ rfl (dep hd 11 (by kernel_rfl))
      exact o_move rfl (GdOk.of (d := 83) rfl rfl hv11) (ev_t ((h.same 8 (not_dst (by kernel_rfl))).trans t8)) (hK _ _ rfl (Below.refl _ _))
    · intro l ac w h hd K hK
      obtain ⟨v11, hv11, rfl⟩ := h.fact 11 _ rfl (dep hd 11 (by kernel_rfl))
      exact o_move rfl (GdOk.of (d := 83) rfl rfl hv11) (ev_t ((h.same 4 (not_dst (by kernel_rfl))).trans t4)) (hK _ _ rfl (Below.refl _ _))
    · intro l ac w h hd K hK
      obtain ⟨v11, hv11, rfl⟩ := h.fact 11 _ rfl (dep hd 11 (by kernel_rfl))
      exact o_move rfl (GdOk.of (d := 83) rfl rfl hv11) (ev_t ((h.same 7 (not_dst (by kernel_rfl))).trans t7)) (hK _ _ rfl (Below.refl _ _))
    · intro l ac w h hd K hK
      obtain ⟨v11, hv11, rfl⟩ := h.fact 11 _ rfl (dep hd 11 (by kernel_rfl))
      obtain ⟨v13, hv13, rfl⟩ := h.fact 13 _ rfl (dep hd 13 (by kernel_rfl))
      obtain ⟨v14, hv14, rfl⟩ := h.fact 14 _ rfl (dep hd 14 (by kernel_rfl))
      exact o_indexQ (i := k) rfl (GdOk.of (d := 83) rfl rfl hv11) (ev_t hv13) (ev_t hv14) hk (hK _ _ rfl (Below.refl _ _))
    · intro l ac w h hd K hK
      obtain ⟨v11, hv11, rfl⟩ := h.fact 11 _ rfl (dep hd 11 (by kernel_rfl))
      obtain ⟨v15, hv15, rfl⟩ := h.fact 15 _ rfl (dep hd 15 (by kernel_rfl))
      exact o_loadQ rfl (GdOk.of (d := 83) rfl rfl hv11) (ev_t hv15) (Qk.below h.below).c0 (Qk.below h.below).c1 (Qk.below h.below).c2 (Qk.below h.below).c3 (hK _ _ (Qk.below h.below).rep (Below.refl _ _))
    · intro l ac w h hd K hK
      obtain ⟨v11, hv11, rfl⟩ := h.fact 11 _ rfl (dep hd 11 (by kernel_rfl))
      exact o_move rfl (GdOk.of (d := 83) rfl rfl hv11) (ev_t ((h.same 4 (not_dst (by kernel_rfl))).trans t4)) (hK _ _ rfl (Below.refl _ _))
    · intro l ac w h hd K hK
      obtain ⟨v11, hv11, rfl⟩ := h.fact 11 _ rfl (dep hd 11 (by kernel_rfl))
      exact o_move rfl (GdOk.of (d := 83) rfl rfl hv11) (ev_t ((h.same 6 (not_dst (by kernel_rfl))).trans t6)) (hK _ _ rfl (Below.refl _ _))
    · intro l ac w h hd K hK
      obtain ⟨v11, hv11, rfl⟩ := h.fact 11 _ rfl (dep hd 11 (by kernel_rfl))
      obtain ⟨v17, hv17, rfl⟩ := h.fact 17 _ rfl (dep hd 17 (by kernel_rfl))
      obtain ⟨v18, hv18, rfl⟩ := h.fact 18 _ rfl (dep hd 18 (by kernel_rfl))
      exact o_indexQ (i := i) rfl (GdOk.of (d := 83) rfl rfl hv11) (ev_t hv17) (ev_t hv18) hi (hK _ _ rfl (Below.refl _ _))
    · intro l ac w h hd K hK
      obtain ⟨v11, hv11, rfl⟩ := h.fact 11 _ rfl (dep hd 11 (by kernel_rfl))
      obtain ⟨v19, hv19, rfl⟩ := h.fact 19 _ rfl (dep hd 19 (by kernel_rfl))
      exact o_loadQ rfl (GdOk.of (d := 83) rfl rfl hv11) (ev_t hv19) (Qi.below h.below).c0 (Qi.below h.below).c1 (Qi.below h.below).c2 (Qi.below h.below).c3 (hK _ _ (Qi.below h.below).rep (Below.refl _ _))
    · intro l ac w h hd K hK
      obtain ⟨v11, hv11, rfl⟩ := h.fact 11 _ rfl (dep hd 11 (by kernel_rfl))
      obtain ⟨v16, hv16, hF16⟩ := h.fact 16 _ rfl (dep hd 16 (by kernel_rfl))
      obtain ⟨v20, hv20, hF20⟩ := h.fact 20 _ rfl (dep hd 20 (by kernel_rfl))
      exact o_call2 rfl (GdOk.of (d := 83) rfl rfl hv11) (ev_t hv16) (ev_t hv20) (enters_of Tryz.func44 (by kernel_rfl) rfl) ((fcmp_in hF16 hF20 lk li).mono fun e w' ⟨he, h2⟩ => ⟨_, he, hK _ _ rfl h2⟩)
    · intro l ac w h hd K hK
      obtain ⟨v11, hv11, rfl⟩ := h.fact 11 _ rfl (dep hd 11 (by kernel_rfl))
      obtain ⟨v21, hv21, rfl⟩ := h.fact 21 _ rfl (dep hd 21 (by kernel_rfl))
      exact o_neg rfl (GdOk.of (d := 83) rfl rfl hv11) (ev_t hv21) (cmp_wrap _ _) (hK _ _ rfl (Below.refl _ _))
    · intro l ac w h hd K hK
      obtain ⟨v11, hv11, rfl⟩ := h.fact 11 _ rfl (dep hd 11 (by kernel_rfl))
      obtain ⟨v12, hv12, rfl⟩ := h.fact 12 _ rfl (dep hd 12 (by kernel_rfl))
      obtain ⟨v22, hv22, rfl⟩ := h.fact 22 _ rfl (dep hd 22 (by kernel_rfl))
      exact o_neq rfl (GdOk.of (d := 83) rfl rfl hv11) (ev_t hv12) (ev_t hv22) (by rw [cmpF_anti x y]; simp) (hK _ _ rfl (Below.refl _ _))
    · intro l ac w h hd K hK
      obtain ⟨v11, hv11, rfl⟩ := h.fact 11 _ rfl (dep hd 11 (by kernel_rfl))
      obtain ⟨v23, hv23, rfl⟩ := h.fact 23 _ rfl (dep hd 23 (by kernel_rfl))
      exact o_pickF rfl GdOk.none (ev_t hv11) (ev_t hv23) (hK _ _ rfl (Below.refl _ _))
    · intro l ac w h hd K hK
      obtain ⟨v24, hv24, rfl⟩ := h.fact 24 _ rfl (dep hd 24 (by kernel_rfl))
      exact o_move rfl GdOk.none (ev_t hv24) (hK _ _ rfl (Below.refl _ _))
    · intro l ac w h hd K hK
      obtain ⟨v25, hv25, rfl⟩ := h.fact 25 _ rfl (dep hd 25 (by kernel_rfl))
      exact o_move rfl (GdOk.of (d := 97) rfl rfl hv25) (ev_t ((h.same 8 (not_dst (by kernel_rfl))).trans t8)) (hK _ _ rfl (Below.refl _ _))
    · intro l ac w h hd K hK
      obtain ⟨v25, hv25, rfl⟩ := h.fact 25 _ rfl (dep hd 25 (by kernel_rfl))
      obtain ⟨v26, hv26, rfl⟩ := h.fact 26 _ rfl (dep hd 26 (by kernel_rfl))
      exact o_eql rfl (GdOk.of (d := 97) rfl rfl hv25) (ev_t hv26) rfl (rfl) (hK _ _ rfl (Below.refl _ _))
    · intro l ac w h hd K hK
      obtain ⟨v25, hv25, rfl⟩ := h.fact 25 _ rfl (dep hd 25 (by kernel_rfl))
      exact o_move rfl (GdOk.of (d := 97) rfl rfl hv25) (ev_t ((h.same 4 (not_dst (by kernel_rfl))).trans t4)) (hK _ _ rfl (Below.refl _ _))
    · intro l ac w h hd K hK
      obtain ⟨v25, hv25, rfl⟩ := h.fact 25 _ rfl (dep hd 25 (by kernel_rfl))
      exact o_move rfl (GdOk.of (d := 97) rfl rfl hv25) (ev_t ((h.same 6 (not_dst (by kernel_rfl))).trans t6)) (hK _ _ rfl (Below.refl _ _))
    · intro l ac w h hd K hK
      obtain ⟨v25, hv25, rfl⟩ := h.fact 25 _ rfl (dep hd 25 (by kernel_rfl))
      obtain ⟨v28, hv28, rfl⟩ := h.fact 28 _ rfl (dep hd 28 (by kernel_rfl))
      obtain ⟨v29, hv29, rfl⟩ := h.fact 29 _ rfl (dep hd 29 (by kernel_rfl))
      exact o_indexQ (i := i) rfl (GdOk.of (d := 97) rfl rfl hv25) (ev_t hv28) (ev_t hv29) hi (hK _ _ rfl (Below.refl _ _))
    · intro l ac w h hd K hK
      obtain ⟨v25, hv25, rfl⟩ := h.fact 25 _ rfl (dep hd 25 (by kernel_rfl))
      obtain ⟨v30, hv30, rfl⟩ := h.fact 30 _ rfl (dep hd 30 (by kernel_rfl))
      exact o_loadQ rfl (GdOk.of (d := 97) rfl rfl hv25) (ev_t hv30) (Qi.below h.below).c0 (Qi.below h.below).c1 (Qi.below h.below).c2 (Qi.below h.below).c3 (hK _ _ (Qi.below h.below).rep (Below.refl _ _))
    · intro l ac w h hd K hK
      obtain ⟨v25, hv25, rfl⟩ := h.fact 25 _ rfl (dep hd 25 (by kernel_rfl))
      exact o_move rfl (GdOk.of (d := 97) rfl rfl hv25) (ev_t ((h.same 4 (not_dst (by kernel_rfl))).trans t4)) (hK _ _ rfl (Below.refl _ _))
    · intro l ac w h hd K hK
      obtain ⟨v25, hv25, rfl⟩ := h.fact 25 _ rfl (dep hd 25 (by kernel_rfl))
      exact o_move rfl (GdOk.of (d := 97) rfl rfl hv25) (ev_t ((h.same 7 (not_dst (by kernel_rfl))).trans t7)) (hK _ _ rfl (Below.refl _ _))
    · intro l ac w h hd K hK
      obtain ⟨v25, hv25, rfl⟩ := h.fact 25 _ rfl (dep hd 25 (by kernel_rfl))
      obtain ⟨v32, hv32, rfl⟩ := h.fact 32 _ rfl (dep hd 32 (by kernel_rfl))
      obtain ⟨v33, hv33, rfl⟩ := h.fact 33 _ rfl (dep hd 33 (by kernel_rfl))
      exact o_indexQ (i := k) rfl (GdOk.of (d := 97) rfl rfl hv25) (ev_t hv32) (ev_t hv33) hk (hK _ _ rfl (Below.refl _ _))
    · intro l ac w h hd K hK
      obtain ⟨v25, hv25, rfl⟩ := h.fact 25 _ rfl (dep hd 25 (by kernel_rfl))
      obtain ⟨v34, hv34, rfl⟩ := h.fact 34 _ rfl (dep hd 34 (by kernel_rfl))
      exact o_loadQ rfl (GdOk.of (d := 97) rfl rfl hv25) (ev_t hv34) (Qk.below h.below).c0 (Qk.below h.below).c1 (Qk.below h.below).c2 (Qk.below h.below).c3 (hK _ _ (Qk.below h.below).rep (Below.refl _ _))
    · intro l ac w h hd K hK
      obtain ⟨v25, hv25, rfl⟩ := h.fact 25 _ rfl (dep hd 25 (by kernel_rfl))
      obtain ⟨v31, hv31, hF31⟩ := h.fact 31 _ rfl (dep hd 31 (by kernel_rfl))
      obtain ⟨v35, hv35, hF35⟩ := h.fact 35 _ rfl (dep hd 35 (by kernel_rfl))
      exact o_call2 rfl (GdOk.of (d := 97) rfl rfl hv25) (ev_t hv31) (ev_t hv35) (enters_of Tryz.func41 (by kernel_rfl) rfl) ((equal_cmp hF31 hF35 li lk).mono fun e w' ⟨he, h2⟩ => ⟨_, he, hK _ _ rfl h2⟩)
    · intro l ac w h hd K hK
      obtain ⟨v25, hv25, rfl⟩ := h.fact 25 _ rfl (dep hd 25 (by kernel_rfl))
      obtain ⟨v27, hv27, rfl⟩ := h.fact 27 _ rfl (dep hd 27 (by kernel_rfl))
      obtain ⟨v36, hv36, rfl⟩ := h.fact 36 _ rfl (dep hd 36 (by kernel_rfl))
      exact o_bneq rfl (GdOk.of (d := 97) rfl rfl hv25) (ev_t hv27) (ev_t hv36) (by simp) (hK _ _ rfl (Below.refl _ _))
    · intro l ac w h hd K hK
      obtain ⟨v25, hv25, rfl⟩ := h.fact 25 _ rfl (dep hd 25 (by kernel_rfl))
      obtain ⟨v37, hv37, rfl⟩ := h.fact 37 _ rfl (dep hd 37 (by kernel_rfl))
      exact o_pickF rfl GdOk.none (ev_t hv25) (ev_t hv37) (hK _ _ rfl (Below.refl _ _))
  · intro l ac w h hall
    obtain ⟨v72, q72, r72⟩ := h.fact 0 _ rfl (hall 0 (of_decide_eq_true (by kernel_rfl)))
    obtain ⟨v73, q73, r73⟩ := h.fact 1 _ rfl (hall 1 (of_decide_eq_true (by kernel_rfl)))
    obtain ⟨v74, q74, r74⟩ := h.fact 2 _ rfl (hall 2 (of_decide_eq_true (by kernel_rfl)))
    obtain ⟨v75, q75, r75⟩ := h.fact 3 _ rfl (hall 3 (of_decide_eq_true (by kernel_rfl)))
    obtain ⟨v76, q76, r76⟩ := h.fact 4 _ rfl (hall 4 (of_decide_eq_true (by kernel_rfl)))
    obtain ⟨v77, q77, r77⟩ := h.fact 5 _ rfl (hall 5 (of_decide_eq_true (by kernel_rfl)))
    obtain ⟨v78, q78, r78⟩ := h.fact 6 _ rfl (hall 6 (of_decide_eq_true (by kernel_rfl)))
    obtain ⟨v79, q79, r79⟩ := h.fact 7 _ rfl (hall 7 (of_decide_eq_true (by kernel_rfl)))
    obtain ⟨v80, q80, r80⟩ := h.fact 8 _ rfl (hall 8 (of_decide_eq_true (by kernel_rfl)))
    obtain ⟨v81, q81, r81⟩ := h.fact 9 _ rfl (hall 9 (of_decide_eq_true (by kernel_rfl)))
    obtain ⟨v82, q82, r82⟩ := h.fact 10 _ rfl (hall 10 (of_decide_eq_true (by kernel_rfl)))
    obtain ⟨v83, q83, r83⟩ := h.fact 11 _ rfl (hall 11 (of_decide_eq_true (by kernel_rfl)))
    obtain ⟨v84, q84, r84⟩ := h.fact 12 _ rfl (hall 12 (of_decide_eq_true (by kernel_rfl)))
    obtain ⟨v85, q85, r85⟩ := h.fact 13 _ rfl (hall 13 (of_decide_eq_true (by kernel_rfl)))
    obtain ⟨v86, q86, r86⟩ := h.fact 14 _ rfl (hall 14 (of_decide_eq_true (by kernel_rfl)))
    obtain ⟨v87, q87, r87⟩ := h.fact 15 _ rfl (hall 15 (of_decide_eq_true (by kernel_rfl)))
    obtain ⟨v88, q88, r88⟩ := h.fact 16 _ rfl (hall 16 (of_decide_eq_true (by kernel_rfl)))
    obtain ⟨v89, q89, r89⟩ := h.fact 17 _ rfl (hall 17 (of_decide_eq_true (by kernel_rfl)))
    obtain ⟨v90, q90, r90⟩ := h.fact 18 _ rfl (hall 18 (of_decide_eq_true (by kernel_rfl)))
    obtain ⟨v91, q91, r91⟩ := h.fact 19 _ rfl (hall 19 (of_decide_eq_true (by kernel_rfl)))
    obtain ⟨v92, q92, r92⟩ := h.fact 20 _ rfl (hall 20 (of_decide_eq_true (by kernel_rfl)))
    obtain ⟨v93, q93, r93⟩ := h.fact 21 _ rfl (hall 21 (of_decide_eq_true (by kernel_rfl)))
    obtain ⟨v94, q94, r94⟩ := h.fact 22 _ rfl (hall 22 (of_decide_eq_true (by kernel_rfl)))
    obtain ⟨v95, q95, r95⟩ := h.fact 23 _ rfl (hall 23 (of_decide_eq_true (by kernel_rfl)))
    obtain ⟨v96, q96, r96⟩ := h.fact 24 _ rfl (hall 24 (of_decide_eq_true (by kernel_rfl)))
    obtain ⟨v97, q97, r97⟩ := h.fact 25 _ rfl (hall 25 (of_decide_eq_true (by kernel_rfl)))
    obtain ⟨v98, q98, r98⟩ := h.fact 26 _ rfl (hall 26 (of_decide_eq_true (by kernel_rfl)))
    obtain ⟨v99, q99, r99⟩ := h.fact 27 _ rfl (hall 27 (of_decide_eq_true (by kernel_rfl)))
    obtain ⟨v100, q100, r100⟩ := h.fact 28 _ rfl (hall 28 (of_decide_eq_true (by kernel_rfl)))
    obtain ⟨v101, q101, r101⟩ := h.fact 29 _ rfl (hall 29 (of_decide_eq_true (by kernel_rfl)))
    obtain ⟨v102, q102, r102⟩ := h.fact 30 _ rfl (hall 30 (of_decide_eq_true (by kernel_rfl)))
    obtain ⟨v103, q103, r103⟩ := h.fact 31 _ rfl (hall 31 (of_decide_eq_true (by kernel_rfl)))
    obtain ⟨v104, q104, r104⟩ := h.fact 32 _ rfl (hall 32 (of_decide_eq_true (by kernel_rfl)))
    obtain ⟨v105, q105, r105⟩ := h.fact 33 _ rfl (hall 33 (of_decide_eq_true (by kernel_rfl)))
    obtain ⟨v106, q106, r106⟩ := h.fact 34 _ rfl (hall 34 (of_decide_eq_true (by kernel_rfl)))
    obtain ⟨v107, q107, r107⟩ := h.fact 35 _ rfl (hall 35 (of_decide_eq_true (by kernel_rfl)))
    obtain ⟨v108, q108, r108⟩ := h.fact 36 _ rfl (hall 36 (of_decide_eq_true (by kernel_rfl)))
    obtain ⟨v109, q109, r109⟩ := h.fact 37 _ rfl (hall 37 (of_decide_eq_true (by kernel_rfl)))
    obtain ⟨v110, q110, r110⟩ := h.fact 38 _ rfl (hall 38 (of_decide_eq_true (by kernel_rfl)))
    have ha := act_of [(72, v72), (73, v73), (74, v74), (75, v75), (76, v76), (77, v77), (78, v78), (79, v79), (80, v80), (81, v81), (82, v82), (83, v83), (84, v84), (85, v85), (86, v86), (87, v87), (88, v88), (89, v89), (90, v90), (91, v91), (92, v92), (93, v93), (94, v94), (95, v95), (96, v96), (97, v97), (98, v98), (99, v99), (100, v100), (101, v101), (102, v102), (103, v103), (104, v104), (105, v105), (106, v106), (107, v107), (108, v108), (109, v109), (110, v110)] h.defers h.size (List.forall_mem_cons.2 ⟨q72, List.forall_mem_cons.2 ⟨q73, List.forall_mem_cons.2 ⟨q74, List.forall_mem_cons.2 ⟨q75, List.forall_mem_cons.2 ⟨q76, List.forall_mem_cons.2 ⟨q77, List.forall_mem_cons.2 ⟨q78, List.forall_mem_cons.2 ⟨q79, List.forall_mem_cons.2 ⟨q80, List.forall_mem_cons.2 ⟨q81, List.forall_mem_cons.2 ⟨q82, List.forall_mem_cons.2 ⟨q83, List.forall_mem_cons.2 ⟨q84, List.forall_mem_cons.2 ⟨q85, List.forall_mem_cons.2 ⟨q86, List.forall_mem_cons.2 ⟨q87, List.forall_mem_cons.2 ⟨q88, List.forall_mem_cons.2 ⟨q89, List.forall_mem_cons.2 ⟨q90, List.forall_mem_cons.2 ⟨q91, List.forall_mem_cons.2 ⟨q92, List.forall_mem_cons.2 ⟨q93, List.forall_mem_cons.2 ⟨q94, List.forall_mem_cons.2 ⟨q95, List.forall_mem_cons.2 ⟨q96, List.forall_mem_cons.2 ⟨q97, List.forall_mem_cons.2 ⟨q98, List.forall_mem_cons.2 ⟨q99, List.forall_mem_cons.2 ⟨q100, List.forall_mem_cons.2 ⟨q101, List.forall_mem_cons.2 ⟨q102, List.forall_mem_cons.2 ⟨q103, List.forall_mem_cons.2 ⟨q104, List.forall_mem_cons.2 ⟨q105, List.forall_mem_cons.2 ⟨q106, List.forall_mem_cons.2 ⟨q107, List.forall_mem_cons.2 ⟨q108, List.forall_mem_cons.2 ⟨q109, List.forall_mem_cons.2 ⟨q110, fun _ h => by cases h⟩⟩⟩⟩⟩⟩⟩⟩⟩⟩⟩⟩⟩⟩⟩⟩⟩⟩⟩⟩⟩⟩⟩⟩⟩⟩⟩⟩⟩⟩⟩⟩⟩⟩⟩⟩⟩⟩⟩) (fun t ht => h.same t (fun hm => ht (in_dst (F := [72, 73, 74, 75, 76, 77, 78, 79, 80, 81, 82, 83, 84, 85, 86, 87, 88, 89, 90, 91, 92, 93, 94, 95, 96, 97, 98, 99, 100, 101, 102, 103, 104, 105, 106, 107, 108, 109, 110]) (by kernel_rfl) hm)))
    rw [ha]
    exact hQ w _ _ _ _ _ _ _ _ _ _ _ _ _ _ _ _ _ _ _ _ _ _ _ _ _ _ _ _ _ _ _ _ _ _ _ _ _ _ _ h.below   r110
def or_r18_ops : Array Oper := #[
  { dst := some 111, op := .move (.tmp 4), type := 65, pos := "law.go:181", after := #[], guard := none },
  { dst := some 112, op := .indexAddr 65 (.tmp 111) (.const (.int .i64 0)), type := 0, pos := "law.go:181", after := #[⟨0, .data⟩], guard := none },
  { dst := some 113, op := .load 36 (.tmp 112), type := 36, pos := "law.go:181", after := #[⟨1, .data⟩], guard := none },
  { dst := some 114, op := .move (.tmp 4), type := 65, pos := "law.go:181", after := #[], guard := none },
  { dst := some 115, op := .indexAddr 65 (.tmp 114) (.const (.int .i64 1)), type := 0, pos := "law.go:181", after := #[⟨3, .data⟩], guard := none },
  { dst := some 116, op := .load 36 (.tmp 115), type := 36, pos := "law.go:181", after := #[⟨4, .data⟩], guard := none },
  { dst := some 117, op := .call { callee := .value (.func 44), args := #[.tmp 113, .tmp 116], argTypes := #[36, 36] }, type := 3, pos := "law.go:181", after := #[⟨2, .data⟩, ⟨5, .data⟩], guard := none },
  { dst := some 9, op := .assign (.tmp 117), type := 3, pos := "law.go:181", after := #[⟨6, .data⟩, ⟨6, .chain⟩, ⟨0, .phase⟩, ⟨1, .phase⟩, ⟨2, .phase⟩, ⟨3, .phase⟩, ⟨4, .phase⟩, ⟨5, .phase⟩, ⟨6, .phase⟩], guard := none }]
set_option maxRecDepth 100000 in
set_option maxHeartbeats 2000000 in
theorem or_r18 {Q : Exit → Act → World → Prop} {a0 : Act} {w0 : World} {x0 : Rat} {x1 : Rat} {x2 : Rat} {p4 c4 : Nat} {dQ0 : Bool} {AQ0 : Option Addr} {nQ0 cQ0 : Nat} {eQ0 : Bool} {EQ0 : Option Addr} {mQ0 fQ0 : Nat} {dQ1 : Bool} {AQ1 : Option Addr} {nQ1 cQ1 : Nat} {eQ1 : Bool} {EQ1 : Option Addr} {mQ1 fQ1 : Nat}  (hN : a0.tmps.size = 268) (t4 : a0.tmps[4]? = some (.slice (some ⟨p4, 0, none⟩) 3 c4)) (Q0 : HoldEQ w0 p4 0 x0 dQ0 AQ0 nQ0 cQ0 eQ0 EQ0 mQ0 fQ0) (Q1 : HoldEQ w0 p4 1 x1 dQ1 AQ1 nQ1 cQ1 eQ1 EQ1 mQ1 fQ1) (l0 : InF x0) (l1 : InF x1) 
    (hQ : ∀ (w : World) (v111 v112 v113 v114 v115 v116 v117 v9 : Value) , Below w0.heap.size w0 w → (Is (.int .i64 (cmpF (x0) (x1)))) v9 w → Q .normal ⟨([(111, v111), (112, v112), (113, v113), (114, v114), (115, v115), (116, v116), (117, v117), (9, v9)] : List (Nat × Value)).foldl (fun ts p => ts.setIfInBounds p.1 p.2) a0.tmps, a0.defers⟩ w) :
    (Code.region 18 or_r18_ops true).wp Tryz.prog Q a0 w0 := by
  refine wp_region_boxes4' (ty := 0) (cl := [.val 111 (Is (.slice (some ⟨p4, 0, none⟩) 3 c4)), .val 112 (Is (.pointer (some ⟨p4, 0 * 4, none⟩))), .val 113 (IsQ (x0)), .val 114 (Is (.slice (some ⟨p4, 0, none⟩) 3 c4)), .val 115 (Is (.pointer (some ⟨p4, 1 * 4, none⟩))), .val 116 (IsQ (x1)), .val 117 (Is (.int .i64 (cmpF (x0) (x1)))), .val 9 (Is (.int .i64 (cmpF (x0) (x1))))]) 268 (by kernel_rfl) hN (by kernel_rfl) ?_ ?_ ?_
  · exact ⟨Is.stb4 _ _, Is.stb4 _ _, IsQ.stb4 _ _, Is.stb4 _ _, Is.stb4 _ _, IsQ.stb4 _ _, Is.stb4 _ _, Is.stb4 _ _, trivial⟩
  · refine ⟨?_, ?_, ?_, ?_, ?_, ?_, ?_, ?_, trivial⟩
    · intro l ac w h hd K hK
      exact o_move rfl GdOk.none (ev_t ((h.same 4 (not_dst (by kernel_rfl))).trans t4)) (hK _ _ rfl (Below.refl _ _))
    · intro l ac w h hd K hK
      obtain ⟨v0, hv0, rfl⟩ := h.fact 0 _ rfl (dep hd 0 (by kernel_rfl))
      exact o_indexQ (i := 0) rfl GdOk.none (ev_t hv0) rfl (by omega) (hK _ _ rfl (Below.refl _ _))
    · intro l ac w h hd K hK
      obtain ⟨v1, hv1, rfl⟩ := h.fact 1 _ rfl (dep hd 1 (by kernel_rfl))
      exact o_loadQ rfl GdOk.none (ev_t hv1) (Q0.below h.below).c0 (Q0.below h.below).c1 (Q0.below h.below).c2 (Q0.below h.below).c3 (hK _ _ (Q0.below h.below).rep (Below.refl _ _))
    · intro l ac w h hd K hK
      exact o_move rfl GdOk.none (ev_t ((h.same 4 (not_dst (by kernel_rfl))).trans t4)) (hK _ _ rfl (Below.refl _ _))
    · intro l ac w h hd K hK
      obtain ⟨v3, hv3, rfl⟩ := h.fact 3 _ rfl (dep hd 3 (by kernel_rfl))
      exact o_indexQ (i := 1) rfl GdOk.none (ev_t hv3) rfl (by omega) (hK _ _ rfl (Below.refl _ _))
    · intro l ac w h hd K hK
      obtain ⟨v4, hv4, rfl⟩ := h.fact 4 _ rfl (dep hd 4 (by kernel_rfl))
      exact o_loadQ rfl GdOk.none (ev_t hv4) (Q1.below h.below).c0 (Q1.below h.below).c1 (Q1.below h.below).c2 (Q1.below h.below).c3 (hK _ _ (Q1.below h.below).rep (Below.refl _ _))
    · intro l ac w h hd K hK
      obtain ⟨v2, hv2, hF2⟩ := h.fact 2 _ rfl (dep hd 2 (by kernel_rfl))
      obtain ⟨v5, hv5, hF5⟩ := h.fact 5 _ rfl (dep hd 5 (by kernel_rfl))
      exact o_call2 rfl GdOk.none (ev_t hv2) (ev_t hv5) (enters_of Tryz.func44 (by kernel_rfl) rfl) ((fcmp_in hF2 hF5 l0 l1).mono fun e w' ⟨he, h2⟩ => ⟨_, he, hK _ _ rfl h2⟩)
    · intro l ac w h hd K hK
      obtain ⟨v6, hv6, rfl⟩ := h.fact 6 _ rfl (dep hd 6 (by kernel_rfl))
      exact o_assign rfl GdOk.none (ev_t hv6) (hK _ _ rfl (Below.refl _ _))
  · intro l ac w h hall
    obtain ⟨v111, q111, r111⟩ := h.fact 0 _ rfl (hall 0 (of_decide_eq_true (by kernel_rfl)))
    obtain ⟨v112, q112, r112⟩ := h.fact 1 _ rfl (hall 1 (of_decide_eq_true (by kernel_rfl)))
    obtain ⟨v113, q113, r113⟩ := h.fact 2 _ rfl (hall 2 (of_decide_eq_true (by kernel_rfl)))
    obtain ⟨v114, q114, r114⟩ := h.fact 3 _ rfl (hall 3 (of_decide_eq_true (by kernel_rfl)))
    obtain ⟨v115, q115, r115⟩ := h.fact 4 _ rfl (hall 4 (of_decide_eq_true (by kernel_rfl)))
    obtain ⟨v116, q116, r116⟩ := h.fact 5 _ rfl (hall 5 (of_decide_eq_true (by kernel_rfl)))
    obtain ⟨v117, q117, r117⟩ := h.fact 6 _ rfl (hall 6 (of_decide_eq_true (by kernel_rfl)))
    obtain ⟨v9, q9, r9⟩ := h.fact 7 _ rfl (hall 7 (of_decide_eq_true (by kernel_rfl)))
    have ha := act_of [(111, v111), (112, v112), (113, v113), (114, v114), (115, v115), (116, v116), (117, v117), (9, v9)] h.defers h.size (List.forall_mem_cons.2 ⟨q111, List.forall_mem_cons.2 ⟨q112, List.forall_mem_cons.2 ⟨q113, List.forall_mem_cons.2 ⟨q114, List.forall_mem_cons.2 ⟨q115, List.forall_mem_cons.2 ⟨q116, List.forall_mem_cons.2 ⟨q117, List.forall_mem_cons.2 ⟨q9, fun _ h => by cases h⟩⟩⟩⟩⟩⟩⟩⟩) (fun t ht => h.same t (fun hm => ht (in_dst (F := [111, 112, 113, 114, 115, 116, 117, 9]) (by kernel_rfl) hm)))
    rw [ha]
    exact hQ w _ _ _ _ _ _ _ _ h.below   r9
def or_r19_ops : Array Oper := #[
  { dst := some 118, op := .move (.tmp 4), type := 65, pos := "law.go:182", after := #[], guard := none },
  { dst := some 119, op := .indexAddr 65 (.tmp 118) (.const (.int .i64 1)), type := 0, pos := "law.go:182", after := #[⟨0, .data⟩], guard := none },
  { dst := some 120, op := .load 36 (.tmp 119), type := 36, pos := "law.go:182", after := #[⟨1, .data⟩], guard := none },
  { dst := some 121, op := .move (.tmp 4), type := 65, pos := "law.go:182", after := #[], guard := none },
  { dst := some 122, op := .indexAddr 65 (.tmp 121) (.const (.int .i64 2)), type := 0, pos := "law.go:182", after := #[⟨3, .data⟩], guard := none },
  { dst := some 123, op := .load 36 (.tmp 122), type := 36, pos := "law.go:182", after := #[⟨4, .data⟩], guard := none },
  { dst := some 124, op := .call { callee := .value (.func 44), args := #[.tmp 120, .tmp 123], argTypes := #[36, 36] }, type := 3, pos := "law.go:182", after := #[⟨2, .data⟩, ⟨5, .data⟩], guard := none },
  { dst := some 10, op := .assign (.tmp 124), type := 3, pos := "law.go:182", after := #[⟨6, .data⟩, ⟨6, .chain⟩, ⟨0, .phase⟩, ⟨1, .phase⟩, ⟨2, .phase⟩, ⟨3, .phase⟩, ⟨4, .phase⟩, ⟨5, .phase⟩, ⟨6, .phase⟩], guard := none }]
set_option maxRecDepth 100000 in
set_option maxHeartbeats 2000000 in
theorem or_r19 {Q : Exit → Act → World → Prop} {a0 : Act} {w0 : World} {x0 : Rat} {x1 : Rat} {x2 : Rat} {p4 c4 : Nat} {dQ1 : Bool} {AQ1 : Option Addr} {nQ1 cQ1 : Nat} {eQ1 : Bool} {EQ1 : Option Addr} {mQ1 fQ1 : Nat} {dQ2 : Bool} {AQ2 : Option Addr} {nQ2 cQ2 : Nat} {eQ2 : Bool} {EQ2 : Option Addr} {mQ2 fQ2 : Nat}  (hN : a0.tmps.size = 268) (t4 : a0.tmps[4]? = some (.slice (some ⟨p4, 0, none⟩) 3 c4)) (Q1 : HoldEQ w0 p4 1 x1 dQ1 AQ1 nQ1 cQ1 eQ1 EQ1 mQ1 fQ1) (Q2 : HoldEQ w0 p4 2 x2 dQ2 AQ2 nQ2 cQ2 eQ2 EQ2 mQ2 fQ2) (l1 : InF x1) (l2 : InF x2) 
    (hQ : ∀ (w : World) (v118 v119 v120 v121 v122 v123 v124 v10 : Value) , Below w0.heap.size w0 w → (Is (.int .i64 (cmpF (x1) (x2)))) v10 w → Q .normal ⟨([(118, v118), (119, v119), (120, v120), (121, v121), (122, v122), (123, v123), (124, v124), (10, v10)] : List (Nat × Value)).foldl (fun ts p => ts.setIfInBounds p.1 p.2) a0.tmps, a0.defers⟩ w) :
    (Code.region 19 or_r19_ops true).wp Tryz.prog Q a0 w0 := by
  refine wp_region_boxes4' (ty := 0) (cl := [.val 118 (Is (.slice (some ⟨p4, 0, none⟩) 3 c4)), .val 119 (Is (.pointer (some ⟨p4, 1 * 4, none⟩))), .val 120 (IsQ (x1)), .val 121 (Is (.slice (some ⟨p4, 0, none⟩) 3 c4)), .val 122 (Is (.pointer (some ⟨p4, 2 * 4, none⟩))), .val 123 (IsQ (x2)), .val 124 (Is (.int .i64 (cmpF (x1) (x2)))), .val 10 (Is (.int .i64 (cmpF (x1) (x2))))]) 268 (by kernel_rfl) hN (by kernel_rfl) ?_ ?_ ?_
  · exact ⟨Is.stb4 _ _, Is.stb4 _ _, IsQ.stb4 _ _, Is.stb4 _ _, Is.stb4 _ _, IsQ.stb4 _ _, Is.stb4 _ _, Is.stb4 _ _, trivial⟩
  · refine ⟨?_, ?_, ?_, ?_, ?_, ?_, ?_, ?_, trivial⟩
    · intro l ac w h hd K hK
      exact o_move rfl GdOk.none (ev_t ((h.same 4 (not_dst (by kernel_rfl))).trans t4)) (hK _ _ rfl (Below.refl _ _))
    · intro l ac w h hd K hK
      obtain ⟨v0, hv0, rfl⟩ := h.fact 0 _ rfl (dep hd 0 (by kernel_rfl))
      exact o_indexQ (i := 1) rfl GdOk.none (ev_t hv0) rfl (by omega) (hK _ _ rfl (Below.refl _ _))
    · intro l ac w h hd K hK
      obtain ⟨v1, hv1, rfl⟩ := h.fact 1 _ rfl (dep hd 1 (by kernel_rfl))
      exact o_loadQ rfl GdOk.none (ev_t hv1) (Q1.below h.below).c0 (Q1.below h.below).c1 (Q1.below h.below).c2 (Q1.below h.below).c3 (hK _ _ (Q1.below h.below).rep (Below.refl _ _))
    · intro l ac w h hd K hK
      exact o_move rfl GdOk.none (ev_t ((h.same 4 (not_dst (by kernel_rfl))).trans t4)) (hK _ _ rfl (Below.refl _ _))
    · intro l ac w h hd K hK
      obtain ⟨v3, hv3, rfl⟩ := h.fact 3 _ rfl (dep hd 3 (by kernel_rfl))
      exact o_indexQ (i := 2) rfl GdOk.none (ev_t hv3) rfl (by omega) (hK _ _ rfl (Below.refl _ _))
    · intro l ac w h hd K hK
      obtain ⟨v4, hv4, rfl⟩ := h.fact 4 _ rfl (dep hd 4 (by kernel_rfl))
      exact o_loadQ rfl GdOk.none (ev_t hv4) (Q2.below h.below).c0 (Q2.below h.below).c1 (Q2.below h.below).c2 (Q2.below h.below).c3 (hK _ _ (Q2.below h.below).rep (Below.refl _ _))
    · intro l ac w h hd K hK
      obtain ⟨v2, hv2, hF2⟩ := h.fact 2 _ rfl (dep hd 2 (by kernel_rfl))
      obtain ⟨v5, hv5, hF5⟩ := h.fact 5 _ rfl (dep hd 5 (by kernel_rfl))
      exact o_call2 rfl GdOk.none (ev_t hv2) (ev_t hv5) (enters_of Tryz.func44 (by kernel_rfl) rfl) ((fcmp_in hF2 hF5 l1 l2).mono fun e w' ⟨he, h2⟩ => ⟨_, he, hK _ _ rfl h2⟩)
    · intro l ac w h hd K hK
      obtain ⟨v6, hv6, rfl⟩ := h.fact 6 _ rfl (dep hd 6 (by kernel_rfl))
      exact o_assign rfl GdOk.none (ev_t hv6) (hK _ _ rfl (Below.refl _ _))
  · intro l ac w h hall
    obtain ⟨v118, q118, r118⟩ := h.fact 0 _ rfl (hall 0 (of_decide_eq_true (by kernel_rfl)))
    obtain ⟨v119, q119, r119⟩ := h.fact 1 _ rfl (hall 1 (of_decide_eq_true (by kernel_rfl)))
    obtain ⟨v120, q120, r120⟩ := h.fact 2 _ rfl (hall 2 (of_decide_eq_true (by kernel_rfl)))
    obtain ⟨v121, q121, r121⟩ := h.fact 3 _ rfl (hall 3 (of_decide_eq_true (by kernel_rfl)))
    obtain ⟨v122, q122, r122⟩ := h.fact 4 _ rfl (hall 4 (of_decide_eq_true (by kernel_rfl)))
    obtain ⟨v123, q123, r123⟩ := h.fact 5 _ rfl (hall 5 (of_decide_eq_true (by kernel_rfl)))
    obtain ⟨v124, q124, r124⟩ := h.fact 6 _ rfl (hall 6 (of_decide_eq_true (by kernel_rfl)))
    obtain ⟨v10, q10, r10⟩ := h.fact 7 _ rfl (hall 7 (of_decide_eq_true (by kernel_rfl)))
    have ha := act_of [(118, v118), (119, v119), (120, v120), (121, v121), (122, v122), (123, v123), (124, v124), (10, v10)] h.defers h.size (List.forall_mem_cons.2 ⟨q118, List.forall_mem_cons.2 ⟨q119, List.forall_mem_cons.2 ⟨q120, List.forall_mem_cons.2 ⟨q121, List.forall_mem_cons.2 ⟨q122, List.forall_mem_cons.2 ⟨q123, List.forall_mem_cons.2 ⟨q124, List.forall_mem_cons.2 ⟨q10, fun _ h => by cases h⟩⟩⟩⟩⟩⟩⟩⟩) (fun t ht => h.same t (fun hm => ht (in_dst (F := [118, 119, 120, 121, 122, 123, 124, 10]) (by kernel_rfl) hm)))
    rw [ha]
    exact hQ w _ _ _ _ _ _ _ _ h.below   r10
def or_r20_0_ops : Array Oper := #[
  { dst := some 125, op := .move (.tmp 9), type := 3, pos := "law.go:183", after := #[], guard := none },
  { dst := some 126, op := .binOp .leq 3 (.tmp 125) (.const (.int .i64 0)) 3, type := 4, pos := "law.go:183", after := #[⟨0, .data⟩], guard := none },
  { dst := some 127, op := .move (.tmp 126), type := 4, pos := "law.go:183", after := #[⟨1, .data⟩], guard := none },
  { dst := some 128, op := .move (.tmp 10), type := 3, pos := "law.go:183", after := #[⟨2, .guard⟩], guard := some (2, true) },
  { dst := some 129, op := .binOp .leq 3 (.tmp 128) (.const (.int .i64 0)) 3, type := 4, pos := "law.go:183", after := #[⟨3, .data⟩, ⟨2, .guard⟩], guard := some (2, true) },
  { dst := some 130, op := .pick (.tmp 127) (.tmp 129) (.const (.bool false)), type := 4, pos := "law.go:183", after := #[⟨2, .data⟩, ⟨4, .data⟩], guard := none },
  { dst := some 131, op := .move (.tmp 130), type := 4, pos := "law.go:183", after := #[⟨5, .data⟩, ⟨2, .chain⟩], guard := none },
  { dst := some 132, op := .move (.tmp 4), type := 65, pos := "law.go:183", after := #[⟨6, .guard⟩], guard := some (6, true) },
  { dst := some 133, op := .indexAddr 65 (.tmp 132) (.const (.int .i64 0)), type := 0, pos := "law.go:183", after := #[⟨7, .data⟩, ⟨6, .guard⟩], guard := some (6, true) },
  { dst := some 134, op := .load 36 (.tmp 133), type := 36, pos := "law.go:183", after := #[⟨8, .data⟩, ⟨6, .guard⟩], guard := some (6, true) },
  { dst := some 135, op := .move (.tmp 4), type := 65, pos := "law.go:183", after := #[⟨6, .guard⟩], guard := some (6, true) },
  { dst := some 136, op := .indexAddr 65 (.tmp 135) (.const (.int .i64 2)), type := 0, pos := "law.go:183", after := #[⟨10, .data⟩, ⟨6, .guard⟩], guard := some (6, true) },
  { dst := some 137, op := .load 36 (.tmp 136), type := 36, pos := "law.go:183", after := #[⟨11, .data⟩, ⟨6, .guard⟩], guard := some (6, true) },
  { dst := some 138, op := .call { callee := .value (.func 44), args := #[.tmp 134, .tmp 137], argTypes := #[36, 36] }, type := 3, pos := "law.go:183", after := #[⟨9, .data⟩, ⟨12, .data⟩, ⟨6, .chain⟩, ⟨6, .guard⟩], guard := some (6, true) },
  { dst := some 139, op := .binOp .gtr 3 (.tmp 138) (.const (.int .i64 0)) 3, type := 4, pos := "law.go:183", after := #[⟨13, .data⟩, ⟨6, .guard⟩], guard := some (6, true) },
  { dst := some 140, op := .pick (.tmp 131) (.tmp 139) (.const (.bool false)), type := 4, pos := "law.go:183", after := #[⟨6, .data⟩, ⟨14, .data⟩], guard := none }]
set_option maxRecDepth 100000 in
set_option maxHeartbeats 2000000 in
theorem or_r20_0 {Q : Exit → Act → World → Prop} {a0 : Act} {w0 : World} {x0 : Rat} {x1 : Rat} {x2 : Rat} {p4 c4 : Nat} {dQ0 : Bool} {AQ0 : Option Addr} {nQ0 cQ0 : Nat} {eQ0 : Bool} {EQ0 : Option Addr} {mQ0 fQ0 : Nat} {dQ2 : Bool} {AQ2 : Option Addr} {nQ2 cQ2 : Nat} {eQ2 : Bool} {EQ2 : Option Addr} {mQ2 fQ2 : Nat}  (hN : a0.tmps.size = 268) (t4 : a0.tmps[4]? = some (.slice (some ⟨p4, 0, none⟩) 3 c4)) (Q0 : HoldEQ w0 p4 0 x0 dQ0 AQ0 nQ0 cQ0 eQ0 EQ0 mQ0 fQ0) (Q2 : HoldEQ w0 p4 2 x2 dQ2 AQ2 nQ2 cQ2 eQ2 EQ2 mQ2 fQ2) (l0 : InF x0) (l2 : InF x2) (t9 : a0.tmps[9]? = some (.int .i64 (cmpF x0 x1))) (t10 : a0.tmps[10]? = some (.int .i64 (cmpF x1 x2))) (h1 : ¬ cmpF x0 x1 ≤ 0)
    (hQ : ∀ (w : World) (v125 v126 v127 v128 v129 v130 v131 v132 v133 v134 v135 v136 v137 v138 v139 v140 : Value) , Below w0.heap.size w0 w → (Is (Value.bool false)) v140 w → Q .normal ⟨([(125, v125), (126, v126), (127, v127), (128, v128), (129, v129), (130, v130), (131, v131), (132, v132), (133, v133), (134, v134), (135, v135), (136, v136), (137, v137), (138, v138), (139, v139), (140, v140)] : List (Nat × Value)).foldl (fun ts p => ts.setIfInBounds p.1 p.2) a0.tmps, a0.defers⟩ w) :
    (Code.region 20 or_r20_0_ops true).wp Tryz.prog Q a0 w0 := by
  refine wp_region_boxes4' (ty := 0) (cl := [.val 125 (Is (.int .i64 (cmpF x0 x1))), .val 126 (Is (.bool false)), .val 127 (Is (.bool false)), .val 128 (Is (undef)), .val 129 (Is (undef)), .val 130 (Is (Value.bool false)), .val 131 (Is (Value.bool false)), .val 132 (Is (undef)), .val 133 (Is (undef)), .val 134 (Is (undef)), .val 135 (Is (undef)), .val 136 (Is (undef)), .val 137 (Is (undef)), .val 138 (Is (undef)), .val 139 (Is (undef)), .val 140 (Is (Value.bool false))]) 268 (by kernel_rfl) hN (by kernel_rfl) ?_ ?_ ?_
  · exact ⟨Is.stb4 _ _, Is.stb4 _ _, Is.stb4 _ _, Is.stb4 _ _, Is.stb4 _ _, Is.stb4 _ _, Is.stb4 _ _, Is.stb4 _ _, Is.stb4 _ _, Is.stb4 _ _, Is.stb4 _ _, Is.stb4 _ _, Is.stb4 _ _, Is.stb4 _ _, Is.stb4 _ _, Is.stb4 _ _, trivial⟩
  · refine ⟨?_, ?_, ?_, ?_, ?_, ?_, ?_, ?_, ?_, ?_, ?_, ?_, ?_, ?_, ?_, ?_, trivial⟩
    · intro l ac w h hd K hK
      exact o_move rfl GdOk.none (ev_t ((h.same 9 (not_dst (by kernel_rfl))).trans t9)) (hK _ _ rfl (Below.refl _ _))
    · intro l ac w h hd K hK
      obtain ⟨v0, hv0, rfl⟩ := h.fact 0 _ rfl (dep hd 0 (by kernel_rfl))
      exact o_leq rfl GdOk.none (ev_t hv0) rfl (decide_eq_false h1) (hK _ _ rfl (Below.refl _ _))
    · intro l ac w h hd K hK
      obtain ⟨v1, hv1, rfl⟩ := h.fact 1 _ rfl (dep hd 1 (by kernel_rfl))
      exact o_move rfl GdOk.none (ev_t hv1) (hK _ _ rfl (Below.refl _ _))
    · intro l ac w h hd K hK
      obtain ⟨v2, hv2, rfl⟩ := h.fact 2 _ rfl (dep hd 2 (by kernel_rfl))
      exact op_skip rfl rfl rfl rfl rfl hv2 (by intro h; cases h) (hK _ _ rfl (Below.refl _ _))
    · intro l ac w h hd K hK
      obtain ⟨v2, hv2, rfl⟩ := h.fact 2 _ rfl (dep hd 2 (by kernel_rfl))
      exact op_skip rfl rfl rfl rfl rfl hv2 (by intro h; cases h) (hK _ _ rfl (Below.refl _ _))
    · intro l ac w h hd K hK
      obtain ⟨v2, hv2, rfl⟩ := h.fact 2 _ rfl (dep hd 2 (by kernel_rfl))
      exact o_pickF rfl GdOk.none (ev_t hv2) rfl (hK _ _ rfl (Below.refl _ _))
    · intro l ac w h hd K hK
      obtain ⟨v5, hv5, rfl⟩ := h.fact 5 _ rfl (dep hd 5 (by kernel_rfl))
      exact o_move rfl GdOk.none (ev_t hv5) (hK _ _ rfl (Below.refl _ _))
    · intro l ac w h hd K hK
      obtain ⟨v6, hv6, rfl⟩ := h.fact 6 _ rfl (dep hd 6 (by kernel_rfl))
      exact op_skip rfl rfl rfl rfl rfl hv6 (by intro h; cases h) (hK _ _ rfl (Below.refl _ _))
    · intro l ac w h hd K hK
      obtain ⟨v6, hv6, rfl⟩ := h.fact 6 _ rfl (dep hd 6 (by kernel_rfl))
      exact op_skip rfl rfl rfl rfl rfl hv6 (by intro h; cases h) (hK _ _ rfl (Below.refl _ _))
    · intro l ac w h hd K hK
      obtain ⟨v6, hv6, rfl⟩ := h.fact 6 _ rfl (dep hd 6 (by kernel_rfl))
      exact op_skip rfl rfl rfl rfl rfl hv6 (by intro h; cases h) (hK _ _ rfl (Below.refl _ _))
    · intro l ac w h hd K hK
      obtain ⟨v6, hv6, rfl⟩ := h.fact 6 _ rfl (dep hd 6 (by kernel_rfl))
      exact op_skip rfl rfl rfl rfl rfl hv6 (by intro h; cases h) (hK _ _ rfl (Below.refl _ _))
    · intro l ac w h hd K hK
      obtain ⟨v6, hv6, rfl⟩ := h.fact 6 _ rfl (dep hd 6 (by kernel_rfl))
      exact op_skip rfl rfl rfl rfl rfl hv6 (by intro h; cases h) (hK _ _ rfl (Below.refl _ _))
    · intro l ac w h hd K hK
      obtain ⟨v6, hv6, rfl⟩ := h.fact 6 _ rfl (dep hd 6 (by kernel_rfl))
      exact op_skip rfl rfl rfl rfl rfl hv6 (by intro h; cases h) (hK _ _ rfl (Below.refl _ _))
    · intro l ac w h hd K hK
      obtain ⟨v6, hv6, rfl⟩ := h.fact 6 _ rfl (dep hd 6 (by kernel_rfl))
      exact op_skip rfl rfl rfl rfl rfl hv6 (by intro h; cases h) (hK _ _ rfl (Below.refl _ _))
    · intro l ac w h hd K hK
      obtain ⟨v6, hv6, rfl⟩ := h.fact 6 _ rfl (dep hd 6 (by kernel_rfl))
      exact op_skip rfl rfl rfl rfl rfl hv6 (by intro h; cases h) (hK _ _ rfl (Below.refl _ _))
    · intro l ac w h hd K hK
      obtain ⟨v6, hv6, rfl⟩ := h.fact 6 _ rfl (dep hd 6 (by kernel_rfl))
      exact o_pickF rfl GdOk.none (ev_t hv6) rfl (hK _ _ rfl (Below.refl _ _))
  · intro l ac w h hall
    obtain ⟨v125, q125, r125⟩ := h.fact 0 _ rfl (hall 0 (of_decide_eq_true (by kernel_rfl)))
    obtain ⟨v126, q126, r126⟩ := h.fact 1 _ rfl (hall 1 (of_decide_eq_true (by kernel_rfl)))
    obtain ⟨v127, q127, r127⟩ := h.fact 2 _ rfl (hall 2 (of_decide_eq_true (by kernel_rfl)))
    obtain ⟨v128, q128, r128⟩ := h.fact 3 _ rfl (hall 3 (of_decide_eq_true (by kernel_rfl)))
    obtain ⟨v129, q129, r129⟩ := h.fact 4 _ rfl (hall 4 (of_decide_eq_true (by kernel_rfl)))
    obtain ⟨v130, q130, r130⟩ := h.fact 5 _ rfl (hall 5 (of_decide_eq_true (by kernel_rfl)))
    obtain ⟨v131, q131, r131⟩ := h.fact 6 _ rfl (hall 6 (of_decide_eq_true (by kernel_rfl)))
    obtain ⟨v132, q132, r132⟩ := h.fact 7 _ rfl (hall 7 (of_decide_eq_true (by kernel_rfl)))
    obtain ⟨v133, q133, r133⟩ := h.fact 8 _ rfl (hall 8 (of_decide_eq_true (by kernel_rfl)))
    obtain ⟨v134, q134, r134⟩ := h.fact 9 _ rfl (hall 9 (of_decide_eq_true (by kernel_rfl)))
    obtain ⟨v135, q135, r135⟩ := h.fact 10 _ rfl (hall 10 (of_decide_eq_true (by kernel_rfl)))
    obtain ⟨v136, q136, r136⟩ := h.fact 11 _ rfl (hall 11 (of_decide_eq_true (by kernel_rfl)))
    obtain ⟨v137, q137, r137⟩ := h.fact 12 _ rfl (hall 12 (of_decide_eq_true (by kernel_rfl)))
    obtain ⟨v138, q138, r138⟩ := h.fact 13 _ rfl (hall 13 (of_decide_eq_true (by kernel_rfl)))
    obtain ⟨v139, q139, r139⟩ := h.fact 14 _ rfl (hall 14 (of_decide_eq_true (by kernel_rfl)))
    obtain ⟨v140, q140, r140⟩ := h.fact 15 _ rfl (hall 15 (of_decide_eq_true (by kernel_rfl)))
    have ha := act_of [(125, v125), (126, v126), (127, v127), (128, v128), (129, v129), (130, v130), (131, v131), (132, v132), (133, v133), (134, v134), (135, v135), (136, v136), (137, v137), (138, v138), (139, v139), (140, v140)] h.defers h.size (List.forall_mem_cons.2 ⟨q125, List.forall_mem_cons.2 ⟨q126, List.forall_mem_cons.2 ⟨q127, List.forall_mem_cons.2 ⟨q128, List.forall_mem_cons.2 ⟨q129, List.forall_mem_cons.2 ⟨q130, List.forall_mem_cons.2 ⟨q131, List.forall_mem_cons.2 ⟨q132, List.forall_mem_cons.2 ⟨q133, List.forall_mem_cons.2 ⟨q134, List.forall_mem_cons.2 ⟨q135, List.forall_mem_cons.2 ⟨q136, List.forall_mem_cons.2 ⟨q137, List.forall_mem_cons.2 ⟨q138, List.forall_mem_cons.2 ⟨q139, List.forall_mem_cons.2 ⟨q140, fun _ h => by cases h⟩⟩⟩⟩⟩⟩⟩⟩⟩⟩⟩⟩⟩⟩⟩⟩) (fun t ht => h.same t (fun hm => ht (in_dst (F := [125, 126, 127, 128, 129, 130, 131, 132, 133, 134, 135, 136, 137, 138, 139, 140]) (by kernel_rfl) hm)))
    rw [ha]
    exact hQ w _ _ _ _ _ _ _ _ _ _ _ _ _ _ _ _ h.below   r140
def or_r20_1_ops : Array Oper := #[
  { dst := some 125, op := .move (.tmp 9), type := 3, pos := "law.go:183", after := #[], guard := none },
  { dst := some 126, op := .binOp .leq 3 (.tmp 125) (.const (.int .i64 0)) 3, type := 4, pos := "law.go:183", after := #[⟨0, .data⟩], guard := none },
  { dst := some 127, op := .move (.tmp 126), type := 4, pos := "law.go:183", after := #[⟨1, .data⟩], guard := none },
  { dst := some 128, op := .move (.tmp 10), type := 3, pos := "law.go:183", after := #[⟨2, .guard⟩], guard := some (2, true) },
  { dst := some 129, op := .binOp .leq 3 (.tmp 128) (.const (.int .i64 0)) 3, type := 4, pos := "law.go:183", after := #[⟨3, .data⟩, ⟨2, .guard⟩], guard := some (2, true) },
  { dst := some 130, op := .pick (.tmp 127) (.tmp 129) (.const (.bool false)), type := 4, pos := "law.go:183", after := #[⟨2, .data⟩, ⟨4, .data⟩], guard := none },
  { dst := some 131, op := .move (.tmp 130), type := 4, pos := "law.go:183", after := #[⟨5, .data⟩, ⟨2, .chain⟩], guard := none },
  { dst := some 132, op := .move (.tmp 4), type := 65, pos := "law.go:183", after := #[⟨6, .guard⟩], guard := some (6, true) },
  { dst := some 133, op := .indexAddr 65 (.tmp 132) (.const (.int .i64 0)), type := 0, pos := "law.go:183", after := #[⟨7, .data⟩, ⟨6, .guard⟩], guard := some (6, true) },
  { dst := some 134, op := .load 36 (.tmp 133), type := 36, pos := "law.go:183", after := #[⟨8, .data⟩, ⟨6, .guard⟩], guard := some (6, true) },
  { dst := some 135, op := .move (.tmp 4), type := 65, pos := "law.go:183", after := #[⟨6, .guard⟩], guard := some (6, true) },
  { dst := some 136, op := .indexAddr 65 (.tmp 135) (.const (.int .i64 2)), type := 0, pos := "law.go:183", after := #[⟨10, .data⟩, ⟨6, .guard⟩], guard := some (6, true) },
  { dst := some 137, op := .load 36 (.tmp 136), type := 36, pos := "law.go:183", after := #[⟨11, .data⟩, ⟨6, .guard⟩], guard := some (6, true) },
  { dst := some 138, op := .call { callee := .value (.func 44), args := #[.tmp 134, .tmp 137], argTypes := #[36, 36] }, type := 3, pos := "law.go:183", after := #[⟨9, .data⟩, ⟨12, .data⟩, ⟨6, .chain⟩, ⟨6, .guard⟩], guard := some (6, true) },
  { dst := some 139, op := .binOp .gtr 3 (.tmp 138) (.const (.int .i64 0)) 3, type := 4, pos := "law.go:183", after := #[⟨13, .data⟩, ⟨6, .guard⟩], guard := some (6, true) },
  { dst := some 140, op := .pick (.tmp 131) (.tmp 139) (.const (.bool false)), type := 4, pos := "law.go:183", after := #[⟨6, .data⟩, ⟨14, .data⟩], guard := none }]
set_option maxRecDepth 100000 in
set_option maxHeartbeats 2000000 in
theorem or_r20_1 {Q : Exit → Act → World → Prop} {a0 : Act} {w0 : World} {x0 : Rat} {x1 : Rat} {x2 : Rat} {p4 c4 : Nat} {dQ0 : Bool} {AQ0 : Option Addr} {nQ0 cQ0 : Nat} {eQ0 : Bool} {EQ0 : Option Addr} {mQ0 fQ0 : Nat} {dQ2 : Bool} {AQ2 : Option Addr} {nQ2 cQ2 : Nat} {eQ2 : Bool} {EQ2 : Option Addr} {mQ2 fQ2 : Nat}  (hN : a0.tmps.size = 268) (t4 : a0.tmps[4]? = some (.slice (some ⟨p4, 0, none⟩) 3 c4)) (Q0 : HoldEQ w0 p4 0 x0 dQ0 AQ0 nQ0 cQ0 eQ0 EQ0 mQ0 fQ0) (Q2 : HoldEQ w0 p4 2 x2 dQ2 AQ2 nQ2 cQ2 eQ2 EQ2 mQ2 fQ2) (l0 : InF x0) (l2 : InF x2) (t9 : a0.tmps[9]? = some (.int .i64 (cmpF x0 x1))) (t10 : a0.tmps[10]? = some (.int .i64 (cmpF x1 x2))) (h1 : cmpF x0 x1 ≤ 0) (h2 : ¬ cmpF x1 x2 ≤ 0)
    (hQ : ∀ (w : World) (v125 v126 v127 v128 v129 v130 v131 v132 v133 v134 v135 v136 v137 v138 v139 v140 : Value) , Below w0.heap.size w0 w → (Is (Value.bool false)) v140 w → Q .normal ⟨([(125, v125), (126, v126), (127, v127), (128, v128), (129, v129), (130, v130), (131, v131), (132, v132), (133, v133), (134, v134), (135, v135), (136, v136), (137, v137), (138, v138), (139, v139), (140, v140)] : List (Nat × Value)).foldl (fun ts p => ts.setIfInBounds p.1 p.2) a0.tmps, a0.defers⟩ w) :
    (Code.region 20 or_r20_1_ops true).wp Tryz.prog Q a0 w0 := by
  refine wp_region_boxes4' (ty := 0) (cl := [.val 125 (Is (.int .i64 (cmpF x0 x1))), .val 126 (Is (.bool true)), .val 127 (Is (.bool true)), .val 128 (Is (.int .i64 (cmpF x1 x2))), .val 129 (Is (.bool false)), .val 130 (Is (.bool false)), .val 131 (Is (.bool false)), .val 132 (Is (undef)), .val 133 (Is (undef)), .val 134 (Is (undef)), .val 135 (Is (undef)), .val 136 (Is (undef)), .val 137 (Is (undef)), .val 138 (Is (undef)), .val 139 (Is (undef)), .val 140 (Is (Value.bool false))]) 268 (by kernel_rfl) hN (by kernel_rfl) ?_ ?_ ?_
  · exact ⟨Is.stb4 _ _, Is.stb4 _ _, Is.stb4 _ _, Is.stb4 _ _, Is.stb4 _ _, Is.stb4 _ _, Is.stb4 _ _, Is.stb4 _ _, Is.stb4 _ _, Is.stb4 _ _, Is.stb4 _ _, Is.stb4 _ _, Is.stb4 _ _, Is.stb4 _ _, Is.stb4 _ _, Is.stb4 _ _, trivial⟩
  · refine ⟨?_, ?_, ?_, ?_, ?_, ?_, ?_, ?_, ?_, ?_, ?_, ?_, ?_, ?_, ?_, ?_, trivial⟩
    · intro l ac w h hd K hK
      exact o_move rfl GdOk.none (ev_t ((h.same 9 (not_dst (by kernel_rfl))).trans t9)) (hK _ _ rfl (Below.refl _ _))
    · intro l ac w h hd K hK
      obtain ⟨v0, hv0, rfl⟩ := h.fact 0 _ rfl (dep hd 0 (by kernel_rfl))
      exact o_leq rfl GdOk.none (ev_t hv0) rfl (decide_eq_true h1) (hK _ _ rfl (Below.refl _ _))
    · intro l ac w h hd K hK
      obtain ⟨v1, hv1, rfl⟩ := h.fact 1 _ rfl (dep hd 1 (by kernel_rfl))
      exact o_move rfl GdOk.none (ev_t hv1) (hK _ _ rfl (Below.refl _ _))
    · intro l ac w h hd K hK
      obtain ⟨v2, hv2, rfl⟩ := h.fact 2 _ rfl (dep hd 2 (by kernel_rfl))
      exact o_move rfl (GdOk.of (d := 127) rfl rfl hv2) (ev_t ((h.same 10 (not_dst (by kernel_rfl))).trans t10)) (hK _ _ rfl (Below.refl _ _))
    · intro l ac w h hd K hK
      obtain ⟨v2, hv2, rfl⟩ := h.fact 2 _ rfl (dep hd 2 (by kernel_rfl))
      obtain ⟨v3, hv3, rfl⟩ := h.fact 3 _ rfl (dep hd 3 (by kernel_rfl))
      exact o_leq rfl (GdOk.of (d := 127) rfl rfl hv2) (ev_t hv3) rfl (decide_eq_false h2) (hK _ _ rfl (Below.refl _ _))
    · intro l ac w h hd K hK
      obtain ⟨v2, hv2, rfl⟩ := h.fact 2 _ rfl (dep hd 2 (by kernel_rfl))
      obtain ⟨v4, hv4, rfl⟩ := h.fact 4 _ rfl (dep hd 4 (by kernel_rfl))
      exact o_pickT rfl GdOk.none (ev_t hv2) (ev_t hv4) (hK _ _ rfl (Below.refl _ _))
    · intro l ac w h hd K hK
      obtain ⟨v5, hv5, rfl⟩ := h.fact 5 _ rfl (dep hd 5 (by kernel_rfl))
      exact o_move rfl GdOk.none (ev_t hv5) (hK _ _ rfl (Below.refl _ _))
    · intro l ac w h hd K hK
      obtain ⟨v6, hv6, rfl⟩ := h.fact 6 _ rfl (dep hd 6 (by kernel_rfl))
      exact op_skip rfl rfl rfl rfl rfl hv6 (by intro h; cases h) (hK _ _ rfl (Below.refl _ _))
    · intro l ac w h hd K hK
      obtain ⟨v6, hv6, rfl⟩ := h.fact 6 _ rfl (dep hd 6 (by kernel_rfl))
      exact op_skip rfl rfl rfl rfl rfl hv6 (by intro h; cases h) (hK _ _ rfl (Below.refl _ _))
    · intro l ac w h hd K hK
      obtain ⟨v6, hv6, rfl⟩ := h.fact 6 _ rfl (dep hd 6 (by kernel_rfl))
      exact op_skip rfl rfl rfl rfl rfl hv6 (by intro h; cases h) (hK _ _ rfl (Below.refl _ _))
    · intro l ac w h hd K hK
      obtain ⟨v6, hv6, rfl⟩ := h.fact 6 _ rfl (dep hd 6 (by kernel_rfl))
      exact op_skip rfl rfl rfl rfl rfl hv6 (by intro h; cases h) (hK _ _ rfl (Below.refl _ _))
    · intro l ac w h hd K hK
      obtain ⟨v6, hv6, rfl⟩ := h.fact 6 _ rfl (dep hd 6 (by kernel_rfl))
      exact op_skip rfl rfl rfl rfl rfl hv6 (by intro h; cases h) (hK _ _ rfl (Below.refl _ _))
    · intro l ac w h hd K hK
      obtain ⟨v6, hv6, rfl⟩ := h.fact 6 _ rfl (dep hd 6 (by kernel_rfl))
      exact op_skip rfl rfl rfl rfl rfl hv6 (by intro h; cases h) (hK _ _ rfl (Below.refl _ _))
    · intro l ac w h hd K hK
      obtain ⟨v6, hv6, rfl⟩ := h.fact 6 _ rfl (dep hd 6 (by kernel_rfl))
      exact op_skip rfl rfl rfl rfl rfl hv6 (by intro h; cases h) (hK _ _ rfl (Below.refl _ _))
    · intro l ac w h hd K hK
      obtain ⟨v6, hv6, rfl⟩ := h.fact 6 _ rfl (dep hd 6 (by kernel_rfl))
      exact op_skip rfl rfl rfl rfl rfl hv6 (by intro h; cases h) (hK _ _ rfl (Below.refl _ _))
    · intro l ac w h hd K hK
      obtain ⟨v6, hv6, rfl⟩ := h.fact 6 _ rfl (dep hd 6 (by kernel_rfl))
      exact o_pickF rfl GdOk.none (ev_t hv6) rfl (hK _ _ rfl (Below.refl _ _))
  · intro l ac w h hall
    obtain ⟨v125, q125, r125⟩ := h.fact 0 _ rfl (hall 0 (of_decide_eq_true (by kernel_rfl)))
    obtain ⟨v126, q126, r126⟩ := h.fact 1 _ rfl (hall 1 (of_decide_eq_true (by kernel_rfl)))
    obtain ⟨v127, q127, r127⟩ := h.fact 2 _ rfl (hall 2 (of_decide_eq_true (by kernel_rfl)))
    obtain ⟨v128, q128, r128⟩ := h.fact 3 _ rfl (hall 3 (of_decide_eq_true (by kernel_rfl)))
    obtain ⟨v129, q129, r129⟩ := h.fact 4 _ rfl (hall 4 (of_decide_eq_true (by kernel_rfl)))
    obtain ⟨v130, q130, r130⟩ := h.fact 5 _ rfl (hall 5 (of_decide_eq_true (by kernel_rfl)))
    obtain ⟨v131, q131, r131⟩ := h.fact 6 _ rfl (hall 6 (of_decide_eq_true (by kernel_rfl)))
    obtain ⟨v132, q132, r132⟩ := h.fact 7 _ rfl (hall 7 (of_decide_eq_true (by kernel_rfl)))
    obtain ⟨v133, q133, r133⟩ := h.fact 8 _ rfl (hall 8 (of_decide_eq_true (by kernel_rfl)))
    obtain ⟨v134, q134, r134⟩ := h.fact 9 _ rfl (hall 9 (of_decide_eq_true (by kernel_rfl)))
    obtain ⟨v135, q135, r135⟩ := h.fact 10 _ rfl (hall 10 (of_decide_eq_true (by kernel_rfl)))
    obtain ⟨v136, q136, r136⟩ := h.fact 11 _ rfl (hall 11 (of_decide_eq_true (by kernel_rfl)))
    obtain ⟨v137, q137, r137⟩ := h.fact 12 _ rfl (hall 12 (of_decide_eq_true (by kernel_rfl)))
    obtain ⟨v138, q138, r138⟩ := h.fact 13 _ rfl (hall 13 (of_decide_eq_true (by kernel_rfl)))
    obtain ⟨v139, q139, r139⟩ := h.fact 14 _ rfl (hall 14 (of_decide_eq_true (by kernel_rfl)))
    obtain ⟨v140, q140, r140⟩ := h.fact 15 _ rfl (hall 15 (of_decide_eq_true (by kernel_rfl)))
    have ha := act_of [(125, v125), (126, v126), (127, v127), (128, v128), (129, v129), (130, v130), (131, v131), (132, v132), (133, v133), (134, v134), (135, v135), (136, v136), (137, v137), (138, v138), (139, v139), (140, v140)] h.defers h.size (List.forall_mem_cons.2 ⟨q125, List.forall_mem_cons.2 ⟨q126, List.forall_mem_cons.2 ⟨q127, List.forall_mem_cons.2 ⟨q128, List.forall_mem_cons.2 ⟨q129, List.forall_mem_cons.2 ⟨q130, List.forall_mem_cons.2 ⟨q131, List.forall_mem_cons.2 ⟨q132, List.forall_mem_cons.2 ⟨q133, List.forall_mem_cons.2 ⟨q134, List.forall_mem_cons.2 ⟨q135, List.forall_mem_cons.2 ⟨q136, List.forall_mem_cons.2 ⟨q137, List.forall_mem_cons.2 ⟨q138, List.forall_mem_cons.2 ⟨q139, List.forall_mem_cons.2 ⟨q140, fun _ h => by cases h⟩⟩⟩⟩⟩⟩⟩⟩⟩⟩⟩⟩⟩⟩⟩⟩) (fun t ht => h.same t (fun hm => ht (in_dst (F := [125, 126, 127, 128, 129, 130, 131, 132, 133, 134, 135, 136, 137, 138, 139, 140]) (by kernel_rfl) hm)))
    rw [ha]
    exact hQ w _ _ _ _ _ _ _ _ _ _ _ _ _ _ _ _ h.below   r140
def or_r20_2_ops : Array Oper := #[
  { dst := some 125, op := .move (.tmp 9), type := 3, pos := "law.go:183", after := #[], guard := none },
  { dst := some 126, op := .binOp .leq 3 (.tmp 125) (.const (.int .i64 0)) 3, type := 4, pos := "law.go:183", after := #[⟨0, .data⟩], guard := none },
  { dst := some 127, op := .move (.tmp 126), type := 4, pos := "law.go:183", after := #[⟨1, .data⟩], guard := none },
  { dst := some 128, op := .move (.tmp 10), type := 3, pos := "law.go:183", after := #[⟨2, .guard⟩], guard := some (2, true) },
  { dst := some 129, op := .binOp .leq 3 (.tmp 128) (.const (.int .i64 0)) 3, type := 4, pos := "law.go:183", after := #[⟨3, .data⟩, ⟨2, .guard⟩], guard := some (2, true) },
  { dst := some 130, op := .pick (.tmp 127) (.tmp 129) (.const (.bool false)), type := 4, pos := "law.go:183", after := #[⟨2, .data⟩, ⟨4, .data⟩], guard := none },
  { dst := some 131, op := .move (.tmp 130), type := 4, pos := "law.go:183", after := #[⟨5, .data⟩, ⟨2, .chain⟩], guard := none },
  { dst := some 132, op := .move (.tmp 4), type := 65, pos := "law.go:183", after := #[⟨6, .guard⟩], guard := some (6, true) },
  { dst := some 133, op := .indexAddr 65 (.tmp 132) (.const (.int .i64 0)), type := 0, pos := "law.go:183", after := #[⟨7, .data⟩, ⟨6, .guard⟩], guard := some (6, true) },
  { dst := some 134, op := .load 36 (.tmp 133), type := 36, pos := "law.go:183", after := #[⟨8, .data⟩, ⟨6, .guard⟩], guard := some (6, true) },
  { dst := some 135, op := .move (.tmp 4), type := 65, pos := "law.go:183", after := #[⟨6, .guard⟩], guard := some (6, true) },
  { dst := some 136, op := .indexAddr 65 (.tmp 135) (.const (.int .i64 2)), type := 0, pos := "law.go:183", after := #[⟨10, .data⟩, ⟨6, .guard⟩], guard := some (6, true) },
  { dst := some 137, op := .load 36 (.tmp 136), type := 36, pos := "law.go:183", after := #[⟨11, .data⟩, ⟨6, .guard⟩], guard := some (6, true) },
  { dst := some 138, op := .call { callee := .value (.func 44), args := #[.tmp 134, .tmp 137], argTypes := #[36, 36] }, type := 3, pos := "law.go:183", after := #[⟨9, .data⟩, ⟨12, .data⟩, ⟨6, .chain⟩, ⟨6, .guard⟩], guard := some (6, true) },
  { dst := some 139, op := .binOp .gtr 3 (.tmp 138) (.const (.int .i64 0)) 3, type := 4, pos := "law.go:183", after := #[⟨13, .data⟩, ⟨6, .guard⟩], guard := some (6, true) },
  { dst := some 140, op := .pick (.tmp 131) (.tmp 139) (.const (.bool false)), type := 4, pos := "law.go:183", after := #[⟨6, .data⟩, ⟨14, .data⟩], guard := none }]
set_option maxRecDepth 100000 in
set_option maxHeartbeats 2000000 in
theorem or_r20_2 {Q : Exit → Act → World → Prop} {a0 : Act} {w0 : World} {x0 : Rat} {x1 : Rat} {x2 : Rat} {p4 c4 : Nat} {dQ0 : Bool} {AQ0 : Option Addr} {nQ0 cQ0 : Nat} {eQ0 : Bool} {EQ0 : Option Addr} {mQ0 fQ0 : Nat} {dQ2 : Bool} {AQ2 : Option Addr} {nQ2 cQ2 : Nat} {eQ2 : Bool} {EQ2 : Option Addr} {mQ2 fQ2 : Nat}  (hN : a0.tmps.size = 268) (t4 : a0.tmps[4]? = some (.slice (some ⟨p4, 0, none⟩) 3 c4)) (Q0 : HoldEQ w0 p4 0 x0 dQ0 AQ0 nQ0 cQ0 eQ0 EQ0 mQ0 fQ0) (Q2 : HoldEQ w0 p4 2 x2 dQ2 AQ2 nQ2 cQ2 eQ2 EQ2 mQ2 fQ2) (l0 : InF x0) (l2 : InF x2) (t9 : a0.tmps[9]? = some (.int .i64 (cmpF x0 x1))) (t10 : a0.tmps[10]? = some (.int .i64 (cmpF x1 x2))) (h1 : cmpF x0 x1 ≤ 0) (h2 : cmpF x1 x2 ≤ 0)
    (hQ : ∀ (w : World) (v125 v126 v127 v128 v129 v130 v131 v132 v133 v134 v135 v136 v137 v138 v139 v140 : Value) , Below w0.heap.size w0 w → (Is (.bool false)) v140 w → Q .normal ⟨([(125, v125), (126, v126), (127, v127), (128, v128), (129, v129), (130, v130), (131, v131), (132, v132), (133, v133), (134, v134), (135, v135), (136, v136), (137, v137), (138, v138), (139, v139), (140, v140)] : List (Nat × Value)).foldl (fun ts p => ts.setIfInBounds p.1 p.2) a0.tmps, a0.defers⟩ w) :
    (Code.region 20 or_r20_2_ops true).wp Tryz.prog Q a0 w0 := by
  refine wp_region_boxes4' (ty := 0) (cl := [.val 125 (Is (.int .i64 (cmpF x0 x1))), .val 126 (Is (.bool true)), .val 127 (Is (.bool true)), .val 128 (Is (.int .i64 (cmpF x1 x2))), .val 129 (Is (.bool true)), .val 130 (Is (.bool true)), .val 131 (Is (.bool true)), .val 132 (Is (.slice (some ⟨p4, 0, none⟩) 3 c4)), .val 133 (Is (.pointer (some ⟨p4, 0 * 4, none⟩))), .val 134 (IsQ (x0)), .val 135 (Is (.slice (some ⟨p4, 0, none⟩) 3 c4)), .val 136 (Is (.pointer (some ⟨p4, 2 * 4, none⟩))), .val 137 (IsQ (x2)), .val 138 (Is (.int .i64 (cmpF (x0) (x2)))), .val 139 (Is (.bool false)), .val 140 (Is (.bool false))]) 268 (by kernel_rfl) hN (by kernel_rfl) ?_ ?_ ?_
  · exact ⟨Is.stb4 _ _, Is.stb4 _ _, Is.stb4 _ _, Is.stb4 _ _, Is.stb4 _ _, Is.stb4 _ _, Is.stb4 _ _, Is.stb4 _ _, Is.stb4 _ _, IsQ.stb4 _ _, Is.stb4 _ _, Is.stb4 _ _, IsQ.stb4 _ _, Is.stb4 _ _, Is.stb4 _ _, Is.stb4 _ _, trivial⟩
  · refine ⟨?_, ?_, ?_, ?_, ?_, ?_, ?_, ?_, ?_, ?_, ?_, ?_, ?_, ?_, ?_, ?_, trivial⟩
    · intro l ac w h hd K hK
      exact o_move rfl GdOk.none (ev_t ((h.same 9 (not_dst (by kernel_rfl))).trans t9)) (hK _ _ rfl (Below.refl _ _))
    · intro l ac w h hd K hK
      obtain ⟨v0, hv0, rfl⟩ := h.fact 0 _ rfl (dep hd 0 (by kernel_rfl))
      exact o_leq rfl GdOk.none (ev_t hv0) rfl (decide_eq_true h1) (hK _ _ rfl (Below.refl _ _))
    · intro l ac w h hd K hK
      obtain ⟨v1, hv1, rfl⟩ := h.fact 1 _ rfl (dep hd 1 (by kernel_rfl))
      exact o_move rfl GdOk.none (ev_t hv1) (hK _ _ rfl (Below.refl _ _))
    · intro l ac w h hd K hK
      obtain ⟨v2, hv2, rfl⟩ := h.fact 2 _ rfl (dep hd 2 (by kernel_rfl))
      exact o_move rfl (GdOk.of (d := 127) rfl rfl hv2) (ev_t ((h.same 10 (not_dst (by kernel_rfl))).trans t10)) (hK _ _ rfl (Below.refl _ _))
    · intro l ac w h hd K hK
      obtain ⟨v2, hv2, rfl⟩ := h.fact 2 _ rfl (dep hd 2 (by kernel_rfl))
      obtain ⟨v3, hv3, rfl⟩ := h.fact 3 _ rfl (dep hd 3 (by kernel_rfl))
      exact o_leq rfl (GdOk.of (d := 127) rfl rfl hv2) (ev_t hv3) rfl (decide_eq_true h2) (hK _ _ rfl (Below.refl _ _))
    · intro l ac w h hd K hK
      obtain ⟨v2, hv2, rfl⟩ := h.fact 2 _ rfl (dep hd 2 (by kernel_rfl))
      obtain ⟨v4, hv4, rfl⟩ := h.fact 4 _ rfl (dep hd 4 (by kernel_rfl))
      exact o_pickT rfl GdOk.none (ev_t hv2) (ev_t hv4) (hK _ _ rfl (Below.refl _ _))
    · intro l ac w h hd K hK
      obtain ⟨v5, hv5, rfl⟩ := h.fact 5 _ rfl (dep hd 5 (by kernel_rfl))
      exact o_move rfl GdOk.none (ev_t hv5) (hK _ _ rfl (Below.refl _ _))
    · intro l ac w h hd K hK
      obtain ⟨v6, hv6, rfl⟩ := h.fact 6 _ rfl (dep hd 6 (by kernel_rfl))
      exact o_move rfl (GdOk.of (d := 131) rfl rfl hv6) (ev_t ((h.same 4 (not_dst (by kernel_rfl))).trans t4)) (hK _ _ rfl (Below.refl _ _))
    · intro l ac w h hd K hK
      obtain ⟨v6, hv6, rfl⟩ := h.fact 6 _ rfl (dep hd 6 (by kernel_rfl))
      obtain ⟨v7, hv7, rfl⟩ := h.fact 7 _ rfl (dep hd 7 (by kernel_rfl))
      exact o_indexQ (i := 0) rfl (GdOk.of (d := 131) rfl rfl hv6) (ev_t hv7) rfl (by omega) (hK _ _ rfl (Below.refl _ _))
    · intro l ac w h hd K hK
      obtain ⟨v6, hv6, rfl⟩ := h.fact 6 _ rfl (dep hd 6 (by kernel_rfl))
      obtain ⟨v8, hv8, rfl⟩ := h.fact 8 _ rfl (dep hd 8 (by kernel_rfl))
      exact o_loadQ rfl (GdOk.of (d := 131) rfl rfl hv6) (ev_t hv8) (Q0.below h.below).c0 (Q0.below h.below).c1 (Q0.below h.below).c2 (Q0.below h.below).c3 (hK _ _ (Q0.below h.below).rep (Below.refl _ _))
    · intro l ac w h hd K hK
      obtain ⟨v6, hv6, rfl⟩ := h.fact 6 _ rfl (dep hd 6 (by kernel_rfl))
      exact o_move rfl (GdOk.of (d := 131) rfl rfl hv6) (ev_t ((h.same 4 (not_dst (by kernel_rfl))).trans t4)) (hK _ _ rfl (Below.refl _ _))
    · intro l ac w h hd K hK
      obtain ⟨v6, hv6, rfl⟩ := h.fact 6 _ rfl (dep hd 6 (by kernel_rfl))
      obtain ⟨v10, hv10, rfl⟩ := h.fact 10 _ rfl (dep hd 10 (by kernel_rfl))
      exact o_indexQ (i := 2) rfl (GdOk.of (d := 131) rfl rfl hv6) (ev_t hv10) rfl (by omega) (hK _ _ rfl (Below.refl _ _))
    · intro l ac w h hd K hK
      obtain ⟨v6, hv6, rfl⟩ := h.fact 6 _ rfl (dep hd 6 (by kernel_rfl))
      obtain ⟨v11, hv11, rfl⟩ := h.fact 11 _ rfl (dep hd 11 (by kernel_rfl))
      exact o_loadQ rfl (GdOk.of (d := 131) rfl rfl hv6) (ev_t hv11) (Q2.below h.below).c0 (Q2.below h.below).c1 (Q2.below h.below).c2 (Q2.below h.below).c3 (hK _ _ (Q2.below h.below).rep (Below.refl _ _))
    · intro l ac w h hd K hK
      obtain ⟨v6, hv6, rfl⟩ := h.fact 6 _ rfl (dep hd 6 (by kernel_rfl))
      obtain ⟨v9, hv9, hF9⟩ := h.fact 9 _ rfl (dep hd 9 (by kernel_rfl))
      obtain ⟨v12, hv12, hF12⟩ := h.fact 12 _ rfl (dep hd 12 (by kernel_rfl))
      exact o_call2 rfl (GdOk.of (d := 131) rfl rfl hv6) (ev_t hv9) (ev_t hv12) (enters_of Tryz.func44 (by kernel_rfl) rfl) ((fcmp_in hF9 hF12 l0 l2).mono fun e w' ⟨he, h2⟩ => ⟨_, he, hK _ _ rfl h2⟩)
    · intro l ac w h hd K hK
      obtain ⟨v6, hv6, rfl⟩ := h.fact 6 _ rfl (dep hd 6 (by kernel_rfl))
      obtain ⟨v13, hv13, rfl⟩ := h.fact 13 _ rfl (dep hd 13 (by kernel_rfl))
      exact o_gtr rfl (GdOk.of (d := 131) rfl rfl hv6) (ev_t hv13) rfl (decide_eq_false (by have := cmpF_trans h1 h2; omega)) (hK _ _ rfl (Below.refl _ _))
    · intro l ac w h hd K hK
      obtain ⟨v6, hv6, rfl⟩ := h.fact 6 _ rfl (dep hd 6 (by kernel_rfl))
      obtain ⟨v14, hv14, rfl⟩ := h.fact 14 _ rfl (dep hd 14 (by kernel_rfl))
      exact o_pickT rfl GdOk.none (ev_t hv6) (ev_t hv14) (hK _ _ rfl (Below.refl _ _))
  · intro l ac w h hall
    obtain ⟨v125, q125, r125⟩ := h.fact 0 _ rfl (hall 0 (of_decide_eq_true (by kernel_rfl)))
    obtain ⟨v126, q126, r126⟩ := h.fact 1 _ rfl (hall 1 (of_decide_eq_true (by kernel_rfl)))
    obtain ⟨v127, q127, r127⟩ := h.fact 2 _ rfl (hall 2 (of_decide_eq_true (by kernel_rfl)))
    obtain ⟨v128, q128, r128⟩ := h.fact 3 _ rfl (hall 3 (of_decide_eq_true (by kernel_rfl)))
    obtain ⟨v129, q129, r129⟩ := h.fact 4 _ rfl (hall 4 (of_decide_eq_true (by kernel_rfl)))
    obtain ⟨v130, q130, r130⟩ := h.fact 5 _ rfl (hall 5 (of_decide_eq_true (by kernel_rfl)))
    obtain ⟨v131, q131, r131⟩ := h.fact 6 _ rfl (hall 6 (of_decide_eq_true (by kernel_rfl)))
    obtain ⟨v132, q132, r132⟩ := h.fact 7 _ rfl (hall 7 (of_decide_eq_true (by kernel_rfl)))
    obtain ⟨v133, q133, r133⟩ := h.fact 8 _ rfl (hall 8 (of_decide_eq_true (by kernel_rfl)))
    obtain ⟨v134, q134, r134⟩ := h.fact 9 _ rfl (hall 9 (of_decide_eq_true (by kernel_rfl)))
    obtain ⟨v135, q135, r135⟩ := h.fact 10 _ rfl (hall 10 (of_decide_eq_true (by kernel_rfl)))
    obtain ⟨v136, q136, r136⟩ := h.fact 11 _ rfl (hall 11 (of_decide_eq_true (by kernel_rfl)))
    obtain ⟨v137, q137, r137⟩ := h.fact 12 _ rfl (hall 12 (of_decide_eq_true (by kernel_rfl)))
    obtain ⟨v138, q138, r138⟩ := h.fact 13 _ rfl (hall 13 (of_decide_eq_true (by kernel_rfl)))
    obtain ⟨v139, q139, r139⟩ := h.fact 14 _ rfl (hall 14 (of_decide_eq_true (by kernel_rfl)))
    obtain ⟨v140, q140, r140⟩ := h.fact 15 _ rfl (hall 15 (of_decide_eq_true (by kernel_rfl)))
    have ha := act_of [(125, v125), (126, v126), (127, v127), (128, v128), (129, v129), (130, v130), (131, v131), (132, v132), (133, v133), (134, v134), (135, v135), (136, v136), (137, v137), (138, v138), (139, v139), (140, v140)] h.defers h.size (List.forall_mem_cons.2 ⟨q125, List.forall_mem_cons.2 ⟨q126, List.forall_mem_cons.2 ⟨q127, List.forall_mem_cons.2 ⟨q128, List.forall_mem_cons.2 ⟨q129, List.forall_mem_cons.2 ⟨q130, List.forall_mem_cons.2 ⟨q131, List.forall_mem_cons.2 ⟨q132, List.forall_mem_cons.2 ⟨q133, List.forall_mem_cons.2 ⟨q134, List.forall_mem_cons.2 ⟨q135, List.forall_mem_cons.2 ⟨q136, List.forall_mem_cons.2 ⟨q137, List.forall_mem_cons.2 ⟨q138, List.forall_mem_cons.2 ⟨q139, List.forall_mem_cons.2 ⟨q140, fun _ h => by cases h⟩⟩⟩⟩⟩⟩⟩⟩⟩⟩⟩⟩⟩⟩⟩⟩) (fun t ht => h.same t (fun hm => ht (in_dst (F := [125, 126, 127, 128, 129, 130, 131, 132, 133, 134, 135, 136, 137, 138, 139, 140]) (by kernel_rfl) hm)))
    rw [ha]
    exact hQ w _ _ _ _ _ _ _ _ _ _ _ _ _ _ _ _ h.below   r140
set_option maxRecDepth 100000 in
theorem or_r20 {Q : Exit → Act → World → Prop} {a0 : Act} {w0 : World} {x0 : Rat} {x1 : Rat} {x2 : Rat} {p4 c4 : Nat} {dQ0 : Bool} {AQ0 : Option Addr} {nQ0 cQ0 : Nat} {eQ0 : Bool} {EQ0 : Option Addr} {mQ0 fQ0 : Nat} {dQ2 : Bool} {AQ2 : Option Addr} {nQ2 cQ2 : Nat} {eQ2 : Bool} {EQ2 : Option Addr} {mQ2 fQ2 : Nat}  (hN : a0.tmps.size = 268) (t4 : a0.tmps[4]? = some (.slice (some ⟨p4, 0, none⟩) 3 c4)) (Q0 : HoldEQ w0 p4 0 x0 dQ0 AQ0 nQ0 cQ0 eQ0 EQ0 mQ0 fQ0) (Q2 : HoldEQ w0 p4 2 x2 dQ2 AQ2 nQ2 cQ2 eQ2 EQ2 mQ2 fQ2) (l0 : InF x0) (l2 : InF x2) (t9 : a0.tmps[9]? = some (.int .i64 (cmpF x0 x1))) (t10 : a0.tmps[10]? = some (.int .i64 (cmpF x1 x2)))
    (hQ : ∀ (w : World) (v125 v126 v127 v128 v129 v130 v131 v132 v133 v134 v135 v136 v137 v138 v139 v140 : Value) , Below w0.heap.size w0 w → (Is (Value.bool false)) v140 w → Q .normal ⟨([(125, v125), (126, v126), (127, v127), (128, v128), (129, v129), (130, v130), (131, v131), (132, v132), (133, v133), (134, v134), (135, v135), (136, v136), (137, v137), (138, v138), (139, v139), (140, v140)] : List (Nat × Value)).foldl (fun ts p => ts.setIfInBounds p.1 p.2) a0.tmps, a0.defers⟩ w) :
    (Code.region 20 or_r20_0_ops true).wp Tryz.prog Q a0 w0 := by
  by_cases h1 : cmpF x0 x1 ≤ 0
  · by_cases h2 : cmpF x1 x2 ≤ 0
    · exact or_r20_2 hN t4 Q0 Q2 l0 l2 t9 t10 h1 h2 hQ
    · exact or_r20_1 hN t4 Q0 Q2 l0 l2 t9 t10 h1 h2 hQ
  · exact or_r20_0 hN t4 Q0 Q2 l0 l2 t9 t10 h1 hQ
def or_r22_ops : Array Oper := #[
  { dst := some 142, op := .move (.tmp 4), type := 65, pos := "law.go:186", after := #[], guard := none },
  { dst := some 143, op := .indexAddr 65 (.tmp 142) (.const (.int .i64 0)), type := 0, pos := "law.go:186", after := #[⟨0, .data⟩], guard := none },
  { dst := some 144, op := .load 36 (.tmp 143), type := 36, pos := "law.go:186", after := #[⟨1, .data⟩], guard := none },
  { dst := some 145, op := .move (.tmp 4), type := 65, pos := "law.go:186", after := #[], guard := none },
  { dst := some 146, op := .indexAddr 65 (.tmp 145) (.const (.int .i64 2)), type := 0, pos := "law.go:186", after := #[⟨3, .data⟩], guard := none },
  { dst := some 147, op := .load 36 (.tmp 146), type := 36, pos := "law.go:186", after := #[⟨4, .data⟩], guard := none },
  { dst := some 148, op := .call { callee := .value (.func 28), args := #[.tmp 144, .tmp 147], argTypes := #[36, 36] }, type := 38, pos := "law.go:186", after := #[⟨2, .data⟩, ⟨5, .data⟩], guard := none },
  { dst := some 141, op := .move (.tmp 148), type := 38, pos := "law.go:186", after := #[⟨6, .data⟩], guard := none },
  { dst := some 149, op := .extract (.tmp 141) 0, type := 36, pos := "law.go:186", after := #[⟨7, .data⟩], guard := none },
  { dst := some 150, op := .extract (.tmp 141) 1, type := 37, pos := "law.go:186", after := #[⟨7, .data⟩, ⟨11, .gcOnly .lateStores⟩], guard := none },
  { dst := some 11, op := .alloc 36, type := 0, pos := "law.go:186", after := #[], guard := none },
  { dst := none, op := .store 36 (.tmp 11) (.tmp 149), type := 0, pos := "law.go:186", after := #[⟨10, .data⟩, ⟨8, .data⟩, ⟨6, .chain⟩, ⟨0, .phase⟩, ⟨1, .phase⟩, ⟨2, .phase⟩, ⟨3, .phase⟩, ⟨4, .phase⟩, ⟨5, .phase⟩, ⟨6, .phase⟩, ⟨7, .phase⟩, ⟨8, .phase⟩, ⟨9, .textOnly .lateStores⟩, ⟨10, .phase⟩], guard := none },
  { dst := some 12, op := .assign (.tmp 150), type := 37, pos := "law.go:186", after := #[⟨9, .data⟩, ⟨11, .chain⟩, ⟨0, .phase⟩, ⟨1, .phase⟩, ⟨2, .phase⟩, ⟨3, .phase⟩, ⟨4, .phase⟩, ⟨5, .phase⟩, ⟨6, .phase⟩, ⟨7, .phase⟩, ⟨8, .phase⟩, ⟨9, .phase⟩, ⟨10, .phase⟩, ⟨11, .phase⟩], guard := none }]
set_option maxRecDepth 100000 in
set_option maxHeartbeats 2000000 in
theorem or_r22 {Q : Exit → Act → World → Prop} {a0 : Act} {w0 : World} {x0 : Rat} {x1 : Rat} {x2 : Rat} {p4 c4 : Nat} {dQ0 : Bool} {AQ0 : Option Addr} {nQ0 cQ0 : Nat} {eQ0 : Bool} {EQ0 : Option Addr} {mQ0 fQ0 : Nat} {dQ2 : Bool} {AQ2 : Option Addr} {nQ2 cQ2 : Nat} {eQ2 : Bool} {EQ2 : Option Addr} {mQ2 fQ2 : Nat}  (hN : a0.tmps.size = 268) (t4 : a0.tmps[4]? = some (.slice (some ⟨p4, 0, none⟩) 3 c4)) (Q0 : HoldEQ w0 p4 0 x0 dQ0 AQ0 nQ0 cQ0 eQ0 EQ0 mQ0 fQ0) (Q2 : HoldEQ w0 p4 2 x2 dQ2 AQ2 nQ2 cQ2 eQ2 EQ2 mQ2 fQ2) (l0 : InF x0) (l2 : InF x2) 
    (hQ : ∀ (w : World) (v142 v143 v144 v145 v146 v147 v148 v141 v149 v150 v12 : Value) (g11 : Nat) (d11 : Bool) (A11 : Option Addr) (n11 c11 : Nat) (e11 : Bool) (E11 : Option Addr) (m11 f11 : Nat), Below w0.heap.size w0 w → HoldQ w g11 (addQ (x0) (x2)) d11 A11 n11 c11 e11 E11 m11 f11 → w0.heap.size ≤ g11 → (Is (.int .i64 (addR (x0) (x2)))) v12 w → Q .normal ⟨([(142, v142), (143, v143), (144, v144), (145, v145), (146, v146), (147, v147), (148, v148), (141, v141), (149, v149), (150, v150), (12, v12), (11, .pointer (some ⟨g11, 0, none⟩))] : List (Nat × Value)).foldl (fun ts p => ts.setIfInBounds p.1 p.2) a0.tmps, a0.defers⟩ w) :
    (Code.region 22 or_r22_ops true).wp Tryz.prog Q a0 w0 := by
  refine wp_region_boxes4' (ty := 36) (cl := [.val 142 (Is (.slice (some ⟨p4, 0, none⟩) 3 c4)), .val 143 (Is (.pointer (some ⟨p4, 0 * 4, none⟩))), .val 144 (IsQ (x0)), .val 145 (Is (.slice (some ⟨p4, 0, none⟩) 3 c4)), .val 146 (Is (.pointer (some ⟨p4, 2 * 4, none⟩))), .val 147 (IsQ (x2)), .val 148 (IsQE (addQ (x0) (x2)) (addR (x0) (x2))), .val 141 (IsQE (addQ (x0) (x2)) (addR (x0) (x2))), .val 149 (IsQ (addQ (x0) (x2))), .val 150 (Is (.int .i64 (addR (x0) (x2)))), .new 11, .put 11 (IsQ (addQ (x0) (x2))), .val 12 (Is (.int .i64 (addR (x0) (x2))))]) 268 (by kernel_rfl) hN (by kernel_rfl) ?_ ?_ ?_
  · exact ⟨Is.stb4 _ _, Is.stb4 _ _, IsQ.stb4 _ _, Is.stb4 _ _, Is.stb4 _ _, IsQ.stb4 _ _, IsQE.stb4 _ _ _, IsQE.stb4 _ _ _, IsQ.stb4 _ _, Is.stb4 _ _, trivial, IsQ.stb4 _ _, Is.stb4 _ _, trivial⟩
  · refine ⟨?_, ?_, ?_, ?_, ?_, ?_, ?_, ?_, ?_, ?_, ?_, ?_, ?_, trivial⟩
    · intro l ac w h hd K hK
      exact o_move rfl GdOk.none (ev_t ((h.same 4 (not_dst (by kernel_rfl))).trans t4)) (hK _ _ rfl (Below.refl _ _))
    · intro l ac w h hd K hK
      obtain ⟨v0, hv0, rfl⟩ := h.fact 0 _ rfl (dep hd 0 (by kernel_rfl))
      exact o_indexQ (i := 0) rfl GdOk.none (ev_t hv0) rfl (by omega) (hK _ _ rfl (Below.refl _ _))
    · intro l ac w h hd K hK
      obtain ⟨v1, hv1, rfl⟩ := h.fact 1 _ rfl (dep hd 1 (by kernel_rfl))
      exact o_loadQ rfl GdOk.none (ev_t hv1) (Q0.below h.below).c0 (Q0.below h.below).c1 (Q0.below h.below).c2 (Q0.below h.below).c3 (hK _ _ (Q0.below h.below).rep (Below.refl _ _))
    · intro l ac w h hd K hK
      exact o_move rfl GdOk.none (ev_t ((h.same 4 (not_dst (by kernel_rfl))).trans t4)) (hK _ _ rfl (Below.refl _ _))
    · intro l ac w h hd K hK
      obtain ⟨v3, hv3, rfl⟩ := h.fact 3 _ rfl (dep hd 3 (by kernel_rfl))
      exact o_indexQ (i := 2) rfl GdOk.none (ev_t hv3) rfl (by omega) (hK _ _ rfl (Below.refl _ _))
    · intro l ac w h hd K hK
      obtain ⟨v4, hv4, rfl⟩ := h.fact 4 _ rfl (dep hd 4 (by kernel_rfl))
      exact o_loadQ rfl GdOk.none (ev_t hv4) (Q2.below h.below).c0 (Q2.below h.below).c1 (Q2.below h.below).c2 (Q2.below h.below).c3 (hK _ _ (Q2.below h.below).rep (Below.refl _ _))
    · intro l ac w h hd K hK
      obtain ⟨v2, hv2, hF2⟩ := h.fact 2 _ rfl (dep hd 2 (by kernel_rfl))
      obtain ⟨v5, hv5, hF5⟩ := h.fact 5 _ rfl (dep hd 5 (by kernel_rfl))
      exact o_call2 rfl GdOk.none (ev_t hv2) (ev_t hv5) (enters_of Tryz.func28 (by kernel_rfl) rfl) ((fadd_any _ _ _ _ _ hF2 hF5 l0 l2).mono fun e w' ⟨v, he, h1, h2⟩ => ⟨_, he, hK _ _ ⟨v, rfl, h1⟩ h2⟩)
    · intro l ac w h hd K hK
      obtain ⟨v6, hv6, u6, rfl, hF6⟩ := h.fact 6 _ rfl (dep hd 6 (by kernel_rfl))
      exact o_move rfl GdOk.none (ev_t hv6) (hK _ _ ⟨u6, rfl, hF6⟩ (Below.refl _ _))
    · intro l ac w h hd K hK
      obtain ⟨v7, hv7, u7, rfl, hF7⟩ := h.fact 7 _ rfl (dep hd 7 (by kernel_rfl))
      exact o_ext0 rfl GdOk.none (ev_t hv7) (hK _ _ hF7 (Below.refl _ _))
    · intro l ac w h hd K hK
      obtain ⟨v7, hv7, u7, rfl, hF7⟩ := h.fact 7 _ rfl (dep hd 7 (by kernel_rfl))
      exact o_ext1 rfl GdOk.none (ev_t hv7) (hK _ _ rfl (Below.refl _ _))
    · intro ac w K hK
      exact o_allocQ rfl GdOk.none hK
    · refine ⟨⟨10, rfl⟩, fun l ac w h hd => ?_⟩
      obtain ⟨g, hg, hlt, e, A, n, c, e', A', n', c', hB⟩ := h.fact 10 _ rfl (dep hd 10 (by kernel_rfl))
      obtain ⟨v8, hv8, hF8⟩ := h.fact 8 _ rfl (dep hd 8 (by kernel_rfl))
      obtain ⟨d1, A1, n1, c1, d2, A2, n2, c2, rfl⟩ := RepF.shape hF8
      exact ⟨g, d1, A1, n1, c1, d2, A2, n2, c2, e, A, n, c, e', A', n', c', hg, hlt, hB, hF8, fun K hK => o_store4 (by first | exact Or.inl rfl | exact Or.inr rfl) rfl GdOk.none (ev_t hg) (ev_t hv8) hB hK⟩
    · intro l ac w h hd K hK
      obtain ⟨v9, hv9, rfl⟩ := h.fact 9 _ rfl (dep hd 9 (by kernel_rfl))
      exact o_assign rfl GdOk.none (ev_t hv9) (hK _ _ rfl (Below.refl _ _))
  · intro l ac w h hall
    obtain ⟨v142, q142, r142⟩ := h.fact 0 _ rfl (hall 0 (of_decide_eq_true (by kernel_rfl)))
    obtain ⟨v143, q143, r143⟩ := h.fact 1 _ rfl (hall 1 (of_decide_eq_true (by kernel_rfl)))
    obtain ⟨v144, q144, r144⟩ := h.fact 2 _ rfl (hall 2 (of_decide_eq_true (by kernel_rfl)))
    obtain ⟨v145, q145, r145⟩ := h.fact 3 _ rfl (hall 3 (of_decide_eq_true (by kernel_rfl)))
    obtain ⟨v146, q146, r146⟩ := h.fact 4 _ rfl (hall 4 (of_decide_eq_true (by kernel_rfl)))
    obtain ⟨v147, q147, r147⟩ := h.fact 5 _ rfl (hall 5 (of_decide_eq_true (by kernel_rfl)))
    obtain ⟨v148, q148, r148⟩ := h.fact 6 _ rfl (hall 6 (of_decide_eq_true (by kernel_rfl)))
    obtain ⟨v141, q141, r141⟩ := h.fact 7 _ rfl (hall 7 (of_decide_eq_true (by kernel_rfl)))
    obtain ⟨v149, q149, r149⟩ := h.fact 8 _ rfl (hall 8 (of_decide_eq_true (by kernel_rfl)))
    obtain ⟨v150, q150, r150⟩ := h.fact 9 _ rfl (hall 9 (of_decide_eq_true (by kernel_rfl)))
    obtain ⟨v12, q12, r12⟩ := h.fact 12 _ rfl (hall 12 (of_decide_eq_true (by kernel_rfl)))
    obtain ⟨g11, q11, l11, d11, A11, n11, c11, e11, E11, m11, f11, B11, F11⟩ := h.fact 11 _ rfl (hall 11 (of_decide_eq_true (by kernel_rfl)))
    have ha := act_of [(142, v142), (143, v143), (144, v144), (145, v145), (146, v146), (147, v147), (148, v148), (141, v141), (149, v149), (150, v150), (12, v12), (11, .pointer (some ⟨g11, 0, none⟩))] h.defers h.size (List.forall_mem_cons.2 ⟨q142, List.forall_mem_cons.2 ⟨q143, List.forall_mem_cons.2 ⟨q144, List.forall_mem_cons.2 ⟨q145, List.forall_mem_cons.2 ⟨q146, List.forall_mem_cons.2 ⟨q147, List.forall_mem_cons.2 ⟨q148, List.forall_mem_cons.2 ⟨q141, List.forall_mem_cons.2 ⟨q149, List.forall_mem_cons.2 ⟨q150, List.forall_mem_cons.2 ⟨q12, List.forall_mem_cons.2 ⟨q11, fun _ h => by cases h⟩⟩⟩⟩⟩⟩⟩⟩⟩⟩⟩⟩) (fun t ht => h.same t (fun hm => ht (in_dst (F := [142, 143, 144, 145, 146, 147, 148, 141, 149, 150, 12, 11]) (by kernel_rfl) hm)))
    rw [ha]
    exact hQ w _ _ _ _ _ _ _ _ _ _ _ _ _ _ _ _ _ _ _ _ h.below ⟨B11, F11⟩ l11 r12
def or_r23_ops : Array Oper := #[
  { dst := some 152, op := .move (.tmp 4), type := 65, pos := "law.go:187", after := #[], guard := none },
  { dst := some 153, op := .indexAddr 65 (.tmp 152) (.const (.int .i64 1)), type := 0, pos := "law.go:187", after := #[⟨0, .data⟩], guard := none },
  { dst := some 154, op := .load 36 (.tmp 153), type := 36, pos := "law.go:187", after := #[⟨1, .data⟩], guard := none },
  { dst := some 155, op := .move (.tmp 4), type := 65, pos := "law.go:187", after := #[], guard := none },
  { dst := some 156, op := .indexAddr 65 (.tmp 155) (.const (.int .i64 2)), type := 0, pos := "law.go:187", after := #[⟨3, .data⟩], guard := none },
  { dst := some 157, op := .load 36 (.tmp 156), type := 36, pos := "law.go:187", after := #[⟨4, .data⟩], guard := none },
  { dst := some 158, op := .call { callee := .value (.func 28), args := #[.tmp 154, .tmp 157], argTypes := #[36, 36] }, type := 38, pos := "law.go:187", after := #[⟨2, .data⟩, ⟨5, .data⟩], guard := none },
  { dst := some 151, op := .move (.tmp 158), type := 38, pos := "law.go:187", after := #[⟨6, .data⟩], guard := none },
  { dst := some 159, op := .extract (.tmp 151) 0, type := 36, pos := "law.go:187", after := #[⟨7, .data⟩], guard := none },
  { dst := some 160, op := .extract (.tmp 151) 1, type := 37, pos := "law.go:187", after := #[⟨7, .data⟩, ⟨11, .gcOnly .lateStores⟩], guard := none },
  { dst := some 13, op := .alloc 36, type := 0, pos := "law.go:187", after := #[], guard := none },
  { dst := none, op := .store 36 (.tmp 13) (.tmp 159), type := 0, pos := "law.go:187", after := #[⟨10, .data⟩, ⟨8, .data⟩, ⟨6, .chain⟩, ⟨0, .phase⟩, ⟨1, .phase⟩, ⟨2, .phase⟩, ⟨3, .phase⟩, ⟨4, .phase⟩, ⟨5, .phase⟩, ⟨6, .phase⟩, ⟨7, .phase⟩, ⟨8, .phase⟩, ⟨9, .textOnly .lateStores⟩, ⟨10, .phase⟩], guard := none },
  { dst := some 14, op := .assign (.tmp 160), type := 37, pos := "law.go:187", after := #[⟨9, .data⟩, ⟨11, .chain⟩, ⟨0, .phase⟩, ⟨1, .phase⟩, ⟨2, .phase⟩, ⟨3, .phase⟩, ⟨4, .phase⟩, ⟨5, .phase⟩, ⟨6, .phase⟩, ⟨7, .phase⟩, ⟨8, .phase⟩, ⟨9, .phase⟩, ⟨10, .phase⟩, ⟨11, .phase⟩], guard := none }]
set_option maxRecDepth 100000 in
set_option maxHeartbeats 2000000 in
theorem or_r23 {Q : Exit → Act → World → Prop} {a0 : Act} {w0 : World} {x0 : Rat} {x1 : Rat} {x2 : Rat} {p4 c4 : Nat} {dQ1 : Bool} {AQ1 : Option Addr} {nQ1 cQ1 : Nat} {eQ1 : Bool} {EQ1 : Option Addr} {mQ1 fQ1 : Nat} {dQ2 : Bool} {AQ2 : Option Addr} {nQ2 cQ2 : Nat} {eQ2 : Bool} {EQ2 : Option Addr} {mQ2 fQ2 : Nat}  (hN : a0.tmps.size = 268) (t4 : a0.tmps[4]? = some (.slice (some ⟨p4, 0, none⟩) 3 c4)) (Q1 : HoldEQ w0 p4 1 x1 dQ1 AQ1 nQ1 cQ1 eQ1 EQ1 mQ1 fQ1) (Q2 : HoldEQ w0 p4 2 x2 dQ2 AQ2 nQ2 cQ2 eQ2 EQ2 mQ2 fQ2) (l1 : InF x1) (l2 : InF x2) 
    (hQ : ∀ (w : World) (v152 v153 v154 v155 v156 v157 v158 v151 v159 v160 v14 : Value) (g13 : Nat) (d13 : Bool) (A13 : Option Addr) (n13 c13 : Nat) (e13 : Bool) (E13 : Option Addr) (m13 f13 : Nat), Below w0.heap.size w0 w → HoldQ w g13 (addQ (x1) (x2)) d13 A13 n13 c13 e13 E13 m13 f13 → w0.heap.size ≤ g13 → (Is (.int .i64 (addR (x1) (x2)))) v14 w → Q .normal ⟨([(152, v152), (153, v153), (154, v154), (155, v155), (156, v156), (157, v157), (158, v158), (151, v151), (159, v159), (160, v160), (14, v14), (13, .pointer (some ⟨g13, 0, none⟩))] : List (Nat × Value)).foldl (fun ts p => ts.setIfInBounds p.1 p.2) a0.tmps, a0.defers⟩ w) :
    (Code.region 23 or_r23_ops true).wp Tryz.prog Q a0 w0 := by
  refine wp_region_boxes4' (ty := 36) (cl := [.val 152 (Is (.slice (some ⟨p4, 0, none⟩) 3 c4)), .val 153 (Is (.pointer (some ⟨p4, 1 * 4, none⟩))), .val 154 (IsQ (x1)), .val 155 (Is (.slice (some ⟨p4, 0, none⟩) 3 c4)), .val 156 (Is (.pointer (some ⟨p4, 2 * 4, none⟩))), .val 157 (IsQ (x2)), .val 158 (IsQE (addQ (x1) (x2)) (addR (x1) (x2))), .val 151 (IsQE (addQ (x1) (x2)) (addR (x1) (x2))), .val 159 (IsQ (addQ (x1) (x2))), .val 160 (Is (.int .i64 (addR (x1) (x2)))), .new 13, .put 13 (IsQ (addQ (x1) (x2))), .val 14 (Is (.int .i64 (addR (x1) (x2))))]) 268 (by kernel_rfl) hN (by kernel_rfl) ?_ ?_ ?_
  · exact ⟨Is.stb4 _ _, Is.stb4 _ _, IsQ.stb4 _ _, Is.stb4 _ _, Is.stb4 _ _, IsQ.stb4 _ _, IsQE.stb4 _ _ _, IsQE.stb4 _ _ _, IsQ.stb4 _ _, Is.stb4 _ _, trivial, IsQ.stb4 _ _, Is.stb4 _ _, trivial⟩
  · refine ⟨?_, ?_, ?_, ?_, ?_, ?_, ?_, ?_, ?_, ?_, ?_, ?_, ?_, trivial⟩
    · intro l ac w h hd K hK
      exact o_move rfl GdOk.none (ev_t ((h.same 4 (not_dst (by kernel_rfl))).trans t4)) (hK _ _ rfl (Below.refl _ _))
    · intro l ac w h hd K hK
      obtain ⟨v0, hv0, rfl⟩ := h.fact 0 _ rfl (dep hd 0 (by kernel_rfl))
      exact o_indexQ (i := 1) rfl GdOk.none (ev_t hv0) rfl (by omega) (hK _ _ rfl (Below.refl _ _))
    · intro l ac w h hd K hK
      obtain ⟨v1, hv1, rfl⟩ := h.fact 1 _ rfl (dep hd 1 (by kernel_rfl))
      exact o_loadQ rfl GdOk.none (ev_t hv1) (Q1.below h.below).c0 (Q1.below h.below).c1 (Q1.below h.below).c2 (Q1.below h.below).c3 (hK _ _ (Q1.below h.below).rep (Below.refl _ _))
    · intro l ac w h hd K hK
      exact o_move rfl GdOk.none (ev_t ((h.same 4 (not_dst (by kernel_rfl))).trans t4)) (hK _ _ rfl (Below.refl _ _))
    · intro l ac w h hd K hK
      obtain ⟨v3, hv3, rfl⟩ := h.fact 3 _ rfl (dep hd 3 (by kernel_rfl))
      exact o_indexQ (i := 2) rfl GdOk.none (ev_t hv3) rfl (by omega) (hK _ _ rfl (Below.refl _ _))
    · intro l ac w h hd K hK
      obtain ⟨v4, hv4, rfl⟩ := h.fact 4 _ rfl (dep hd 4 (by kernel_rfl))
      exact o_loadQ rfl GdOk.none (ev_t hv4) (Q2.below h.below).c0 (Q2.below h.below).c1 (Q2.below h.below).c2 (Q2.below h.below).c3 (hK _ _ (Q2.below h.below).rep (Below.refl _ _))
    · intro l ac w h hd K hK
      obtain ⟨v2, hv2, hF2⟩ := h.fact 2 _ rfl (dep hd 2 (by kernel_rfl))
      obtain ⟨v5, hv5, hF5⟩ := h.fact 5 _ rfl (dep hd 5 (by kernel_rfl))
      exact o_call2 rfl GdOk.none (ev_t hv2) (ev_t hv5) (enters_of Tryz.func28 (by kernel_rfl) rfl) ((fadd_any _ _ _ _ _ hF2 hF5 l1 l2).mono fun e w' ⟨v, he, h1, h2⟩ => ⟨_, he, hK _ _ ⟨v, rfl, h1⟩ h2⟩)
    · intro l ac w h hd K hK
      obtain ⟨v6, hv6, u6, rfl, hF6⟩ := h.fact 6 _ rfl (dep hd 6 (by kernel_rfl))
      exact o_move rfl GdOk.none (ev_t hv6) (hK _ _ ⟨u6, rfl, hF6⟩ (Below.refl _ _))
    · intro l ac w h hd K hK
      obtain ⟨v7, hv7, u7, rfl, hF7⟩ := h.fact 7 _ rfl (dep hd 7 (by kernel_rfl))
      exact o_ext0 rfl GdOk.none (ev_t hv7) (hK _ _ hF7 (Below.refl _ _))
    · intro l ac w h hd K hK
      obtain ⟨v7, hv7, u7, rfl, hF7⟩ := h.fact 7 _ rfl (dep hd 7 (by kernel_rfl))
      exact o_ext1 rfl GdOk.none (ev_t hv7) (hK _ _ rfl (Below.refl _ _))
    · intro ac w K hK
      exact o_allocQ rfl GdOk.none hK
    · refine ⟨⟨10, rfl⟩, fun l ac w h hd => ?_⟩
      obtain ⟨g, hg, hlt, e, A, n, c, e', A', n', c', hB⟩ := h.fact 10 _ rfl (dep hd 10 (by kernel_rfl))
      obtain ⟨v8, hv8, hF8⟩ := h.fact 8 _ rfl (dep hd 8 (by kernel_rfl))
      obtain ⟨d1, A1, n1, c1, d2, A2, n2, c2, rfl⟩ := RepF.shape hF8
      exact ⟨g, d1, A1, n1, c1, d2, A2, n2, c2, e, A, n, c, e', A', n', c', hg, hlt, hB, hF8, fun K hK => o_store4 (by first | exact Or.inl rfl | exact Or.inr rfl) rfl GdOk.none (ev_t hg) (ev_t hv8) hB hK⟩
    · intro l ac w h hd K hK
      obtain ⟨v9, hv9, rfl⟩ := h.fact 9 _ rfl (dep hd 9 (by kernel_rfl))
      exact o_assign rfl GdOk.none (ev_t hv9) (hK _ _ rfl (Below.refl _ _))
  · intro l ac w h hall
    obtain ⟨v152, q152, r152⟩ := h.fact 0 _ rfl (hall 0 (of_decide_eq_true (by kernel_rfl)))
    obtain ⟨v153, q153, r153⟩ := h.fact 1 _ rfl (hall 1 (of_decide_eq_true (by kernel_rfl)))
    obtain ⟨v154, q154, r154⟩ := h.fact 2 _ rfl (hall 2 (of_decide_eq_true (by kernel_rfl)))
    obtain ⟨v155, q155, r155⟩ := h.fact 3 _ rfl (hall 3 (of_decide_eq_true (by kernel_rfl)))
    obtain ⟨v156, q156, r156⟩ := h.fact 4 _ rfl (hall 4 (of_decide_eq_true (by kernel_rfl)))
    obtain ⟨v157, q157, r157⟩ := h.fact 5 _ rfl (hall 5 (of_decide_eq_true (by kernel_rfl)))
    obtain ⟨v158, q158, r158⟩ := h.fact 6 _ rfl (hall 6 (of_decide_eq_true (by kernel_rfl)))
    obtain ⟨v151, q151, r151⟩ := h.fact 7 _ rfl (hall 7 (of_decide_eq_true (by kernel_rfl)))
    obtain ⟨v159, q159, r159⟩ := h.fact 8 _ rfl (hall 8 (of_decide_eq_true (by kernel_rfl)))
    obtain ⟨v160, q160, r160⟩ := h.fact 9 _ rfl (hall 9 (of_decide_eq_true (by kernel_rfl)))
    obtain ⟨v14, q14, r14⟩ := h.fact 12 _ rfl (hall 12 (of_decide_eq_true (by kernel_rfl)))
    obtain ⟨g13, q13, l13, d13, A13, n13, c13, e13, E13, m13, f13, B13, F13⟩ := h.fact 11 _ rfl (hall 11 (of_decide_eq_true (by kernel_rfl)))
    have ha := act_of [(152, v152), (153, v153), (154, v154), (155, v155), (156, v156), (157, v157), (158, v158), (151, v151), (159, v159), (160, v160), (14, v14), (13, .pointer (some ⟨g13, 0, none⟩))] h.defers h.size (List.forall_mem_cons.2 ⟨q152, List.forall_mem_cons.2 ⟨q153, List.forall_mem_cons.2 ⟨q154, List.forall_mem_cons.2 ⟨q155, List.forall_mem_cons.2 ⟨q156, List.forall_mem_cons.2 ⟨q157, List.forall_mem_cons.2 ⟨q158, List.forall_mem_cons.2 ⟨q151, List.forall_mem_cons.2 ⟨q159, List.forall_mem_cons.2 ⟨q160, List.forall_mem_cons.2 ⟨q14, List.forall_mem_cons.2 ⟨q13, fun _ h => by cases h⟩⟩⟩⟩⟩⟩⟩⟩⟩⟩⟩⟩) (fun t ht => h.same t (fun hm => ht (in_dst (F := [152, 153, 154, 155, 156, 157, 158, 151, 159, 160, 14, 13]) (by kernel_rfl) hm)))
    rw [ha]
    exact hQ w _ _ _ _ _ _ _ _ _ _ _ _ _ _ _ _ _ _ _ _ h.below ⟨B13, F13⟩ l13 r14
def or_r26_ops : Array Oper := #[
  { dst := some 175, op := .move (.tmp 4), type := 65, pos := "law.go:191", after := #[], guard := none },
  { dst := some 176, op := .indexAddr 65 (.tmp 175) (.const (.int .i64 0)), type := 0, pos := "law.go:191", after := #[⟨0, .data⟩], guard := none },
  { dst := some 177, op := .load 36 (.tmp 176), type := 36, pos := "law.go:191", after := #[⟨1, .data⟩], guard := none },
  { dst := some 178, op := .move (.tmp 4), type := 65, pos := "law.go:191", after := #[], guard := none },
  { dst := some 179, op := .indexAddr 65 (.tmp 178) (.const (.int .i64 2)), type := 0, pos := "law.go:191", after := #[⟨3, .data⟩], guard := none },
  { dst := some 180, op := .load 36 (.tmp 179), type := 36, pos := "law.go:191", after := #[⟨4, .data⟩], guard := none },
  { dst := some 181, op := .call { callee := .value (.func 32), args := #[.tmp 177, .tmp 180], argTypes := #[36, 36] }, type := 38, pos := "law.go:191", after := #[⟨2, .data⟩, ⟨5, .data⟩], guard := none },
  { dst := some 174, op := .move (.tmp 181), type := 38, pos := "law.go:191", after := #[⟨6, .data⟩], guard := none },
  { dst := some 182, op := .extract (.tmp 174) 0, type := 36, pos := "law.go:191", after := #[⟨7, .data⟩], guard := none },
  { dst := some 183, op := .extract (.tmp 174) 1, type := 37, pos := "law.go:191", after := #[⟨7, .data⟩, ⟨11, .gcOnly .lateStores⟩], guard := none },
  { dst := some 15, op := .alloc 36, type := 0, pos := "law.go:191", after := #[], guard := none },
  { dst := none, op := .store 36 (.tmp 15) (.tmp 182), type := 0, pos := "law.go:191", after := #[⟨10, .data⟩, ⟨8, .data⟩, ⟨6, .chain⟩, ⟨0, .phase⟩, ⟨1, .phase⟩, ⟨2, .phase⟩, ⟨3, .phase⟩, ⟨4, .phase⟩, ⟨5, .phase⟩, ⟨6, .phase⟩, ⟨7, .phase⟩, ⟨8, .phase⟩, ⟨9, .textOnly .lateStores⟩, ⟨10, .phase⟩], guard := none },
  { dst := some 16, op := .assign (.tmp 183), type := 37, pos := "law.go:191", after := #[⟨9, .data⟩, ⟨11, .chain⟩, ⟨0, .phase⟩, ⟨1, .phase⟩, ⟨2, .phase⟩, ⟨3, .phase⟩, ⟨4, .phase⟩, ⟨5, .phase⟩, ⟨6, .phase⟩, ⟨7, .phase⟩, ⟨8, .phase⟩, ⟨9, .phase⟩, ⟨10, .phase⟩, ⟨11, .phase⟩], guard := none }]
set_option maxRecDepth 100000 in
set_option maxHeartbeats 2000000 in
theorem or_r26 {Q : Exit → Act → World → Prop} {a0 : Act} {w0 : World} {x0 : Rat} {x1 : Rat} {x2 : Rat} {p4 c4 : Nat} {dQ0 : Bool} {AQ0 : Option Addr} {nQ0 cQ0 : Nat} {eQ0 : Bool} {EQ0 : Option Addr} {mQ0 fQ0 : Nat} {dQ2 : Bool} {AQ2 : Option Addr} {nQ2 cQ2 : Nat} {eQ2 : Bool} {EQ2 : Option Addr} {mQ2 fQ2 : Nat}  (hN : a0.tmps.size = 268) (t4 : a0.tmps[4]? = some (.slice (some ⟨p4, 0, none⟩) 3 c4)) (Q0 : HoldEQ w0 p4 0 x0 dQ0 AQ0 nQ0 cQ0 eQ0 EQ0 mQ0 fQ0) (Q2 : HoldEQ w0 p4 2 x2 dQ2 AQ2 nQ2 cQ2 eQ2 EQ2 mQ2 fQ2) (l0 : InF x0) (l2 : InF x2) 
    (hQ : ∀ (w : World) (v175 v176 v177 v178 v179 v180 v181 v174 v182 v183 v16 : Value) (g15 : Nat) (d15 : Bool) (A15 : Option Addr) (n15 c15 : Nat) (e15 : Bool) (E15 : Option Addr) (m15 f15 : Nat), Below w0.heap.size w0 w → HoldQ w g15 (fitQ (x0 * x2)) d15 A15 n15 c15 e15 E15 m15 f15 → w0.heap.size ≤ g15 → (Is (.int .i64 (fitR (x0 * x2)))) v16 w → Q .normal ⟨([(175, v175), (176, v176), (177, v177), (178, v178), (179, v179), (180, v180), (181, v181), (174, v174), (182, v182), (183, v183), (16, v16), (15, .pointer (some ⟨g15, 0, none⟩))] : List (Nat × Value)).foldl (fun ts p => ts.setIfInBounds p.1 p.2) a0.tmps, a0.defers⟩ w) :
    (Code.region 26 or_r26_ops true).wp Tryz.prog Q a0 w0 := by
  refine wp_region_boxes4' (ty := 36) (cl := [.val 175 (Is (.slice (some ⟨p4, 0, none⟩) 3 c4)), .val 176 (Is (.pointer (some ⟨p4, 0 * 4, none⟩))), .val 177 (IsQ (x0)), .val 178 (Is (.slice (some ⟨p4, 0, none⟩) 3 c4)), .val 179 (Is (.pointer (some ⟨p4, 2 * 4, none⟩))), .val 180 (IsQ (x2)), .val 181 (IsQE (fitQ (x0 * x2)) (fitR (x0 * x2))), .val 174 (IsQE (fitQ (x0 * x2)) (fitR (x0 * x2))), .val 182 (IsQ (fitQ (x0 * x2))), .val 183 (Is (.int .i64 (fitR (x0 * x2)))), .new 15, .put 15 (IsQ (fitQ (x0 * x2))), .val 16 (Is (.int .i64 (fitR (x0 * x2))))]) 268 (by kernel_rfl) hN (by kernel_rfl) ?_ ?_ ?_
  · exact ⟨Is.stb4 _ _, Is.stb4 _ _, IsQ.stb4 _ _, Is.stb4 _ _, Is.stb4 _ _, IsQ.stb4 _ _, IsQE.stb4 _ _ _, IsQE.stb4 _ _ _, IsQ.stb4 _ _, Is.stb4 _ _, trivial, IsQ.stb4 _ _, Is.stb4 _ _, trivial⟩
  · refine ⟨?_, ?_, ?_, ?_, ?_, ?_, ?_, ?_, ?_, ?_, ?_, ?_, ?_, trivial⟩
    · intro l ac w h hd K hK
      exact o_move rfl GdOk.none (ev_t ((h.same 4 (not_dst (by kernel_rfl))).trans t4)) (hK _ _ rfl (Below.refl _ _))
    · intro l ac w h hd K hK
      obtain ⟨v0, hv0, rfl⟩ := h.fact 0 _ rfl (dep hd 0 (by kernel_rfl))
      exact o_indexQ (i := 0) rfl GdOk.none (ev_t hv0) rfl (by omega) (hK _ _ rfl (Below.refl _ _))
    · intro l ac w h hd K hK
      obtain ⟨v1, hv1, rfl⟩ := h.fact 1 _ rfl (dep hd 1 (by kernel_rfl))
      exact o_loadQ rfl GdOk.none (ev_t hv1) (Q0.below h.below).c0 (Q0.below h.below).c1 (Q0.below h.below).c2 (Q0.below h.below).c3 (hK _ _ (Q0.below h.below).rep (Below.refl _ _))
    · intro l ac w h hd K hK
      exact o_move rfl GdOk.none (ev_t ((h.same 4 (not_dst (by kernel_rfl))).trans t4)) (hK _ _ rfl (Below.refl _ _))
    · intro l ac w h hd K hK
      obtain ⟨v3, hv3, rfl⟩ := h.fact 3 _ rfl (dep hd 3 (by kernel_rfl))
      exact o_indexQ (i := 2) rfl GdOk.none (ev_t hv3) rfl (by omega) (hK _ _ rfl (Below.refl _ _))
    · intro l ac w h hd K hK
      obtain ⟨v4, hv4, rfl⟩ := h.fact 4 _ rfl (dep hd 4 (by kernel_rfl))
      exact o_loadQ rfl GdOk.none (ev_t hv4) (Q2.below h.below).c0 (Q2.below h.below).c1 (Q2.below h.below).c2 (Q2.below h.below).c3 (hK _ _ (Q2.below h.below).rep (Below.refl _ _))
    · intro l ac w h hd K hK
      obtain ⟨v2, hv2, hF2⟩ := h.fact 2 _ rfl (dep hd 2 (by kernel_rfl))
      obtain ⟨v5, hv5, hF5⟩ := h.fact 5 _ rfl (dep hd 5 (by kernel_rfl))
      exact o_call2 rfl GdOk.none (ev_t hv2) (ev_t hv5) (enters_of Tryz.func32 (by kernel_rfl) rfl) ((fmul_any _ _ _ _ _ hF2 hF5 l0 l2).mono fun e w' ⟨v, he, h1, h2⟩ => ⟨_, he, hK _ _ ⟨v, rfl, h1⟩ h2⟩)
    · intro l ac w h hd K hK
      obtain ⟨v6, hv6, u6, rfl, hF6⟩ := h.fact 6 _ rfl (dep hd 6 (by kernel_rfl))
      exact o_move rfl GdOk.none (ev_t hv6) (hK _ _ ⟨u6, rfl, hF6⟩ (Below.refl _ _))
    · intro l ac w h hd K hK
      obtain ⟨v7, hv7, u7, rfl, hF7⟩ := h.fact 7 _ rfl (dep hd 7 (by kernel_rfl))
      exact o_ext0 rfl GdOk.none (ev_t hv7) (hK _ _ hF7 (Below.refl _ _))
    · intro l ac w h hd K hK
      obtain ⟨v7, hv7, u7, rfl, hF7⟩ := h.fact 7 _ rfl (dep hd 7 (by kernel_rfl))
      exact o_ext1 rfl GdOk.none (ev_t hv7) (hK _ _ rfl (Below.refl _ _))
    · intro ac w K hK
      exact o_allocQ rfl GdOk.none hK
    · refine ⟨⟨10, rfl⟩, fun l ac w h hd => ?_⟩
      obtain ⟨g, hg, hlt, e, A, n, c, e', A', n', c', hB⟩ := h.fact 10 _ rfl (dep hd 10 (by kernel_rfl))
      obtain ⟨v8, hv8, hF8⟩ := h.fact 8 _ rfl (dep hd 8 (by kernel_rfl))
      obtain ⟨d1, A1, n1, c1, d2, A2, n2, c2, rfl⟩ := RepF.shape hF8
      exact ⟨g, d1, A1, n1, c1, d2, A2, n2, c2, e, A, n, c, e', A', n', c', hg, hlt, hB, hF8, fun K hK => o_store4 (by first | exact Or.inl rfl | exact Or.inr rfl) rfl GdOk.none (ev_t hg) (ev_t hv8) hB hK⟩
    · intro l ac w h hd K hK
      obtain ⟨v9, hv9, rfl⟩ := h.fact 9 _ rfl (dep hd 9 (by kernel_rfl))
      exact o_assign rfl GdOk.none (ev_t hv9) (hK _ _ rfl (Below.refl _ _))
  · intro l ac w h hall
    obtain ⟨v175, q175, r175⟩ := h.fact 0 _ rfl (hall 0 (of_decide_eq_true (by kernel_rfl)))
    obtain ⟨v176, q176, r176⟩ := h.fact 1 _ rfl (hall 1 (of_decide_eq_true (by kernel_rfl)))
    obtain ⟨v177, q177, r177⟩ := h.fact 2 _ rfl (hall 2 (of_decide_eq_true (by kernel_rfl)))
    obtain ⟨v178, q178, r178⟩ := h.fact 3 _ rfl (hall 3 (of_decide_eq_true (by kernel_rfl)))
    obtain ⟨v179, q179, r179⟩ := h.fact 4 _ rfl (hall 4 (of_decide_eq_true (by kernel_rfl)))
    obtain ⟨v180, q180, r180⟩ := h.fact 5 _ rfl (hall 5 (of_decide_eq_true (by kernel_rfl)))
    obtain ⟨v181, q181, r181⟩ := h.fact 6 _ rfl (hall 6 (of_decide_eq_true (by kernel_rfl)))
    obtain ⟨v174, q174, r174⟩ := h.fact 7 _ rfl (hall 7 (of_decide_eq_true (by kernel_rfl)))
    obtain ⟨v182, q182, r182⟩ := h.fact 8 _ rfl (hall 8 (of_decide_eq_true (by kernel_rfl)))
    obtain ⟨v183, q183, r183⟩ := h.fact 9 _ rfl (hall 9 (of_decide_eq_true (by kernel_rfl)))
    obtain ⟨v16, q16, r16⟩ := h.fact 12 _ rfl (hall 12 (of_decide_eq_true (by kernel_rfl)))
    obtain ⟨g15, q15, l15, d15, A15, n15, c15, e15, E15, m15, f15, B15, F15⟩ := h.fact 11 _ rfl (hall 11 (of_decide_eq_true (by kernel_rfl)))
    have ha := act_of [(175, v175), (176, v176), (177, v177), (178, v178), (179, v179), (180, v180), (181, v181), (174, v174), (182, v182), (183, v183), (16, v16), (15, .pointer (some ⟨g15, 0, none⟩))] h.defers h.size (List.forall_mem_cons.2 ⟨q175, List.forall_mem_cons.2 ⟨q176, List.forall_mem_cons.2 ⟨q177, List.forall_mem_cons.2 ⟨q178, List.forall_mem_cons.2 ⟨q179, List.forall_mem_cons.2 ⟨q180, List.forall_mem_cons.2 ⟨q181, List.forall_mem_cons.2 ⟨q174, List.forall_mem_cons.2 ⟨q182, List.forall_mem_cons.2 ⟨q183, List.forall_mem_cons.2 ⟨q16, List.forall_mem_cons.2 ⟨q15, fun _ h => by cases h⟩⟩⟩⟩⟩⟩⟩⟩⟩⟩⟩⟩) (fun t ht => h.same t (fun hm => ht (in_dst (F := [175, 176, 177, 178, 179, 180, 181, 174, 182, 183, 16, 15]) (by kernel_rfl) hm)))
    rw [ha]
    exact hQ w _ _ _ _ _ _ _ _ _ _ _ _ _ _ _ _ _ _ _ _ h.below ⟨B15, F15⟩ l15 r16
def or_r27_ops : Array Oper := #[
  { dst := some 185, op := .move (.tmp 4), type := 65, pos := "law.go:192", after := #[], guard := none },
  { dst := some 186, op := .indexAddr 65 (.tmp 185) (.const (.int .i64 1)), type := 0, pos := "law.go:192", after := #[⟨0, .data⟩], guard := none },
  { dst := some 187, op := .load 36 (.tmp 186), type := 36, pos := "law.go:192", after := #[⟨1, .data⟩], guard := none },
  { dst := some 188, op := .move (.tmp 4), type := 65, pos := "law.go:192", after := #[], guard := none },
  { dst := some 189, op := .indexAddr 65 (.tmp 188) (.const (.int .i64 2)), type := 0, pos := "law.go:192", after := #[⟨3, .data⟩], guard := none },
  { dst := some 190, op := .load 36 (.tmp 189), type := 36, pos := "law.go:192", after := #[⟨4, .data⟩], guard := none },
  { dst := some 191, op := .call { callee := .value (.func 32), args := #[.tmp 187, .tmp 190], argTypes := #[36, 36] }, type := 38, pos := "law.go:192", after := #[⟨2, .data⟩, ⟨5, .data⟩], guard := none },
  { dst := some 184, op := .move (.tmp 191), type := 38, pos := "law.go:192", after := #[⟨6, .data⟩], guard := none },
  { dst := some 192, op := .extract (.tmp 184) 0, type := 36, pos := "law.go:192", after := #[⟨7, .data⟩], guard := none },
  { dst := some 193, op := .extract (.tmp 184) 1, type := 37, pos := "law.go:192", after := #[⟨7, .data⟩, ⟨11, .gcOnly .lateStores⟩], guard := none },
  { dst := some 17, op := .alloc 36, type := 0, pos := "law.go:192", after := #[], guard := none },
  { dst := none, op := .store 36 (.tmp 17) (.tmp 192), type := 0, pos := "law.go:192", after := #[⟨10, .data⟩, ⟨8, .data⟩, ⟨6, .chain⟩, ⟨0, .phase⟩, ⟨1, .phase⟩, ⟨2, .phase⟩, ⟨3, .phase⟩, ⟨4, .phase⟩, ⟨5, .phase⟩, ⟨6, .phase⟩, ⟨7, .phase⟩, ⟨8, .phase⟩, ⟨9, .textOnly .lateStores⟩, ⟨10, .phase⟩], guard := none },
  { dst := some 18, op := .assign (.tmp 193), type := 37, pos := "law.go:192", after := #[⟨9, .data⟩, ⟨11, .chain⟩, ⟨0, .phase⟩, ⟨1, .phase⟩, ⟨2, .phase⟩, ⟨3, .phase⟩, ⟨4, .phase⟩, ⟨5, .phase⟩, ⟨6, .phase⟩, ⟨7, .phase⟩, ⟨8, .phase⟩, ⟨9, .phase⟩, ⟨10, .phase⟩, ⟨11, .phase⟩], guard := none }]
set_option maxRecDepth 100000 in
set_option maxHeartbeats 2000000 in
theorem or_r27 {Q : Exit → Act → World → Prop} {a0 : Act} {w0 : World} {x0 : Rat} {x1 : Rat} {x2 : Rat} {p4 c4 : Nat} {dQ1 : Bool} {AQ1 : Option Addr} {nQ1 cQ1 : Nat} {eQ1 : Bool} {EQ1 : Option Addr} {mQ1 fQ1 : Nat} {dQ2 : Bool} {AQ2 : Option Addr} {nQ2 cQ2 : Nat} {eQ2 : Bool} {EQ2 : Option Addr} {mQ2 fQ2 : Nat}  (hN : a0.tmps.size = 268) (t4 : a0.tmps[4]? = some (.slice (some ⟨p4, 0, none⟩) 3 c4)) (Q1 : HoldEQ w0 p4 1 x1 dQ1 AQ1 nQ1 cQ1 eQ1 EQ1 mQ1 fQ1) (Q2 : HoldEQ w0 p4 2 x2 dQ2 AQ2 nQ2 cQ2 eQ2 EQ2 mQ2 fQ2) (l1 : InF x1) (l2 : InF x2) 
    (hQ : ∀ (w : World) (v185 v186 v187 v188 v189 v190 v191 v184 v192 v193 v18 : Value) (g17 : Nat) (d17 : Bool) (A17 : Option Addr) (n17 c17 : Nat) (e17 : Bool) (E17 : Option Addr) (m17 f17 : Nat), Below w0.heap.size w0 w → HoldQ w g17 (fitQ (x1 * x2)) d17 A17 n17 c17 e17 E17 m17 f17 → w0.heap.size ≤ g17 → (Is (.int .i64 (fitR (x1 * x2)))) v18 w → Q .normal ⟨([(185, v185), (186, v186), (187, v187), (188, v188), (189, v189), (190, v190), (191, v191), (184, v184), (192, v192), (193, v193), (18, v18), (17, .pointer (some ⟨g17, 0, none⟩))] : List (Nat × Value)).foldl (fun ts p => ts.setIfInBounds p.1 p.2) a0.tmps, a0.defers⟩ w) :
    (Code.region 27 or_r27_ops true).wp Tryz.prog Q a0 w0 := by
  refine wp_region_boxes4' (ty := 36) (cl := [.val 185 (Is (.slice (some ⟨p4, 0, none⟩) 3 c4)), .val 186 (Is (.pointer (some ⟨p4, 1 * 4, none⟩))), .val 187 (IsQ (x1)), .val 188 (Is (.slice (some ⟨p4, 0, none⟩) 3 c4)), .val 189 (Is (.pointer (some ⟨p4, 2 * 4, none⟩))), .val 190 (IsQ (x2)), .val 191 (IsQE (fitQ (x1 * x2)) (fitR (x1 * x2))), .val 184 (IsQE (fitQ (x1 * x2)) (fitR (x1 * x2))), .val 192 (IsQ (fitQ (x1 * x2))), .val 193 (Is (.int .i64 (fitR (x1 * x2)))), .new 17, .put 17 (IsQ (fitQ (x1 * x2))), .val 18 (Is (.int .i64 (fitR (x1 * x2))))]) 268 (by kernel_rfl) hN (by kernel_rfl) ?_ ?_ ?_
  · exact ⟨Is.stb4 _ _, Is.stb4 _ _, IsQ.stb4 _ _, Is.stb4 _ _, Is.stb4 _ _, IsQ.stb4 _ _, IsQE.stb4 _ _ _, IsQE.stb4 _ _ _, IsQ.stb4 _ _, Is.stb4 _ _, trivial, IsQ.stb4 _ _, Is.stb4 _ _, trivial⟩
  · refine ⟨?_, ?_, ?_, ?_, ?_, ?_, ?_, ?_, ?_, ?_, ?_, ?_, ?_, trivial⟩
    · intro l ac w h hd K hK
      exact o_move rfl GdOk.none (ev_t ((h.same 4 (not_dst (by kernel_rfl))).trans t4)) (hK _ _ rfl (Below.refl _ _))
    · intro l ac w h hd K hK
      obtain ⟨v0, hv0, rfl⟩ := h.fact 0 _ rfl (dep hd 0 (by kernel_rfl))
      exact o_indexQ (i := 1) rfl GdOk.none (ev_t hv0) rfl (by omega) (hK _ _ rfl (Below.refl _ _))
    · intro l ac w h hd K hK
      obtain ⟨v1, hv1, rfl⟩ := h.fact 1 _ rfl (dep hd 1 (by kernel_rfl))
      exact o_loadQ rfl GdOk.none (ev_t hv1) (Q1.below h.below).c0 (Q1.below h.below).c1 (Q1.below h.below).c2 (Q1.below h.below).c3 (hK _ _ (Q1.below h.below).rep (Below.refl _ _))
    · intro l ac w h hd K hK
      exact o_move rfl GdOk.none (ev_t ((h.same 4 (not_dst (by kernel_rfl))).trans t4)) (hK _ _ rfl (Below.refl _ _))
    · intro l ac w h hd K hK
      obtain ⟨v3, hv3, rfl⟩ := h.fact 3 _ rfl (dep hd 3 (by kernel_rfl))
      exact o_indexQ (i := 2) rfl GdOk.none (ev_t hv3) rfl (by omega) (hK _ _ rfl (Below.refl _ _))
    · intro l ac w h hd K hK
      obtain ⟨v4, hv4, rfl⟩ := h.fact 4 _ rfl (dep hd 4 (by kernel_rfl))
      exact o_loadQ rfl GdOk.none (ev_t hv4) (Q2.below h.below).c0 (Q2.below h.below).c1 (Q2.below h.below).c2 (Q2.below h.below).c3 (hK _ _ (Q2.below h.below).rep (Below.refl _ _))
    · intro l ac w h hd K hK
      obtain ⟨v2, hv2, hF2⟩ := h.fact 2 _ rfl (dep hd 2 (by kernel_rfl))
      obtain ⟨v5, hv5, hF5⟩ := h.fact 5 _ rfl (dep hd 5 (by kernel_rfl))
      exact o_call2 rfl GdOk.none (ev_t hv2) (ev_t hv5) (enters_of Tryz.func32 (by kernel_rfl) rfl) ((fmul_any _ _ _ _ _ hF2 hF5 l1 l2).mono fun e w' ⟨v, he, h1, h2⟩ => ⟨_, he, hK _ _ ⟨v, rfl, h1⟩ h2⟩)
    · intro l ac w h hd K hK
      obtain ⟨v6, hv6, u6, rfl, hF6⟩ := h.fact 6 _ rfl (dep hd 6 (by kernel_rfl))
      exact o_move rfl GdOk.none (ev_t hv6) (hK _ _ ⟨u6, rfl, hF6⟩ (Below.refl _ _))
    · intro l ac w h hd K hK
      obtain ⟨v7, hv7, u7, rfl, hF7⟩ := h.fact 7 _ rfl (dep hd 7 (by kernel_rfl))
      exact o_ext0 rfl GdOk.none (ev_t hv7) (hK _ _ hF7 (Below.refl _ _))
    · intro l ac w h hd K hK
      obtain ⟨v7, hv7, u7, rfl, hF7⟩ := h.fact 7 _ rfl (dep hd 7 (by kernel_rfl))
      exact o_ext1 rfl GdOk.none (ev_t hv7) (hK _ _ rfl (Below.refl _ _))
    · intro ac w K hK
      exact o_allocQ rfl GdOk.none hK
    · refine ⟨⟨10, rfl⟩, fun l ac w h hd => ?_⟩
      obtain ⟨g, hg, hlt, e, A, n, c, e', A', n', c', hB⟩ := h.fact 10 _ rfl (dep hd 10 (by kernel_rfl))
      obtain ⟨v8, hv8, hF8⟩ := h.fact 8 _ rfl (dep hd 8 (by kernel_rfl))
      obtain ⟨d1, A1, n1, c1, d2, A2, n2, c2, rfl⟩ := RepF.shape hF8
      exact ⟨g, d1, A1, n1, c1, d2, A2, n2, c2, e, A, n, c, e', A', n', c', hg, hlt, hB, hF8, fun K hK => o_store4 (by first | exact Or.inl rfl | exact Or.inr rfl) rfl GdOk.none (ev_t hg) (ev_t hv8) hB hK⟩
    · intro l ac w h hd K hK
      obtain ⟨v9, hv9, rfl⟩ := h.fact 9 _ rfl (dep hd 9 (by kernel_rfl))
      exact o_assign rfl GdOk.none (ev_t hv9) (hK _ _ rfl (Below.refl _ _))
  · intro l ac w h hall
    obtain ⟨v185, q185, r185⟩ := h.fact 0 _ rfl (hall 0 (of_decide_eq_true (by kernel_rfl)))
    obtain ⟨v186, q186, r186⟩ := h.fact 1 _ rfl (hall 1 (of_decide_eq_true (by kernel_rfl)))
    obtain ⟨v187, q187, r187⟩ := h.fact 2 _ rfl (hall 2 (of_decide_eq_true (by kernel_rfl)))
    obtain ⟨v188, q188, r188⟩ := h.fact 3 _ rfl (hall 3 (of_decide_eq_true (by kernel_rfl)))
    obtain ⟨v189, q189, r189⟩ := h.fact 4 _ rfl (hall 4 (of_decide_eq_true (by kernel_rfl)))
    obtain ⟨v190, q190, r190⟩ := h.fact 5 _ rfl (hall 5 (of_decide_eq_true (by kernel_rfl)))
    obtain ⟨v191, q191, r191⟩ := h.fact 6 _ rfl (hall 6 (of_decide_eq_true (by kernel_rfl)))
    obtain ⟨v184, q184, r184⟩ := h.fact 7 _ rfl (hall 7 (of_decide_eq_true (by kernel_rfl)))
    obtain ⟨v192, q192, r192⟩ := h.fact 8 _ rfl (hall 8 (of_decide_eq_true (by kernel_rfl)))
    obtain ⟨v193, q193, r193⟩ := h.fact 9 _ rfl (hall 9 (of_decide_eq_true (by kernel_rfl)))
    obtain ⟨v18, q18, r18⟩ := h.fact 12 _ rfl (hall 12 (of_decide_eq_true (by kernel_rfl)))
    obtain ⟨g17, q17, l17, d17, A17, n17, c17, e17, E17, m17, f17, B17, F17⟩ := h.fact 11 _ rfl (hall 11 (of_decide_eq_true (by kernel_rfl)))
    have ha := act_of [(185, v185), (186, v186), (187, v187), (188, v188), (189, v189), (190, v190), (191, v191), (184, v184), (192, v192), (193, v193), (18, v18), (17, .pointer (some ⟨g17, 0, none⟩))] h.defers h.size (List.forall_mem_cons.2 ⟨q185, List.forall_mem_cons.2 ⟨q186, List.forall_mem_cons.2 ⟨q187, List.forall_mem_cons.2 ⟨q188, List.forall_mem_cons.2 ⟨q189, List.forall_mem_cons.2 ⟨q190, List.forall_mem_cons.2 ⟨q191, List.forall_mem_cons.2 ⟨q184, List.forall_mem_cons.2 ⟨q192, List.forall_mem_cons.2 ⟨q193, List.forall_mem_cons.2 ⟨q18, List.forall_mem_cons.2 ⟨q17, fun _ h => by cases h⟩⟩⟩⟩⟩⟩⟩⟩⟩⟩⟩⟩) (fun t ht => h.same t (fun hm => ht (in_dst (F := [185, 186, 187, 188, 189, 190, 191, 184, 192, 193, 18, 17]) (by kernel_rfl) hm)))
    rw [ha]
    exact hQ w _ _ _ _ _ _ _ _ _ _ _ _ _ _ _ _ _ _ _ _ h.below ⟨B17, F17⟩ l17 r18
def or_r28_ops : Array Oper := #[
  { dst := some 194, op := .move (.tmp 16), type := 37, pos := "law.go:193", after := #[], guard := none },
  { dst := some 195, op := .binOp .eql 37 (.tmp 194) (.const (.int .i64 0)) 37, type := 4, pos := "law.go:193", after := #[⟨0, .data⟩], guard := none },
  { dst := some 196, op := .move (.tmp 195), type := 4, pos := "law.go:193", after := #[⟨1, .data⟩], guard := none },
  { dst := some 197, op := .move (.tmp 18), type := 37, pos := "law.go:193", after := #[⟨2, .guard⟩], guard := some (2, true) },
  { dst := some 198, op := .binOp .eql 37 (.tmp 197) (.const (.int .i64 0)) 37, type := 4, pos := "law.go:193", after := #[⟨3, .data⟩, ⟨2, .guard⟩], guard := some (2, true) },
  { dst := some 199, op := .pick (.tmp 196) (.tmp 198) (.const (.bool false)), type := 4, pos := "law.go:193", after := #[⟨2, .data⟩, ⟨4, .data⟩], guard := none },
  { dst := some 200, op := .move (.tmp 199), type := 4, pos := "law.go:193", after := #[⟨5, .data⟩, ⟨2, .chain⟩], guard := none },
  { dst := some 201, op := .load 36 (.tmp 15), type := 36, pos := "law.go:193", after := #[⟨6, .guard⟩], guard := some (6, true) },
  { dst := some 202, op := .load 36 (.tmp 17), type := 36, pos := "law.go:193", after := #[⟨6, .guard⟩], guard := some (6, true) },
  { dst := some 203, op := .call { callee := .value (.func 44), args := #[.tmp 201, .tmp 202], argTypes := #[36, 36] }, type := 3, pos := "law.go:193", after := #[⟨7, .data⟩, ⟨8, .data⟩, ⟨6, .chain⟩, ⟨6, .guard⟩], guard := some (6, true) },
  { dst := some 204, op := .move (.tmp 9), type := 3, pos := "law.go:193", after := #[⟨6, .guard⟩], guard := some (6, true) },
  { dst := some 205, op := .move (.tmp 4), type := 65, pos := "law.go:193", after := #[⟨6, .guard⟩], guard := some (6, true) },
  { dst := some 206, op := .indexAddr 65 (.tmp 205) (.const (.int .i64 2)), type := 0, pos := "law.go:193", after := #[⟨11, .data⟩, ⟨6, .guard⟩], guard := some (6, true) },
  { dst := some 207, op := .load 36 (.tmp 206), type := 36, pos := "law.go:193", after := #[⟨12, .data⟩, ⟨6, .guard⟩], guard := some (6, true) },
  { dst := some 208, op := .call { callee := .value (.func 42), args := #[.tmp 207], argTypes := #[36] }, type := 3, pos := "law.go:193", after := #[⟨13, .data⟩, ⟨9, .chain⟩, ⟨6, .guard⟩], guard := some (6, true) },
  { dst := some 209, op := .binOp .mul 3 (.tmp 204) (.tmp 208) 3, type := 3, pos := "law.go:193", after := #[⟨10, .data⟩, ⟨14, .data⟩, ⟨6, .guard⟩], guard := some (6, true) },
  { dst := some 210, op := .binOp .neq 3 (.tmp 203) (.tmp 209) 3, type := 4, pos := "law.go:193", after := #[⟨9, .data⟩, ⟨15, .data⟩, ⟨6, .guard⟩], guard := some (6, true) },
  { dst := some 211, op := .pick (.tmp 200) (.tmp 210) (.const (.bool false)), type := 4, pos := "law.go:193", after := #[⟨6, .data⟩, ⟨16, .data⟩], guard := none }]
set_option maxRecDepth 100000 in
set_option maxHeartbeats 2000000 in
theorem or_r28 {Q : Exit → Act → World → Prop} {a0 : Act} {w0 : World} {x0 : Rat} {x1 : Rat} {x2 : Rat} {p4 c4 : Nat} {dQ2 : Bool} {AQ2 : Option Addr} {nQ2 cQ2 : Nat} {eQ2 : Bool} {EQ2 : Option Addr} {mQ2 fQ2 : Nat} {r s : Rat} {p15 : Nat} {d15 : Bool} {A15 : Option Addr} {n15 c15 : Nat} {e15 : Bool} {E15 : Option Addr} {m15 f15 : Nat} {p17 : Nat} {d17 : Bool} {A17 : Option Addr} {n17 c17 : Nat} {e17 : Bool} {E17 : Option Addr} {m17 f17 : Nat} (hN : a0.tmps.size = 268) (t4 : a0.tmps[4]? = some (.slice (some ⟨p4, 0, none⟩) 3 c4)) (Q2 : HoldEQ w0 p4 2 x2 dQ2 AQ2 nQ2 cQ2 eQ2 EQ2 mQ2 fQ2) (l2 : InF x2) (t9 : a0.tmps[9]? = some (.int .i64 (cmpF x0 x1))) (t16 : a0.tmps[16]? = some (.int .i64 0)) (t18 : a0.tmps[18]? = some (.int .i64 0)) (t15 : a0.tmps[15]? = some (.pointer (some ⟨p15, 0, none⟩))) (H15 : HoldQ w0 p15 r d15 A15 n15 c15 e15 E15 m15 f15) (t17 : a0.tmps[17]? = some (.pointer (some ⟨p17, 0, none⟩))) (H17 : HoldQ w0 p17 s d17 A17 n17 c17 e17 E17 m17 f17) (lr : InF r) (ls : InF s) (hm : cmpF r s = cmpF x0 x1 * sgnF x2)
    (hQ : ∀ (w : World) (v194 v195 v196 v197 v198 v199 v200 v201 v202 v203 v204 v205 v206 v207 v208 v209 v210 v211 : Value) , Below w0.heap.size w0 w → (Is (.bool false)) v211 w → Q .normal ⟨([(194, v194), (195, v195), (196, v196), (197, v197), (198, v198), (199, v199), (200, v200), (201, v201), (202, v202), (203, v203), (204, v204), (205, v205), (206, v206), (207, v207), (208, v208), (209, v209), (210, v210), (211, v211)] : List (Nat × Value)).foldl (fun ts p => ts.setIfInBounds p.1 p.2) a0.tmps, a0.defers⟩ w) :
    (Code.region 28 or_r28_ops true).wp Tryz.prog Q a0 w0 := by
  refine wp_region_boxes4' (ty := 0) (cl := [.val 194 (Is (.int .i64 0)), .val 195 (Is (.bool true)), .val 196 (Is (.bool true)), .val 197 (Is (.int .i64 0)), .val 198 (Is (.bool true)), .val 199 (Is (.bool true)), .val 200 (Is (.bool true)), .val 201 (IsQ (r)), .val 202 (IsQ (s)), .val 203 (Is (.int .i64 (cmpF (r) (s)))), .val 204 (Is (.int .i64 (cmpF x0 x1))), .val 205 (Is (.slice (some ⟨p4, 0, none⟩) 3 c4)), .val 206 (Is (.pointer (some ⟨p4, 2 * 4, none⟩))), .val 207 (IsQ (x2)), .val 208 (Is (.int .i64 (sgnF (x2)))), .val 209 (Is (.int .i64 (cmpF x0 x1 * sgnF x2))), .val 210 (Is (.bool false)), .val 211 (Is (.bool false))]) 268 (by kernel_rfl) hN (by kernel_rfl) ?_ ?_ ?_
  · exact ⟨Is.stb4 _ _, Is.stb4 _ _, Is.stb4 _ _, Is.stb4 _ _, Is.stb4 _ _, Is.stb4 _ _, Is.stb4 _ _, IsQ.stb4 _ _, IsQ.stb4 _ _, Is.stb4 _ _, Is.stb4 _ _, Is.stb4 _ _, Is.stb4 _ _, IsQ.stb4 _ _, Is.stb4 _ _, Is.stb4 _ _, Is.stb4 _ _, Is.stb4 _ _, trivial⟩
  · refine ⟨?_, ?_, ?_, ?_, ?_, ?_, ?_, ?_, ?_, ?_, ?_, ?_, ?_, ?_, ?_, ?_, ?_, ?_, trivial⟩
    · intro l ac w h hd K hK
      exact o_move rfl GdOk.none (ev_t ((h.same 16 (not_dst (by kernel_rfl))).trans t16)) (hK _ _ rfl (Below.refl _ _))
    · intro l ac w h hd K hK
      obtain ⟨v0, hv0, rfl⟩ := h.fact 0 _ rfl (dep hd 0 (by kernel_rfl))
      exact o_eqlE rfl GdOk.none (ev_t hv0) rfl (rfl) (hK _ _ rfl (Below.refl _ _))
    · intro l ac w h hd K hK
      obtain ⟨v1, hv1, rfl⟩ := h.fact 1 _ rfl (dep hd 1 (by kernel_rfl))
      exact o_move rfl GdOk.none (ev_t hv1) (hK _ _ rfl (Below.refl _ _))
    · intro l ac w h hd K hK
      obtain ⟨v2, hv2, rfl⟩ := h.fact 2 _ rfl (dep hd 2 (by kernel_rfl))
      exact o_move rfl (GdOk.of (d := 196) rfl rfl hv2) (ev_t ((h.same 18 (not_dst (by kernel_rfl))).trans t18)) (hK _ _ rfl (Below.refl _ _))
    · intro l ac w h hd K hK
      obtain ⟨v2, hv2, rfl⟩ := h.fact 2 _ rfl (dep hd 2 (by kernel_rfl))
      obtain ⟨v3, hv3, rfl⟩ := h.fact 3 _ rfl (dep hd 3 (by kernel_rfl))
      exact o_eqlE rfl (GdOk.of (d := 196) rfl rfl hv2) (ev_t hv3) rfl (rfl) (hK _ _ rfl (Below.refl _ _))
    · intro l ac w h hd K hK
      obtain ⟨v2, hv2, rfl⟩ := h.fact 2 _ rfl (dep hd 2 (by kernel_rfl))
      obtain ⟨v4, hv4, rfl⟩ := h.fact 4 _ rfl (dep hd 4 (by kernel_rfl))
      exact o_pickT rfl GdOk.none (ev_t hv2) (ev_t hv4) (hK _ _ rfl (Below.refl _ _))
    · intro l ac w h hd K hK
      obtain ⟨v5, hv5, rfl⟩ := h.fact 5 _ rfl (dep hd 5 (by kernel_rfl))
      exact o_move rfl GdOk.none (ev_t hv5) (hK _ _ rfl (Below.refl _ _))
    · intro l ac w h hd K hK
      obtain ⟨v6, hv6, rfl⟩ := h.fact 6 _ rfl (dep hd 6 (by kernel_rfl))
      exact o_loadQ rfl (GdOk.of (d := 200) rfl rfl hv6) (ev_t ((h.same 15 (not_dst (by kernel_rfl))).trans t15)) (H15.below h.below).c0 (H15.below h.below).c1 (H15.below h.below).c2 (H15.below h.below).c3 (hK _ _ (H15.below h.below).2 (Below.refl _ _))
    · intro l ac w h hd K hK
      obtain ⟨v6, hv6, rfl⟩ := h.fact 6 _ rfl (dep hd 6 (by kernel_rfl))
      exact o_loadQ rfl (GdOk.of (d := 200) rfl rfl hv6) (ev_t ((h.same 17 (not_dst (by kernel_rfl))).trans t17)) (H17.below h.below).c0 (H17.below h.below).c1 (H17.below h.below).c2 (H17.below h.below).c3 (hK _ _ (H17.below h.below).2 (Below.refl _ _))
    · intro l ac w h hd K hK
      obtain ⟨v6, hv6, rfl⟩ := h.fact 6 _ rfl (dep hd 6 (by kernel_rfl))
      obtain ⟨v7, hv7, hF7⟩ := h.fact 7 _ rfl (dep hd 7 (by kernel_rfl))
      obtain ⟨v8, hv8, hF8⟩ := h.fact 8 _ rfl (dep hd 8 (by kernel_rfl))
      exact o_call2 rfl (GdOk.of (d := 200) rfl rfl hv6) (ev_t hv7) (ev_t hv8) (enters_of Tryz.func44 (by kernel_rfl) rfl) ((fcmp_in hF7 hF8 lr ls).mono fun e w' ⟨he, h2⟩ => ⟨_, he, hK _ _ rfl h2⟩)
    · intro l ac w h hd K hK
      obtain ⟨v6, hv6, rfl⟩ := h.fact 6 _ rfl (dep hd 6 (by kernel_rfl))
      exact o_move rfl (GdOk.of (d := 200) rfl rfl hv6) (ev_t ((h.same 9 (not_dst (by kernel_rfl))).trans t9)) (hK _ _ rfl (Below.refl _ _))
    · intro l ac w h hd K hK
      obtain ⟨v6, hv6, rfl⟩ := h.fact 6 _ rfl (dep hd 6 (by kernel_rfl))
      exact o_move rfl (GdOk.of (d := 200) rfl rfl hv6) (ev_t ((h.same 4 (not_dst (by kernel_rfl))).trans t4)) (hK _ _ rfl (Below.refl _ _))
    · intro l ac w h hd K hK
      obtain ⟨v6, hv6, rfl⟩ := h.fact 6 _ rfl (dep hd 6 (by kernel_rfl))
      obtain ⟨v11, hv11, rfl⟩ := h.fact 11 _ rfl (dep hd 11 (by kernel_rfl))
      exact o_indexQ (i := 2) rfl (GdOk.of (d := 200) rfl rfl hv6) (ev_t hv11) rfl (by omega) (hK _ _ rfl (Below.refl _ _))
    · intro l ac w h hd K hK
      obtain ⟨v6, hv6, rfl⟩ := h.fact 6 _ rfl (dep hd 6 (by kernel_rfl))
      obtain ⟨v12, hv12, rfl⟩ := h.fact 12 _ rfl (dep hd 12 (by kernel_rfl))
      exact o_loadQ rfl (GdOk.of (d := 200) rfl rfl hv6) (ev_t hv12) (Q2.below h.below).c0 (Q2.below h.below).c1 (Q2.below h.below).c2 (Q2.below h.below).c3 (hK _ _ (Q2.below h.below).rep (Below.refl _ _))
    · intro l ac w h hd K hK
      obtain ⟨v6, hv6, rfl⟩ := h.fact 6 _ rfl (dep hd 6 (by kernel_rfl))
      obtain ⟨v13, hv13, hF13⟩ := h.fact 13 _ rfl (dep hd 13 (by kernel_rfl))
      exact o_call1 rfl (GdOk.of (d := 200) rfl rfl hv6) (ev_t hv13) (enters_of Tryz.func42 (by kernel_rfl) rfl) ((fsgn_in hF13 l2).mono fun e w' ⟨he, h2⟩ => ⟨_, he, hK _ _ rfl h2⟩)
    · intro l ac w h hd K hK
      obtain ⟨v6, hv6, rfl⟩ := h.fact 6 _ rfl (dep hd 6 (by kernel_rfl))
      obtain ⟨v10, hv10, rfl⟩ := h.fact 10 _ rfl (dep hd 10 (by kernel_rfl))
      obtain ⟨v14, hv14, rfl⟩ := h.fact 14 _ rfl (dep hd 14 (by kernel_rfl))
      exact o_mul rfl (GdOk.of (d := 200) rfl rfl hv6) (ev_t hv10) (ev_t hv14) (cmp_mulw _ _ _) (hK _ _ rfl (Below.refl _ _))
    · intro l ac w h hd K hK
      obtain ⟨v6, hv6, rfl⟩ := h.fact 6 _ rfl (dep hd 6 (by kernel_rfl))
      obtain ⟨v9, hv9, rfl⟩ := h.fact 9 _ rfl (dep hd 9 (by kernel_rfl))
      obtain ⟨v15, hv15, rfl⟩ := h.fact 15 _ rfl (dep hd 15 (by kernel_rfl))
      exact o_neq rfl (GdOk.of (d := 200) rfl rfl hv6) (ev_t hv9) (ev_t hv15) (by rw [hm]; simp) (hK _ _ rfl (Below.refl _ _))
    · intro l ac w h hd K hK
      obtain ⟨v6, hv6, rfl⟩ := h.fact 6 _ rfl (dep hd 6 (by kernel_rfl))
      obtain ⟨v16, hv16, rfl⟩ := h.fact 16 _ rfl (dep hd 16 (by kernel_rfl))
      exact o_pickT rfl GdOk.none (ev_t hv6) (ev_t hv16) (hK _ _ rfl (Below.refl _ _))
  · intro l ac w h hall
    obtain ⟨v194, q194, r194⟩ := h.fact 0 _ rfl (hall 0 (of_decide_eq_true (by kernel_rfl)))
    obtain ⟨v195, q195, r195⟩ := h.fact 1 _ rfl (hall 1 (of_decide_eq_true (by kernel_rfl)))
    obtain ⟨v196, q196, r196⟩ := h.fact 2 _ rfl (hall 2 (of_decide_eq_true (by kernel_rfl)))
    obtain ⟨v197, q197, r197⟩ := h.fact 3 _ rfl (hall 3 (of_decide_eq_true (by kernel_rfl)))
    obtain ⟨v198, q198, r198⟩ := h.fact 4 _ rfl (hall 4 (of_decide_eq_true (by kernel_rfl)))
    obtain ⟨v199, q199, r199⟩ := h.fact 5 _ rfl (hall 5 (of_decide_eq_true (by kernel_rfl)))
    obtain ⟨v200, q200, r200⟩ := h.fact 6 _ rfl (hall 6 (of_decide_eq_true (by kernel_rfl)))
    obtain ⟨v201, q201, r201⟩ := h.fact 7 _ rfl (hall 7 (of_decide_eq_true (by kernel_rfl)))
    obtain ⟨v202, q202, r202⟩ := h.fact 8 _ rfl (hall 8 (of_decide_eq_true (by kernel_rfl)))
    obtain ⟨v203, q203, r203⟩ := h.fact 9 _ rfl (hall 9 (of_decide_eq_true (by kernel_rfl)))
    obtain ⟨v204, q204, r204⟩ := h.fact 10 _ rfl (hall 10 (of_decide_eq_true (by kernel_rfl)))
    obtain ⟨v205, q205, r205⟩ := h.fact 11 _ rfl (hall 11 (of_decide_eq_true (by kernel_rfl)))
    obtain ⟨v206, q206, r206⟩ := h.fact 12 _ rfl (hall 12 (of_decide_eq_true (by kernel_rfl)))
    obtain ⟨v207, q207, r207⟩ := h.fact 13 _ rfl (hall 13 (of_decide_eq_true (by kernel_rfl)))
    obtain ⟨v208, q208, r208⟩ := h.fact 14 _ rfl (hall 14 (of_decide_eq_true (by kernel_rfl)))
    obtain ⟨v209, q209, r209⟩ := h.fact 15 _ rfl (hall 15 (of_decide_eq_true (by kernel_rfl)))
    obtain ⟨v210, q210, r210⟩ := h.fact 16 _ rfl (hall 16 (of_decide_eq_true (by kernel_rfl)))
    obtain ⟨v211, q211, r211⟩ := h.fact 17 _ rfl (hall 17 (of_decide_eq_true (by kernel_rfl)))
    have ha := act_of [(194, v194), (195, v195), (196, v196), (197, v197), (198, v198), (199, v199), (200, v200), (201, v201), (202, v202), (203, v203), (204, v204), (205, v205), (206, v206), (207, v207), (208, v208), (209, v209), (210, v210), (211, v211)] h.defers h.size (List.forall_mem_cons.2 ⟨q194, List.forall_mem_cons.2 ⟨q195, List.forall_mem_cons.2 ⟨q196, List.forall_mem_cons.2 ⟨q197, List.forall_mem_cons.2 ⟨q198, List.forall_mem_cons.2 ⟨q199, List.forall_mem_cons.2 ⟨q200, List.forall_mem_cons.2 ⟨q201, List.forall_mem_cons.2 ⟨q202, List.forall_mem_cons.2 ⟨q203, List.forall_mem_cons.2 ⟨q204, List.forall_mem_cons.2 ⟨q205, List.forall_mem_cons.2 ⟨q206, List.forall_mem_cons.2 ⟨q207, List.forall_mem_cons.2 ⟨q208, List.forall_mem_cons.2 ⟨q209, List.forall_mem_cons.2 ⟨q210, List.forall_mem_cons.2 ⟨q211, fun _ h => by cases h⟩⟩⟩⟩⟩⟩⟩⟩⟩⟩⟩⟩⟩⟩⟩⟩⟩⟩) (fun t ht => h.same t (fun hm => ht (in_dst (F := [194, 195, 196, 197, 198, 199, 200, 201, 202, 203, 204, 205, 206, 207, 208, 209, 210, 211]) (by kernel_rfl) hm)))
    rw [ha]
    exact hQ w _ _ _ _ _ _ _ _ _ _ _ _ _ _ _ _ _ _ h.below   r211
def or_r30_ops : Array Oper := #[
  { dst := some 213, op := .move (.tmp 4), type := 65, pos := "law.go:196", after := #[], guard := none },
  { dst := some 214, op := .indexAddr 65 (.tmp 213) (.const (.int .i64 0)), type := 0, pos := "law.go:196", after := #[⟨0, .data⟩], guard := none },
  { dst := some 215, op := .load 36 (.tmp 214), type := 36, pos := "law.go:196", after := #[⟨1, .data⟩], guard := none },
  { dst := some 216, op := .call { callee := .value (.func 47), args := #[.tmp 215], argTypes := #[36] }, type := 34, pos := "law.go:196", after := #[⟨2, .data⟩], guard := none },
  { dst := some 217, op := .move (.tmp 4), type := 65, pos := "law.go:196", after := #[], guard := none },
  { dst := some 218, op := .indexAddr 65 (.tmp 217) (.const (.int .i64 1)), type := 0, pos := "law.go:196", after := #[⟨4, .data⟩], guard := none },
  { dst := some 219, op := .load 36 (.tmp 218), type := 36, pos := "law.go:196", after := #[⟨5, .data⟩], guard := none },
  { dst := some 220, op := .call { callee := .value (.func 47), args := #[.tmp 219], argTypes := #[36] }, type := 34, pos := "law.go:196", after := #[⟨6, .data⟩, ⟨3, .chain⟩], guard := none },
  { dst := some 221, op := .call { callee := .value (.func 46), args := #[.tmp 216, .tmp 220], argTypes := #[34, 34] }, type := 70, pos := "law.go:196", after := #[⟨3, .data⟩, ⟨7, .data⟩, ⟨7, .chain⟩], guard := none },
  { dst := some 212, op := .move (.tmp 221), type := 70, pos := "law.go:196", after := #[⟨8, .data⟩], guard := none },
  { dst := some 222, op := .extract (.tmp 212) 0, type := 34, pos := "law.go:196", after := #[⟨9, .data⟩], guard := none },
  { dst := some 223, op := .extract (.tmp 212) 1, type := 37, pos := "law.go:196", after := #[⟨9, .data⟩, ⟨13, .gcOnly .lateStores⟩], guard := none },
  { dst := some 19, op := .alloc 34, type := 0, pos := "law.go:196", after := #[], guard := none },
  { dst := none, op := .store 34 (.tmp 19) (.tmp 222), type := 0, pos := "law.go:196", after := #[⟨12, .data⟩, ⟨10, .data⟩, ⟨8, .chain⟩, ⟨0, .phase⟩, ⟨1, .phase⟩, ⟨2, .phase⟩, ⟨3, .phase⟩, ⟨4, .phase⟩, ⟨5, .phase⟩, ⟨6, .phase⟩, ⟨7, .phase⟩, ⟨8, .phase⟩, ⟨9, .phase⟩, ⟨10, .phase⟩, ⟨11, .textOnly .lateStores⟩, ⟨12, .phase⟩], guard := none },
  { dst := some 20, op := .assign (.tmp 223), type := 37, pos := "law.go:196", after := #[⟨11, .data⟩, ⟨13, .chain⟩, ⟨0, .phase⟩, ⟨1, .phase⟩, ⟨2, .phase⟩, ⟨3, .phase⟩, ⟨4, .phase⟩, ⟨5, .phase⟩, ⟨6, .phase⟩, ⟨7, .phase⟩, ⟨8, .phase⟩, ⟨9, .phase⟩, ⟨10, .phase⟩, ⟨11, .phase⟩, ⟨12, .phase⟩, ⟨13, .phase⟩], guard := none }]
set_option maxRecDepth 100000 in
set_option maxHeartbeats 2000000 in
theorem or_r30 {Q : Exit → Act → World → Prop} {a0 : Act} {w0 : World} {x0 : Rat} {x1 : Rat} {x2 : Rat} {p4 c4 : Nat} {dQ0 : Bool} {AQ0 : Option Addr} {nQ0 cQ0 : Nat} {eQ0 : Bool} {EQ0 : Option Addr} {mQ0 fQ0 : Nat} {dQ1 : Bool} {AQ1 : Option Addr} {nQ1 cQ1 : Nat} {eQ1 : Bool} {EQ1 : Option Addr} {mQ1 fQ1 : Nat}  (hN : a0.tmps.size = 268) (t4 : a0.tmps[4]? = some (.slice (some ⟨p4, 0, none⟩) 3 c4)) (Q0 : HoldEQ w0 p4 0 x0 dQ0 AQ0 nQ0 cQ0 eQ0 EQ0 mQ0 fQ0) (Q1 : HoldEQ w0 p4 1 x1 dQ1 AQ1 nQ1 cQ1 eQ1 EQ1 mQ1 fQ1) (l0 : InF x0) (l1 : InF x1) (bn : InL (x0.num + x1.num))
    (hQ : ∀ (w : World) (v213 v214 v215 v216 v217 v218 v219 v220 v221 v212 v222 v223 v20 : Value) (g19 : Nat) (d19 : Bool) (A19 : Option Addr) (n19 c19 : Nat), Below w0.heap.size w0 w → HoldI w g19 (x0.num + x1.num) d19 A19 n19 c19 → w0.heap.size ≤ g19 → (Is (.int .i64 (0))) v20 w → Q .normal ⟨([(213, v213), (214, v214), (215, v215), (216, v216), (217, v217), (218, v218), (219, v219), (220, v220), (221, v221), (212, v212), (222, v222), (223, v223), (20, v20), (19, .pointer (some ⟨g19, 0, none⟩))] : List (Nat × Value)).foldl (fun ts p => ts.setIfInBounds p.1 p.2) a0.tmps, a0.defers⟩ w) :
    (Code.region 30 or_r30_ops true).wp Tryz.prog Q a0 w0 := by
  refine wp_region_boxes' (ty := 34) (cl := [.val 213 (Is (.slice (some ⟨p4, 0, none⟩) 3 c4)), .val 214 (Is (.pointer (some ⟨p4, 0 * 4, none⟩))), .val 215 (IsQ (x0)), .val 216 (IsI (x0.num)), .val 217 (Is (.slice (some ⟨p4, 0, none⟩) 3 c4)), .val 218 (Is (.pointer (some ⟨p4, 1 * 4, none⟩))), .val 219 (IsQ (x1)), .val 220 (IsI (x1.num)), .val 221 (IsIE (x0.num + x1.num) (0)), .val 212 (IsIE (x0.num + x1.num) (0)), .val 222 (IsI (x0.num + x1.num)), .val 223 (Is (.int .i64 (0))), .new 19, .put 19 (IsI (x0.num + x1.num)), .val 20 (Is (.int .i64 (0)))]) 268 (by kernel_rfl) hN (by kernel_rfl) ?_ ?_ ?_
  · exact ⟨Is.stb _ _, Is.stb _ _, IsQ.stb _ _, IsI.stb _ _, Is.stb _ _, Is.stb _ _, IsQ.stb _ _, IsI.stb _ _, IsIE.stb _ _ _, IsIE.stb _ _ _, IsI.stb _ _, Is.stb _ _, trivial, IsI.stb _ _, Is.stb _ _, trivial⟩
  · refine ⟨?_, ?_, ?_, ?_, ?_, ?_, ?_, ?_, ?_, ?_, ?_, ?_, ?_, ?_, ?_, trivial⟩
    · intro l ac w h hd K hK
      exact o_move rfl GdOk.none (ev_t ((h.same 4 (not_dst (by kernel_rfl))).trans t4)) (hK _ _ rfl (Below.refl _ _))
    · intro l ac w h hd K hK
      obtain ⟨v0, hv0, rfl⟩ := h.fact 0 _ rfl (dep hd 0 (by kernel_rfl))
      exact o_indexQ (i := 0) rfl GdOk.none (ev_t hv0) rfl (by omega) (hK _ _ rfl (Below.refl _ _))
    · intro l ac w h hd K hK
      obtain ⟨v1, hv1, rfl⟩ := h.fact 1 _ rfl (dep hd 1 (by kernel_rfl))
      exact o_loadQ rfl GdOk.none (ev_t hv1) (Q0.below h.below).c0 (Q0.below h.below).c1 (Q0.below h.below).c2 (Q0.below h.below).c3 (hK _ _ (Q0.below h.below).rep (Below.refl _ _))
    · intro l ac w h hd K hK
      obtain ⟨v2, hv2, hF2⟩ := h.fact 2 _ rfl (dep hd 2 (by kernel_rfl))
      exact o_call1 rfl GdOk.none (ev_t hv2) (enters_of Tryz.func47 (by kernel_rfl) rfl) ((num_any _ _ _ hF2).mono fun e w' ⟨v, he, h1, h2⟩ => ⟨_, he, hK _ _ h1 h2⟩)
    · intro l ac w h hd K hK
      exact o_move rfl GdOk.none (ev_t ((h.same 4 (not_dst (by kernel_rfl))).trans t4)) (hK _ _ rfl (Below.refl _ _))
    · intro l ac w h hd K hK
      obtain ⟨v4, hv4, rfl⟩ := h.fact 4 _ rfl (dep hd 4 (by kernel_rfl))
      exact o_indexQ (i := 1) rfl GdOk.none (ev_t hv4) rfl (by omega) (hK _ _ rfl (Below.refl _ _))
    · intro l ac w h hd K hK
      obtain ⟨v5, hv5, rfl⟩ := h.fact 5 _ rfl (dep hd 5 (by kernel_rfl))
      exact o_loadQ rfl GdOk.none (ev_t hv5) (Q1.below h.below).c0 (Q1.below h.below).c1 (Q1.below h.below).c2 (Q1.below h.below).c3 (hK _ _ (Q1.below h.below).rep (Below.refl _ _))
    · intro l ac w h hd K hK
      obtain ⟨v6, hv6, hF6⟩ := h.fact 6 _ rfl (dep hd 6 (by kernel_rfl))
      exact o_call1 rfl GdOk.none (ev_t hv6) (enters_of Tryz.func47 (by kernel_rfl) rfl) ((num_any _ _ _ hF6).mono fun e w' ⟨v, he, h1, h2⟩ => ⟨_, he, hK _ _ h1 h2⟩)
    · intro l ac w h hd K hK
      obtain ⟨v3, hv3, hF3⟩ := h.fact 3 _ rfl (dep hd 3 (by kernel_rfl))
      obtain ⟨v7, hv7, hF7⟩ := h.fact 7 _ rfl (dep hd 7 (by kernel_rfl))
      exact o_call2 rfl GdOk.none (ev_t hv3) (ev_t hv7) (enters_of Tryz.func46 (by kernel_rfl) rfl) ((iadd_fit _ _ _ _ _ _ hF3 hF7 l0.1 l1.1 rfl bn).mono fun e w' ⟨v, he, h1, h2⟩ => ⟨_, he, hK _ _ ⟨v, rfl, h1⟩ h2⟩)
    · intro l ac w h hd K hK
      obtain ⟨v8, hv8, u8, rfl, hF8⟩ := h.fact 8 _ rfl (dep hd 8 (by kernel_rfl))
      exact o_move rfl GdOk.none (ev_t hv8) (hK _ _ ⟨u8, rfl, hF8⟩ (Below.refl _ _))
    · intro l ac w h hd K hK
      obtain ⟨v9, hv9, u9, rfl, hF9⟩ := h.fact 9 _ rfl (dep hd 9 (by kernel_rfl))
      exact o_ext0 rfl GdOk.none (ev_t hv9) (hK _ _ hF9 (Below.refl _ _))
    · intro l ac w h hd K hK
      obtain ⟨v9, hv9, u9, rfl, hF9⟩ := h.fact 9 _ rfl (dep hd 9 (by kernel_rfl))
      exact o_ext1 rfl GdOk.none (ev_t hv9) (hK _ _ rfl (Below.refl _ _))
    · intro ac w K hK
      exact o_allocI rfl GdOk.none hK
    · refine ⟨⟨12, rfl⟩, fun l ac w h hd => ?_⟩
      obtain ⟨g, hg, hlt, e, A, n, c, hB⟩ := h.fact 12 _ rfl (dep hd 12 (by kernel_rfl))
      obtain ⟨v10, hv10, hF10⟩ := h.fact 10 _ rfl (dep hd 10 (by kernel_rfl))
      obtain ⟨d1, A1, n1, c1, rfl⟩ := RepI.shape hF10
      exact ⟨g, d1, A1, n1, c1, e, A, n, c, hg, hlt, hB, hF10, fun K hK => o_store2 (by first | exact Or.inl rfl | exact Or.inr rfl) rfl GdOk.none (ev_t hg) (ev_t hv10) hB hK⟩
    · intro l ac w h hd K hK
      obtain ⟨v11, hv11, rfl⟩ := h.fact 11 _ rfl (dep hd 11 (by kernel_rfl))
      exact o_assign rfl GdOk.none (ev_t hv11) (hK _ _ rfl (Below.refl _ _))
  · intro l ac w h hall
    obtain ⟨v213, q213, r213⟩ := h.fact 0 _ rfl (hall 0 (of_decide_eq_true (by kernel_rfl)))
    obtain ⟨v214, q214, r214⟩ := h.fact 1 _ rfl (hall 1 (of_decide_eq_true (by kernel_rfl)))
    obtain ⟨v215, q215, r215⟩ := h.fact 2 _ rfl (hall 2 (of_decide_eq_true (by kernel_rfl)))
    obtain ⟨v216, q216, r216⟩ := h.fact 3 _ rfl (hall 3 (of_decide_eq_true (by kernel_rfl)))
    obtain ⟨v217, q217, r217⟩ := h.fact 4 _ rfl (hall 4 (of_decide_eq_true (by kernel_rfl)))
    obtain ⟨v218, q218, r218⟩ := h.fact 5 _ rfl (hall 5 (of_decide_eq_true (by kernel_rfl)))
    obtain ⟨v219, q219, r219⟩ := h.fact 6 _ rfl (hall 6 (of_decide_eq_true (by kernel_rfl)))
    obtain ⟨v220, q220, r220⟩ := h.fact 7 _ rfl (hall 7 (of_decide_eq_true (by kernel_rfl)))
    obtain ⟨v221, q221, r221⟩ := h.fact 8 _ rfl (hall 8 (of_decide_eq_true (by kernel_rfl)))
    obtain ⟨v212, q212, r212⟩ := h.fact 9 _ rfl (hall 9 (of_decide_eq_true (by kernel_rfl)))
    obtain ⟨v222, q222, r222⟩ := h.fact 10 _ rfl (hall 10 (of_decide_eq_true (by kernel_rfl)))
    obtain ⟨v223, q223, r223⟩ := h.fact 11 _ rfl (hall 11 (of_decide_eq_true (by kernel_rfl)))
    obtain ⟨v20, q20, r20⟩ := h.fact 14 _ rfl (hall 14 (of_decide_eq_true (by kernel_rfl)))
    obtain ⟨g19, q19, l19, d19, A19, n19, c19, B19, F19⟩ := h.fact 13 _ rfl (hall 13 (of_decide_eq_true (by kernel_rfl)))
    have ha := act_of [(213, v213), (214, v214), (215, v215), (216, v216), (217, v217), (218, v218), (219, v219), (220, v220), (221, v221), (212, v212), (222, v222), (223, v223), (20, v20), (19, .pointer (some ⟨g19, 0, none⟩))] h.defers h.size (List.forall_mem_cons.2 ⟨q213, List.forall_mem_cons.2 ⟨q214, List.forall_mem_cons.2 ⟨q215, List.forall_mem_cons.2 ⟨q216, List.forall_mem_cons.2 ⟨q217, List.forall_mem_cons.2 ⟨q218, List.forall_mem_cons.2 ⟨q219, List.forall_mem_cons.2 ⟨q220, List.forall_mem_cons.2 ⟨q221, List.forall_mem_cons.2 ⟨q212, List.forall_mem_cons.2 ⟨q222, List.forall_mem_cons.2 ⟨q223, List.forall_mem_cons.2 ⟨q20, List.forall_mem_cons.2 ⟨q19, fun _ h => by cases h⟩⟩⟩⟩⟩⟩⟩⟩⟩⟩⟩⟩⟩⟩) (fun t ht => h.same t (fun hm => ht (in_dst (F := [213, 214, 215, 216, 217, 218, 219, 220, 221, 212, 222, 223, 20, 19]) (by kernel_rfl) hm)))
    rw [ha]
    exact hQ w _ _ _ _ _ _ _ _ _ _ _ _ _ _ _ _ _ _ h.below ⟨B19, F19⟩ l19 r20
def or_r31_ops : Array Oper := #[
  { dst := some 225, op := .move (.tmp 4), type := 65, pos := "law.go:197", after := #[], guard := none },
  { dst := some 226, op := .indexAddr 65 (.tmp 225) (.const (.int .i64 0)), type := 0, pos := "law.go:197", after := #[⟨0, .data⟩], guard := none },
  { dst := some 227, op := .load 36 (.tmp 226), type := 36, pos := "law.go:197", after := #[⟨1, .data⟩], guard := none },
  { dst := some 228, op := .call { callee := .value (.func 48), args := #[.tmp 227], argTypes := #[36] }, type := 34, pos := "law.go:197", after := #[⟨2, .data⟩], guard := none },
  { dst := some 229, op := .move (.tmp 4), type := 65, pos := "law.go:197", after := #[], guard := none },
  { dst := some 230, op := .indexAddr 65 (.tmp 229) (.const (.int .i64 1)), type := 0, pos := "law.go:197", after := #[⟨4, .data⟩], guard := none },
  { dst := some 231, op := .load 36 (.tmp 230), type := 36, pos := "law.go:197", after := #[⟨5, .data⟩], guard := none },
  { dst := some 232, op := .call { callee := .value (.func 48), args := #[.tmp 231], argTypes := #[36] }, type := 34, pos := "law.go:197", after := #[⟨6, .data⟩, ⟨3, .chain⟩], guard := none },
  { dst := some 233, op := .call { callee := .value (.func 46), args := #[.tmp 228, .tmp 232], argTypes := #[34, 34] }, type := 70, pos := "law.go:197", after := #[⟨3, .data⟩, ⟨7, .data⟩, ⟨7, .chain⟩], guard := none },
  { dst := some 224, op := .move (.tmp 233), type := 70, pos := "law.go:197", after := #[⟨8, .data⟩], guard := none },
  { dst := some 234, op := .extract (.tmp 224) 0, type := 34, pos := "law.go:197", after := #[⟨9, .data⟩], guard := none },
  { dst := some 235, op := .extract (.tmp 224) 1, type := 37, pos := "law.go:197", after := #[⟨9, .data⟩, ⟨13, .gcOnly .lateStores⟩], guard := none },
  { dst := some 21, op := .alloc 34, type := 0, pos := "law.go:197", after := #[], guard := none },
  { dst := none, op := .store 34 (.tmp 21) (.tmp 234), type := 0, pos := "law.go:197", after := #[⟨12, .data⟩, ⟨10, .data⟩, ⟨8, .chain⟩, ⟨0, .phase⟩, ⟨1, .phase⟩, ⟨2, .phase⟩, ⟨3, .phase⟩, ⟨4, .phase⟩, ⟨5, .phase⟩, ⟨6, .phase⟩, ⟨7, .phase⟩, ⟨8, .phase⟩, ⟨9, .phase⟩, ⟨10, .phase⟩, ⟨11, .textOnly .lateStores⟩, ⟨12, .phase⟩], guard := none },
  { dst := some 22, op := .assign (.tmp 235), type := 37, pos := "law.go:197", after := #[⟨11, .data⟩, ⟨13, .chain⟩, ⟨0, .phase⟩, ⟨1, .phase⟩, ⟨2, .phase⟩, ⟨3, .phase⟩, ⟨4, .phase⟩, ⟨5, .phase⟩, ⟨6, .phase⟩, ⟨7, .phase⟩, ⟨8, .phase⟩, ⟨9, .phase⟩, ⟨10, .phase⟩, ⟨11, .phase⟩, ⟨12, .phase⟩, ⟨13, .phase⟩], guard := none }]
set_option maxRecDepth 100000 in
set_option maxHeartbeats 2000000 in
theorem or_r31 {Q : Exit → Act → World → Prop} {a0 : Act} {w0 : World} {x0 : Rat} {x1 : Rat} {x2 : Rat} {p4 c4 : Nat} {dQ0 : Bool} {AQ0 : Option Addr} {nQ0 cQ0 : Nat} {eQ0 : Bool} {EQ0 : Option Addr} {mQ0 fQ0 : Nat} {dQ1 : Bool} {AQ1 : Option Addr} {nQ1 cQ1 : Nat} {eQ1 : Bool} {EQ1 : Option Addr} {mQ1 fQ1 : Nat}  (hN : a0.tmps.size = 268) (t4 : a0.tmps[4]? = some (.slice (some ⟨p4, 0, none⟩) 3 c4)) (Q0 : HoldEQ w0 p4 0 x0 dQ0 AQ0 nQ0 cQ0 eQ0 EQ0 mQ0 fQ0) (Q1 : HoldEQ w0 p4 1 x1 dQ1 AQ1 nQ1 cQ1 eQ1 EQ1 mQ1 fQ1) (l0 : InF x0) (l1 : InF x1) (bd : InL ((x0.den : Int) + (x1.den : Int)))
    (hQ : ∀ (w : World) (v225 v226 v227 v228 v229 v230 v231 v232 v233 v224 v234 v235 v22 : Value) (g21 : Nat) (d21 : Bool) (A21 : Option Addr) (n21 c21 : Nat), Below w0.heap.size w0 w → HoldI w g21 ((x0.den : Int) + (x1.den : Int)) d21 A21 n21 c21 → w0.heap.size ≤ g21 → (Is (.int .i64 (0))) v22 w → Q .normal ⟨([(225, v225), (226, v226), (227, v227), (228, v228), (229, v229), (230, v230), (231, v231), (232, v232), (233, v233), (224, v224), (234, v234), (235, v235), (22, v22), (21, .pointer (some ⟨g21, 0, none⟩))] : List (Nat × Value)).foldl (fun ts p => ts.setIfInBounds p.1 p.2) a0.tmps, a0.defers⟩ w) :
    (Code.region 31 or_r31_ops true).wp Tryz.prog Q a0 w0 := by
  refine wp_region_boxes' (ty := 34) (cl := [.val 225 (Is (.slice (some ⟨p4, 0, none⟩) 3 c4)), .val 226 (Is (.pointer (some ⟨p4, 0 * 4, none⟩))), .val 227 (IsQ (x0)), .val 228 (IsI ((x0.den : Int))), .val 229 (Is (.slice (some ⟨p4, 0, none⟩) 3 c4)), .val 230 (Is (.pointer (some ⟨p4, 1 * 4, none⟩))), .val 231 (IsQ (x1)), .val 232 (IsI ((x1.den : Int))), .val 233 (IsIE ((x0.den : Int) + (x1.den : Int)) (0)), .val 224 (IsIE ((x0.den : Int) + (x1.den : Int)) (0)), .val 234 (IsI ((x0.den : Int) + (x1.den : Int))), .val 235 (Is (.int .i64 (0))), .new 21, .put 21 (IsI ((x0.den : Int) + (x1.den : Int))), .val 22 (Is (.int .i64 (0)))]) 268 (by kernel_rfl) hN (by kernel_rfl) ?_ ?_ ?_
  · exact ⟨Is.stb _ _, Is.stb _ _, IsQ.stb _ _, IsI.stb _ _, Is.stb _ _, Is.stb _ _, IsQ.stb _ _, IsI.stb _ _, IsIE.stb _ _ _, IsIE.stb _ _ _, IsI.stb _ _, Is.stb _ _, trivial, IsI.stb _ _, Is.stb _ _, trivial⟩
  · refine ⟨?_, ?_, ?_, ?_, ?_, ?_, ?_, ?_, ?_, ?_, ?_, ?_, ?_, ?_, ?_, trivial⟩
    · intro l ac w h hd K hK
      exact o_move rfl GdOk.none (ev_t ((h.same 4 (not_dst (by kernel_rfl))).trans t4)) (hK _ _ rfl (Below.refl _ _))
    · intro l ac w h hd K hK
      obtain ⟨v0, hv0, rfl⟩ := h.fact 0 _ rfl (dep hd 0 (by kernel_rfl))
      exact o_indexQ (i := 0) rfl GdOk.none (ev_t hv0) rfl (by omega) (hK _ _ rfl (Below.refl _ _))
    · intro l ac w h hd K hK
      obtain ⟨v1, hv1, rfl⟩ := h.fact 1 _ rfl (dep hd 1 (by kernel_rfl))
      exact o_loadQ rfl GdOk.none (ev_t hv1) (Q0.below h.below).c0 (Q0.below h.below).c1 (Q0.below h.below).c2 (Q0.below h.below).c3 (hK _ _ (Q0.below h.below).rep (Below.refl _ _))
    · intro l ac w h hd K hK
      obtain ⟨v2, hv2, hF2⟩ := h.fact 2 _ rfl (dep hd 2 (by kernel_rfl))
      exact o_call1 rfl GdOk.none (ev_t hv2) (enters_of Tryz.func48 (by kernel_rfl) rfl) ((den_any _ _ _ hF2 l0).mono fun e w' ⟨v, he, h1, h2⟩ => ⟨_, he, hK _ _ h1 h2⟩)
    · intro l ac w h hd K hK
      exact o_move rfl GdOk.none (ev_t ((h.same 4 (not_dst (by kernel_rfl))).trans t4)) (hK _ _ rfl (Below.refl _ _))
    · intro l ac w h hd K hK
      obtain ⟨v4, hv4, rfl⟩ := h.fact 4 _ rfl (dep hd 4 (by kernel_rfl))
      exact o_indexQ (i := 1) rfl GdOk.none (ev_t hv4) rfl (by omega) (hK _ _ rfl (Below.refl _ _))
    · intro l ac w h hd K hK
      obtain ⟨v5, hv5, rfl⟩ := h.fact 5 _ rfl (dep hd 5 (by kernel_rfl))
      exact o_loadQ rfl GdOk.none (ev_t hv5) (Q1.below h.below).c0 (Q1.below h.below).c1 (Q1.below h.below).c2 (Q1.below h.below).c3 (hK _ _ (Q1.below h.below).rep (Below.refl _ _))
    · intro l ac w h hd K hK
      obtain ⟨v6, hv6, hF6⟩ := h.fact 6 _ rfl (dep hd 6 (by kernel_rfl))
      exact o_call1 rfl GdOk.none (ev_t hv6) (enters_of Tryz.func48 (by kernel_rfl) rfl) ((den_any _ _ _ hF6 l1).mono fun e w' ⟨v, he, h1, h2⟩ => ⟨_, he, hK _ _ h1 h2⟩)
    · intro l ac w h hd K hK
      obtain ⟨v3, hv3, hF3⟩ := h.fact 3 _ rfl (dep hd 3 (by kernel_rfl))
      obtain ⟨v7, hv7, hF7⟩ := h.fact 7 _ rfl (dep hd 7 (by kernel_rfl))
      exact o_call2 rfl GdOk.none (ev_t hv3) (ev_t hv7) (enters_of Tryz.func46 (by kernel_rfl) rfl) ((iadd_fit _ _ _ _ _ _ hF3 hF7 (den_lim l0) (den_lim l1) rfl bd).mono fun e w' ⟨v, he, h1, h2⟩ => ⟨_, he, hK _ _ ⟨v, rfl, h1⟩ h2⟩)
    · intro l ac w h hd K hK
      obtain ⟨v8, hv8, u8, rfl, hF8⟩ := h.fact 8 _ rfl (dep hd 8 (by kernel_rfl))
      exact o_move rfl GdOk.none (ev_t hv8) (hK _ _ ⟨u8, rfl, hF8⟩ (Below.refl _ _))
    · intro l ac w h hd K hK
      obtain ⟨v9, hv9, u9, rfl, hF9⟩ := h.fact 9 _ rfl (dep hd 9 (by kernel_rfl))
      exact o_ext0 rfl GdOk.none (ev_t hv9) (hK _ _ hF9 (Below.refl _ _))
    · intro l ac w h hd K hK
      obtain ⟨v9, hv9, u9, rfl, hF9⟩ := h.fact 9 _ rfl (dep hd 9 (by kernel_rfl))
      exact o_ext1 rfl GdOk.none (ev_t hv9) (hK _ _ rfl (Below.refl _ _))
    · intro ac w K hK
      exact o_allocI rfl GdOk.none hK
    · refine ⟨⟨12, rfl⟩, fun l ac w h hd => ?_⟩
      obtain ⟨g, hg, hlt, e, A, n, c, hB⟩ := h.fact 12 _ rfl (dep hd 12 (by kernel_rfl))
      obtain ⟨v10, hv10, hF10⟩ := h.fact 10 _ rfl (dep hd 10 (by kernel_rfl))
      obtain ⟨d1, A1, n1, c1, rfl⟩ := RepI.shape hF10
      exact ⟨g, d1, A1, n1, c1, e, A, n, c, hg, hlt, hB, hF10, fun K hK => o_store2 (by first | exact Or.inl rfl | exact Or.inr rfl) rfl GdOk.none (ev_t hg) (ev_t hv10) hB hK⟩
    · intro l ac w h hd K hK
      obtain ⟨v11, hv11, rfl⟩ := h.fact 11 _ rfl (dep hd 11 (by kernel_rfl))
      exact o_assign rfl GdOk.none (ev_t hv11) (hK _ _ rfl (Below.refl _ _))
  · intro l ac w h hall
    obtain ⟨v225, q225, r225⟩ := h.fact 0 _ rfl (hall 0 (of_decide_eq_true (by kernel_rfl)))
    obtain ⟨v226, q226, r226⟩ := h.fact 1 _ rfl (hall 1 (of_decide_eq_true (by kernel_rfl)))
    obtain ⟨v227, q227, r227⟩ := h.fact 2 _ rfl (hall 2 (of_decide_eq_true (by kernel_rfl)))
    obtain ⟨v228, q228, r228⟩ := h.fact 3 _ rfl (hall 3 (of_decide_eq_true (by kernel_rfl)))
    obtain ⟨v229, q229, r229⟩ := h.fact 4 _ rfl (hall 4 (of_decide_eq_true (by kernel_rfl)))
    obtain ⟨v230, q230, r230⟩ := h.fact 5 _ rfl (hall 5 (of_decide_eq_true (by kernel_rfl)))
    obtain ⟨v231, q231, r231⟩ := h.fact 6 _ rfl (hall 6 (of_decide_eq_true (by kernel_rfl)))
    obtain ⟨v232, q232, r232⟩ := h.fact 7 _ rfl (hall 7 (of_decide_eq_true (by kernel_rfl)))
    obtain ⟨v233, q233, r233⟩ := h.fact 8 _ rfl (hall 8 (of_decide_eq_true (by kernel_rfl)))
    obtain ⟨v224, q224, r224⟩ := h.fact 9 _ rfl (hall 9 (of_decide_eq_true (by kernel_rfl)))
    obtain ⟨v234, q234, r234⟩ := h.fact 10 _ rfl (hall 10 (of_decide_eq_true (by kernel_rfl)))
    obtain ⟨v235, q235, r235⟩ := h.fact 11 _ rfl (hall 11 (of_decide_eq_true (by kernel_rfl)))
    obtain ⟨v22, q22, r22⟩ := h.fact 14 _ rfl (hall 14 (of_decide_eq_true (by kernel_rfl)))
    obtain ⟨g21, q21, l21, d21, A21, n21, c21, B21, F21⟩ := h.fact 13 _ rfl (hall 13 (of_decide_eq_true (by kernel_rfl)))
    have ha := act_of [(225, v225), (226, v226), (227, v227), (228, v228), (229, v229), (230, v230), (231, v231), (232, v232), (233, v233), (224, v224), (234, v234), (235, v235), (22, v22), (21, .pointer (some ⟨g21, 0, none⟩))] h.defers h.size (List.forall_mem_cons.2 ⟨q225, List.forall_mem_cons.2 ⟨q226, List.forall_mem_cons.2 ⟨q227, List.forall_mem_cons.2 ⟨q228, List.forall_mem_cons.2 ⟨q229, List.forall_mem_cons.2 ⟨q230, List.forall_mem_cons.2 ⟨q231, List.forall_mem_cons.2 ⟨q232, List.forall_mem_cons.2 ⟨q233, List.forall_mem_cons.2 ⟨q224, List.forall_mem_cons.2 ⟨q234, List.forall_mem_cons.2 ⟨q235, List.forall_mem_cons.2 ⟨q22, List.forall_mem_cons.2 ⟨q21, fun _ h => by cases h⟩⟩⟩⟩⟩⟩⟩⟩⟩⟩⟩⟩⟩⟩) (fun t ht => h.same t (fun hm => ht (in_dst (F := [225, 226, 227, 228, 229, 230, 231, 232, 233, 224, 234, 235, 22, 21]) (by kernel_rfl) hm)))
    rw [ha]
    exact hQ w _ _ _ _ _ _ _ _ _ _ _ _ _ _ _ _ _ _ h.below ⟨B21, F21⟩ l21 r22
def or_r35_ops : Array Oper := #[
  { dst := some 249, op := .move (.tmp 4), type := 65, pos := "law.go:202", after := #[], guard := none },
  { dst := some 250, op := .indexAddr 65 (.tmp 249) (.const (.int .i64 0)), type := 0, pos := "law.go:202", after := #[⟨0, .data⟩], guard := none },
  { dst := some 251, op := .load 36 (.tmp 250), type := 36, pos := "law.go:202", after := #[⟨1, .data⟩], guard := none },
  { dst := some 252, op := .load 36 (.tmp 23), type := 36, pos := "law.go:202", after := #[], guard := none },
  { dst := some 253, op := .call { callee := .value (.func 44), args := #[.tmp 251, .tmp 252], argTypes := #[36, 36] }, type := 3, pos := "law.go:202", after := #[⟨2, .data⟩, ⟨3, .data⟩], guard := none },
  { dst := some 254, op := .move (.tmp 9), type := 3, pos := "law.go:202", after := #[], guard := none },
  { dst := some 255, op := .binOp .eql 3 (.tmp 253) (.tmp 254) 3, type := 4, pos := "law.go:202", after := #[⟨4, .data⟩, ⟨5, .data⟩], guard := none },
  { dst := some 256, op := .move (.tmp 255), type := 4, pos := "law.go:202", after := #[⟨6, .data⟩, ⟨4, .chain⟩], guard := none },
  { dst := some 257, op := .load 36 (.tmp 23), type := 36, pos := "law.go:202", after := #[⟨7, .guard⟩], guard := some (7, true) },
  { dst := some 258, op := .move (.tmp 4), type := 65, pos := "law.go:202", after := #[⟨7, .guard⟩], guard := some (7, true) },
  { dst := some 259, op := .indexAddr 65 (.tmp 258) (.const (.int .i64 1)), type := 0, pos := "law.go:202", after := #[⟨9, .data⟩, ⟨7, .guard⟩], guard := some (7, true) },
  { dst := some 260, op := .load 36 (.tmp 259), type := 36, pos := "law.go:202", after := #[⟨10, .data⟩, ⟨7, .guard⟩], guard := some (7, true) },
  { dst := some 261, op := .call { callee := .value (.func 44), args := #[.tmp 257, .tmp 260], argTypes := #[36, 36] }, type := 3, pos := "law.go:202", after := #[⟨8, .data⟩, ⟨11, .data⟩, ⟨7, .chain⟩, ⟨7, .guard⟩], guard := some (7, true) },
  { dst := some 262, op := .move (.tmp 9), type := 3, pos := "law.go:202", after := #[⟨7, .guard⟩], guard := some (7, true) },
  { dst := some 263, op := .binOp .eql 3 (.tmp 261) (.tmp 262) 3, type := 4, pos := "law.go:202", after := #[⟨12, .data⟩, ⟨13, .data⟩, ⟨7, .guard⟩], guard := some (7, true) },
  { dst := some 264, op := .pick (.tmp 256) (.tmp 263) (.const (.bool false)), type := 4, pos := "law.go:202", after := #[⟨7, .data⟩, ⟨14, .data⟩], guard := none },
  { dst := some 265, op := .move (.tmp 264), type := 4, pos := "law.go:202", after := #[⟨15, .data⟩, ⟨12, .chain⟩], guard := none },
  { dst := some 266, op := .call { callee := .value (.func 24), args := #[], argTypes := #[] }, type := 4, pos := "law.go:202", after := #[⟨16, .chain⟩, ⟨16, .guard⟩], guard := some (16, true) },
  { dst := some 267, op := .pick (.tmp 265) (.tmp 266) (.const (.bool false)), type := 4, pos := "law.go:202", after := #[⟨16, .data⟩, ⟨17, .data⟩], guard := none },
  { dst := some 2, op := .assign (.tmp 267), type := 4, pos := "law.go:202", after := #[⟨18, .data⟩, ⟨17, .chain⟩, ⟨0, .phase⟩, ⟨1, .phase⟩, ⟨2, .phase⟩, ⟨3, .phase⟩, ⟨4, .phase⟩, ⟨5, .phase⟩, ⟨6, .phase⟩, ⟨7, .phase⟩, ⟨8, .phase⟩, ⟨9, .phase⟩, ⟨10, .phase⟩, ⟨11, .phase⟩, ⟨12, .phase⟩, ⟨13, .phase⟩, ⟨14, .phase⟩, ⟨15, .phase⟩, ⟨16, .phase⟩, ⟨17, .phase⟩, ⟨18, .phase⟩], guard := none }]
set_option maxRecDepth 100000 in
set_option maxHeartbeats 2000000 in
theorem or_r35 {Q : Exit → Act → World → Prop} {a0 : Act} {w0 : World} {x0 : Rat} {x1 : Rat} {x2 : Rat} {p4 c4 : Nat} {dQ0 : Bool} {AQ0 : Option Addr} {nQ0 cQ0 : Nat} {eQ0 : Bool} {EQ0 : Option Addr} {mQ0 fQ0 : Nat} {dQ1 : Bool} {AQ1 : Option Addr} {nQ1 cQ1 : Nat} {eQ1 : Bool} {EQ1 : Option Addr} {mQ1 fQ1 : Nat} {m : Rat} {p23 : Nat} {d23 : Bool} {A23 : Option Addr} {n23 c23 : Nat} {e23 : Bool} {E23 : Option Addr} {m23 f23 : Nat} (hN : a0.tmps.size = 268) (t4 : a0.tmps[4]? = some (.slice (some ⟨p4, 0, none⟩) 3 c4)) (Q0 : HoldEQ w0 p4 0 x0 dQ0 AQ0 nQ0 cQ0 eQ0 EQ0 mQ0 fQ0) (Q1 : HoldEQ w0 p4 1 x1 dQ1 AQ1 nQ1 cQ1 eQ1 EQ1 mQ1 fQ1) (l0 : InF x0) (l1 : InF x1) (t9 : a0.tmps[9]? = some (.int .i64 (cmpF x0 x1))) (t23 : a0.tmps[23]? = some (.pointer (some ⟨p23, 0, none⟩))) (H23 : HoldQ w0 p23 m d23 A23 n23 c23 e23 E23 m23 f23) (lm : InF m) (m1 : cmpF x0 m = cmpF x0 x1) (m2 : cmpF m x1 = cmpF x0 x1)
    (hQ : ∀ (w : World) (v249 v250 v251 v252 v253 v254 v255 v256 v257 v258 v259 v260 v261 v262 v263 v264 v265 v266 v267 v2 : Value) , Below w0.heap.size w0 w → (Is (.bool true)) v2 w → Q .normal ⟨([(249, v249), (250, v250), (251, v251), (252, v252), (253, v253), (254, v254), (255, v255), (256, v256), (257, v257), (258, v258), (259, v259), (260, v260), (261, v261), (262, v262), (263, v263), (264, v264), (265, v265), (266, v266), (267, v267), (2, v2)] : List (Nat × Value)).foldl (fun ts p => ts.setIfInBounds p.1 p.2) a0.tmps, a0.defers⟩ w) :
    (Code.region 35 or_r35_ops true).wp Tryz.prog Q a0 w0 := by
  refine wp_region_boxes4' (ty := 0) (cl := [.val 249 (Is (.slice (some ⟨p4, 0, none⟩) 3 c4)), .val 250 (Is (.pointer (some ⟨p4, 0 * 4, none⟩))), .val 251 (IsQ (x0)), .val 252 (IsQ (m)), .val 253 (Is (.int .i64 (cmpF (x0) (m)))), .val 254 (Is (.int .i64 (cmpF x0 x1))), .val 255 (Is (.bool true)), .val 256 (Is (.bool true)), .val 257 (IsQ (m)), .val 258 (Is (.slice (some ⟨p4, 0, none⟩) 3 c4)), .val 259 (Is (.pointer (some ⟨p4, 1 * 4, none⟩))), .val 260 (IsQ (x1)), .val 261 (Is (.int .i64 (cmpF (m) (x1)))), .val 262 (Is (.int .i64 (cmpF x0 x1))), .val 263 (Is (.bool true)), .val 264 (Is (.bool true)), .val 265 (Is (.bool true)), .val 266 (Is (.bool true)), .val 267 (Is (.bool true)), .val 2 (Is (.bool true))]) 268 (by kernel_rfl) hN (by kernel_rfl) ?_ ?_ ?_
  · exact ⟨Is.stb4 _ _, Is.stb4 _ _, IsQ.stb4 _ _, IsQ.stb4 _ _, Is.stb4 _ _, Is.stb4 _ _, Is.stb4 _ _, Is.stb4 _ _, IsQ.stb4 _ _, Is.stb4 _ _, Is.stb4 _ _, IsQ.stb4 _ _, Is.stb4 _ _, Is.stb4 _ _, Is.stb4 _ _, Is.stb4 _ _, Is.stb4 _ _, Is.stb4 _ _, Is.stb4 _ _, Is.stb4 _ _, trivial⟩
  · refine ⟨?_, ?_, ?_, ?_, ?_, ?_, ?_, ?_, ?_, ?_, ?_, ?_, ?_, ?_, ?_, ?_, ?_, ?_, ?_, ?_, trivial⟩
    · intro l ac w h hd K hK
      exact o_move rfl GdOk.none (ev_t ((h.same 4 (not_dst (by kernel_rfl))).trans t4)) (hK _ _ rfl (Below.refl _ _))
    · intro l ac w h hd K hK
      obtain ⟨v0, hv0, rfl⟩ := h.fact 0 _ rfl (dep hd 0 (by kernel_rfl))
      exact o_indexQ (i := 0) rfl GdOk.none (ev_t hv0) rfl (by omega) (hK _ _ rfl (Below.refl _ _))
    · intro l ac w h hd K hK
      obtain ⟨v1, hv1, rfl⟩ := h.fact 1 _ rfl (dep hd 1 (by kernel_rfl))
      exact o_loadQ rfl GdOk.none (ev_t hv1) (Q0.below h.below).c0 (Q0.below h.below).c1 (Q0.below h.below).c2 (Q0.below h.below).c3 (hK _ _ (Q0.below h.below).rep (Below.refl _ _))
    · intro l ac w h hd K hK
      exact o_loadQ rfl GdOk.none (ev_t ((h.same 23 (not_dst (by kernel_rfl))).trans t23)) (H23.below h.below).c0 (H23.below h.below).c1 (H23.below h.below).c2 (H23.below h.below).c3 (hK _ _ (H23.below h.below).2 (Below.refl _ _))
    · intro l ac w h hd K hK
      obtain ⟨v2, hv2, hF2⟩ := h.fact 2 _ rfl (dep hd 2 (by kernel_rfl))
      obtain ⟨v3, hv3, hF3⟩ := h.fact 3 _ rfl (dep hd 3 (by kernel_rfl))
      exact o_call2 rfl GdOk.none (ev_t hv2) (ev_t hv3) (enters_of Tryz.func44 (by kernel_rfl) rfl) ((fcmp_in hF2 hF3 l0 lm).mono fun e w' ⟨he, h2⟩ => ⟨_, he, hK _ _ rfl h2⟩)
    · intro l ac w h hd K hK
      exact o_move rfl GdOk.none (ev_t ((h.same 9 (not_dst (by kernel_rfl))).trans t9)) (hK _ _ rfl (Below.refl _ _))
    · intro l ac w h hd K hK
      obtain ⟨v4, hv4, rfl⟩ := h.fact 4 _ rfl (dep hd 4 (by kernel_rfl))
      obtain ⟨v5, hv5, rfl⟩ := h.fact 5 _ rfl (dep hd 5 (by kernel_rfl))
      exact o_eql rfl GdOk.none (ev_t hv4) (ev_t hv5) (by rw [m1]; simp) (hK _ _ rfl (Below.refl _ _))
    · intro l ac w h hd K hK
      obtain ⟨v6, hv6, rfl⟩ := h.fact 6 _ rfl (dep hd 6 (by kernel_rfl))
      exact o_move rfl GdOk.none (ev_t hv6) (hK _ _ rfl (Below.refl _ _))
    · intro l ac w h hd K hK
      obtain ⟨v7, hv7, rfl⟩ := h.fact 7 _ rfl (dep hd 7 (by kernel_rfl))
      exact o_loadQ rfl (GdOk.of (d := 256) rfl rfl hv7) (ev_t ((h.same 23 (not_dst (by kernel_rfl))).trans t23)) (H23.below h.below).c0 (H23.below h.below).c1 (H23.below h.below).c2 (H23.below h.below).c3 (hK _ _ (H23.below h.below).2 (Below.refl _ _))
    · intro l ac w h hd K hK
      obtain ⟨v7, hv7, rfl⟩ := h.fact 7 _ rfl (dep hd 7 (by kernel_rfl))
      exact o_move rfl (GdOk.of (d := 256) rfl rfl hv7) (ev_t ((h.same 4 (not_dst (by kernel_rfl))).trans t4)) (hK _ _ rfl (Below.refl _ _))
    · intro l ac w h hd K hK
      obtain ⟨v7, hv7, rfl⟩ := h.fact 7 _ rfl (dep hd 7 (by kernel_rfl))
      obtain ⟨v9, hv9, rfl⟩ := h.fact 9 _ rfl (dep hd 9 (by kernel_rfl))
      exact o_indexQ (i := 1) rfl (GdOk.of (d := 256) rfl rfl hv7) (ev_t hv9) rfl (by omega) (hK _ _ rfl (Below.refl _ _))
    · intro l ac w h hd K hK
      obtain ⟨v7, hv7, rfl⟩ := h.fact 7 _ rfl (dep hd 7 (by kernel_rfl))
      obtain ⟨v10, hv10, rfl⟩ := h.fact 10 _ rfl (dep hd 10 (by kernel_rfl))
      exact o_loadQ rfl (GdOk.of (d := 256) rfl rfl hv7) (ev_t hv10) (Q1.below h.below).c0 (Q1.below h.below).c1 (Q1.below h.below).c2 (Q1.below h.below).c3 (hK _ _ (Q1.below h.below).rep (Below.refl _ _))
    · intro l ac w h hd K hK
      obtain ⟨v7, hv7, rfl⟩ := h.fact 7 _ rfl (dep hd 7 (by kernel_rfl))
      obtain ⟨v8, hv8, hF8⟩ := h.fact 8 _ rfl (dep hd 8 (by kernel_rfl))
      obtain ⟨v11, hv11, hF11⟩ := h.fact 11 _ rfl (dep hd 11 (by kernel_rfl))
      exact o_call2 rfl (GdOk.of (d := 256) rfl rfl hv7) (ev_t hv8) (ev_t hv11) (enters_of Tryz.func44 (by kernel_rfl) rfl) ((fcmp_in hF8 hF11 lm l1).mono fun e w' ⟨he, h2⟩ => ⟨_, he, hK _ _ rfl h2⟩)
    · intro l ac w h hd K hK
      obtain ⟨v7, hv7, rfl⟩ := h.fact 7 _ rfl (dep hd 7 (by kernel_rfl))
      exact o_move rfl (GdOk.of (d := 256) rfl rfl hv7) (ev_t ((h.same 9 (not_dst (by kernel_rfl))).trans t9)) (hK _ _ rfl (Below.refl _ _))
    · intro l ac w h hd K hK
      obtain ⟨v7, hv7, rfl⟩ := h.fact 7 _ rfl (dep hd 7 (by kernel_rfl))
      obtain ⟨v12, hv12, rfl⟩ := h.fact 12 _ rfl (dep hd 12 (by kernel_rfl))
      obtain ⟨v13, hv13, rfl⟩ := h.fact 13 _ rfl (dep hd 13 (by kernel_rfl))
      exact o_eql rfl (GdOk.of (d := 256) rfl rfl hv7) (ev_t hv12) (ev_t hv13) (by rw [m2]; simp) (hK _ _ rfl (Below.refl _ _))
    · intro l ac w h hd K hK
      obtain ⟨v7, hv7, rfl⟩ := h.fact 7 _ rfl (dep hd 7 (by kernel_rfl))
      obtain ⟨v14, hv14, rfl⟩ := h.fact 14 _ rfl (dep hd 14 (by kernel_rfl))
      exact o_pickT rfl GdOk.none (ev_t hv7) (ev_t hv14) (hK _ _ rfl (Below.refl _ _))
    · intro l ac w h hd K hK
      obtain ⟨v15, hv15, rfl⟩ := h.fact 15 _ rfl (dep hd 15 (by kernel_rfl))
      exact o_move rfl GdOk.none (ev_t hv15) (hK _ _ rfl (Below.refl _ _))
    · intro l ac w h hd K hK
      obtain ⟨v16, hv16, rfl⟩ := h.fact 16 _ rfl (dep hd 16 (by kernel_rfl))
      exact o_call0 rfl (GdOk.of (d := 265) rfl rfl hv16)  (enters_of Tryz.func24 (by kernel_rfl) rfl) ((lives_law _).mono fun e w' ⟨he, h2⟩ => ⟨_, he, hK _ _ rfl h2⟩)
    · intro l ac w h hd K hK
      obtain ⟨v16, hv16, rfl⟩ := h.fact 16 _ rfl (dep hd 16 (by kernel_rfl))
      obtain ⟨v17, hv17, rfl⟩ := h.fact 17 _ rfl (dep hd 17 (by kernel_rfl))
      exact o_pickT rfl GdOk.none (ev_t hv16) (ev_t hv17) (hK _ _ rfl (Below.refl _ _))
    · intro l ac w h hd K hK
      obtain ⟨v18, hv18, rfl⟩ := h.fact 18 _ rfl (dep hd 18 (by kernel_rfl))
      exact o_assign rfl GdOk.none (ev_t hv18) (hK _ _ rfl (Below.refl _ _))
  · intro l ac w h hall
    obtain ⟨v249, q249, r249⟩ := h.fact 0 _ rfl (hall 0 (of_decide_eq_true (by kernel_rfl)))
    obtain ⟨v250, q250, r250⟩ := h.fact 1 _ rfl (hall 1 (of_decide_eq_true (by kernel_rfl)))
    obtain ⟨v251, q251, r251⟩ := h.fact 2 _ rfl (hall 2 (of_decide_eq_true (by kernel_rfl)))
    obtain ⟨v252, q252, r252⟩ := h.fact 3 _ rfl (hall 3 (of_decide_eq_true (by kernel_rfl)))
    obtain ⟨v253, q253, r253⟩ := h.fact 4 _ rfl (hall 4 (of_decide_eq_true (by kernel_rfl)))
    obtain ⟨v254, q254, r254⟩ := h.fact 5 _ rfl (hall 5 (of_decide_eq_true (by kernel_rfl)))
    obtain ⟨v255, q255, r255⟩ := h.fact 6 _ rfl (hall 6 (of_decide_eq_true (by kernel_rfl)))
    obtain ⟨v256, q256, r256⟩ := h.fact 7 _ rfl (hall 7 (of_decide_eq_true (by kernel_rfl)))
    obtain ⟨v257, q257, r257⟩ := h.fact 8 _ rfl (hall 8 (of_decide_eq_true (by kernel_rfl)))
    obtain ⟨v258, q258, r258⟩ := h.fact 9 _ rfl (hall 9 (of_decide_eq_true (by kernel_rfl)))
    obtain ⟨v259, q259, r259⟩ := h.fact 10 _ rfl (hall 10 (of_decide_eq_true (by kernel_rfl)))
    obtain ⟨v260, q260, r260⟩ := h.fact 11 _ rfl (hall 11 (of_decide_eq_true (by kernel_rfl)))
    obtain ⟨v261, q261, r261⟩ := h.fact 12 _ rfl (hall 12 (of_decide_eq_true (by kernel_rfl)))
    obtain ⟨v262, q262, r262⟩ := h.fact 13 _ rfl (hall 13 (of_decide_eq_true (by kernel_rfl)))
    obtain ⟨v263, q263, r263⟩ := h.fact 14 _ rfl (hall 14 (of_decide_eq_true (by kernel_rfl)))
    obtain ⟨v264, q264, r264⟩ := h.fact 15 _ rfl (hall 15 (of_decide_eq_true (by kernel_rfl)))
    obtain ⟨v265, q265, r265⟩ := h.fact 16 _ rfl (hall 16 (of_decide_eq_true (by kernel_rfl)))
    obtain ⟨v266, q266, r266⟩ := h.fact 17 _ rfl (hall 17 (of_decide_eq_true (by kernel_rfl)))
    obtain ⟨v267, q267, r267⟩ := h.fact 18 _ rfl (hall 18 (of_decide_eq_true (by kernel_rfl)))
    obtain ⟨v2, q2, r2⟩ := h.fact 19 _ rfl (hall 19 (of_decide_eq_true (by kernel_rfl)))
    have ha := act_of [(249, v249), (250, v250), (251, v251), (252, v252), (253, v253), (254, v254), (255, v255), (256, v256), (257, v257), (258, v258), (259, v259), (260, v260), (261, v261), (262, v262), (263, v263), (264, v264), (265, v265), (266, v266), (267, v267), (2, v2)] h.defers h.size (List.forall_mem_cons.2 ⟨q249, List.forall_mem_cons.2 ⟨q250, List.forall_mem_cons.2 ⟨q251, List.forall_mem_cons.2 ⟨q252, List.forall_mem_cons.2 ⟨q253, List.forall_mem_cons.2 ⟨q254, List.forall_mem_cons.2 ⟨q255, List.forall_mem_cons.2 ⟨q256, List.forall_mem_cons.2 ⟨q257, List.forall_mem_cons.2 ⟨q258, List.forall_mem_cons.2 ⟨q259, List.forall_mem_cons.2 ⟨q260, List.forall_mem_cons.2 ⟨q261, List.forall_mem_cons.2 ⟨q262, List.forall_mem_cons.2 ⟨q263, List.forall_mem_cons.2 ⟨q264, List.forall_mem_cons.2 ⟨q265, List.forall_mem_cons.2 ⟨q266, List.forall_mem_cons.2 ⟨q267, List.forall_mem_cons.2 ⟨q2, fun _ h => by cases h⟩⟩⟩⟩⟩⟩⟩⟩⟩⟩⟩⟩⟩⟩⟩⟩⟩⟩⟩⟩) (fun t ht => h.same t (fun hm => ht (in_dst (F := [249, 250, 251, 252, 253, 254, 255, 256, 257, 258, 259, 260, 261, 262, 263, 264, 265, 266, 267, 2]) (by kernel_rfl) hm)))
    rw [ha]
    exact hQ w _ _ _ _ _ _ _ _ _ _ _ _ _ _ _ _ _ _ _ _ h.below   r2
end Go.Proofs.YtocooajlfpngdaaGreatDoor
