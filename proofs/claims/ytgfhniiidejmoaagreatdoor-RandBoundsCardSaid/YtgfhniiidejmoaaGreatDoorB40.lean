/- The numbers of a stream by an iterator. -/
import Derived.Test.YtgfhniiidejmoaaGreatDoorB39
import Derived.Test.YtgfhniiidejmoaaGreatDoorB11
import Derived.Shelf.RegionOpen
import Derived.Deep.LoopGhost
namespace Go.Proofs.YtgfhniiidejmoaaGreatDoor
open Go.RowKit Go.Shelf
set_option linter.unusedVariables false
attribute [local go_sem] Oper.semAt_some

theorem rnumbers_any (seed i k : Int) (s : ByteArray) (w : World) :
    Calls Tryz.prog 33 #[.int .u64 seed, .string s, .int .i64 i, .int .i64 k] w fun e w' => e = .returned (.func (.func 59) #[] #[.pointer (some ⟨w.heap.size + 1 + 1, 0, none⟩), .pointer (some ⟨w.heap.size, 0, none⟩), .pointer (some ⟨w.heap.size + 1, 0, none⟩), .pointer (some ⟨w.heap.size + 1 + 1 + 1, 0, none⟩)]) ∧
      w' = (((w.alloc (.cells #[.int .u64 seed] 22)).alloc (.cells #[.string s] 9)).alloc (.cells #[.int .i64 i] 3)).alloc (.cells #[.int .i64 k] 3) := by
  go_enter Tryz.func33, Tryz.ntmps33
  go_wp2
  go_ret
  exact ⟨rfl, rfl⟩

/-- a slice's numbers abide the turn of a block that holds no cells -/
theorem slOn {k : IntKind} {X Y : World} {row : Option Nat} {B0 n : Nat} {A : Option Addr} {zs : List Int} (h : Sl k X B0 A n zs) (hg : X.grownBy Y row) (hr : ∀ r, row = some r → ∃ o : Obj, X.heap[r]? = some o ∧ o.isCells = false) : Sl k Y B0 A n zs := by
  refine ⟨h.1, ?_⟩
  by_cases hn : n = 0
  · exact .inl hn
  · obtain ⟨b, off, rfl, hb, hc⟩ := h.at_ (by omega)
    exact .inr ⟨b, off, rfl, hb, fun j hj => cell_kept (hc j hj) hg hr⟩
theorem repOn {X Y : World} {row : Option Nat} {z : Int} {v : Value} (h : RepI X X.heap.size z v) (hg : X.grownBy Y row) (hr : ∀ r, row = some r → ∃ o : Obj, X.heap[r]? = some o ∧ o.isCells = false) : RepI Y Y.heap.size z v := by
  obtain ⟨A, n, c, zs, h1, h2, h3⟩ := h
  refine RepI.more (B := X.heap.size) ?_ hg.size
  exact ⟨A, n, c, zs, h1, slOn h2 hg hr, h3⟩

/-- the j-th number of a stream, from a on, of k words each -/
def strN (lab : List Int) (seed : Int) (a k j : Nat) : Int := numW (strW lab seed) (a + j * k) k
/-- a value of the iterator over numbers: number and next index -/
def encN (a k : Nat) (x : Value × Nat) : Array Value := #[x.1, .int .i64 ((a + (x.2 + 1) * k : Nat) : Int)]

/-- a post that only a normal end meets -/
def onlyN (R : Act → World → Prop) : Exit → Act → World → Prop
  | .normal, a, w => R a w
  | _, _, _ => False
theorem onlyN_imp {R : Act → World → Prop} {Q : Exit → Act → World → Prop} (h : ∀ a w, R a w → Q .normal a w) : ∀ e a w, onlyN R e a w → Q e a w
  | .normal, a, w, hr => h a w hr
  | .ret, _, _, hr => False.elim hr
  | .exit _, _, _, hr => False.elim hr
  | .goto _, _, _, hr => False.elim hr
  | .panic _, _, _, hr => False.elim hr
  | .outgrown, _, _, hr => False.elim hr
/-- how a round has ended -/
def StopR (J : Nat → World → Prop) (Jx : World → Prop) (Kp : World → World → Prop) (j : Nat) (X : World) (b : Bool) (Y : World) : Prop := (b = true ∧ J (j + 1) Y ∧ Kp X Y) ∨ (b = false ∧ Jx Y)
theorem stopR {J : Nat → World → Prop} {Jx : World → Prop} {Kp : World → World → Prop} {j : Nat} {X Y : World} {e : Ending} (h : (e = .returned (.bool true) ∧ J (j + 1) Y ∧ Kp X Y) ∨ (e = .returned (.bool false) ∧ Jx Y)) : ∃ b, e = .returned (.bool b) ∧ StopR J Jx Kp j X b Y := by
  rcases h with ⟨rfl, h⟩ | ⟨rfl, h⟩
  · exact ⟨true, rfl, .inl ⟨rfl, h⟩⟩
  · exact ⟨false, rfl, .inr ⟨rfl, h⟩⟩

set_option maxRecDepth 100000 in
set_option maxHeartbeats 4000000 in
theorem numbers1_on (n : Nat) (hn : 1 ≤ n) (seed : Int) (a k : Nat) (s : ByteArray) (hs : s.size ≤ 1000000) (ha : a ≤ 1000000000) (hk : k ≤ 255) (b1 b2 b3 b4 : Nat) (w : World) (l1 : b1 < w.heap.size) (l2 : b2 < w.heap.size) (l3 : b3 < w.heap.size) (l4 : b4 < w.heap.size)
    (c1 : w.cell? ⟨b1, 0, none⟩ = some (.int .i64 a)) (c2 : w.cell? ⟨b2, 0, none⟩ = some (.int .u64 seed)) (c3 : w.cell? ⟨b3, 0, none⟩ = some (.string s)) (c4 : w.cell? ⟨b4, 0, none⟩ = some (.int .i64 k)) :
    SeqOn Fence.wide n Tryz.prog 59 #[.pointer (some ⟨b1, 0, none⟩), .pointer (some ⟨b2, 0, none⟩), .pointer (some ⟨b3, 0, none⟩), .pointer (some ⟨b4, 0, none⟩)] (encN a k) (fun j x W => x.2 = j ∧ RepI W W.heap.size (strN (sB s) seed a k j) x.1) (Below w.heap.size) 64 w := by
  intro l J Jx A hA hJb hJN hY h0
  have d1 := (hA.cell (p := ⟨b1, 0, none⟩) l1).trans c1
  have HC2 := Lib.hid c2
  have HC3 := Lib.hid c3
  have HC4 := Lib.hid c4
  clear c1 c2 c3 c4
  refine callsIn_of_wp Tryz.func59 rfl trivial ?_ rfl
  simp only [Tryz.ntmps59, List.size_toArray, List.length_cons, List.length_nil, Nat.reduceAdd, Nat.reduceSub, Array.replicate_succ, Array.replicate_zero, List.push_toArray, List.append_toArray, List.nil_append, List.cons_append]
  gi_wp2
  refine wpIn_wide.2 ?_
  go_loopg [6] 64 (fun gk r wr => ∃ j p : Nat, gk + j = 64 ∧ p = a + j * k ∧ r = .int .i64 p ∧ J j wr ∧ Below w.heap.size w wr)
  case atStart => exact ⟨0, a, by omega, by omega, rfl, h0, hA⟩
  case round =>
    obtain ⟨j, p, hgj, hp, rfl, hJ, hB⟩ := hrel
    refine (wpIn_wide (n := n)).1 ?_
    have hj := hJN j wr hJ
    have hjk : j * k ≤ 63 * 255 := Nat.mul_le_mul (by omega) hk
    have d2 := (hB.cell (p := ⟨b2, 0, none⟩) l2).trans HC2.out
    have d3 := (hB.cell (p := ⟨b3, 0, none⟩) l3).trans HC3.out
    have d4 := (hB.cell (p := ⟨b4, 0, none⟩) l4).trans HC4.out
    have hmix : Tryz.prog.follows .mixedOrders = true := by kernel_rfl
    have hsum : IntKind.i64.wrap ((p : Int) + (k : Int)) = (p : Int) + (k : Int) := IntWalk.i64_in _ (by omega)
    have hpb : p ≤ 2000000000 := by omega
    have HN := Lib.hid (show ((a + (j + 1) * k : Nat) : Int) = (p : Int) + (k : Int) from by rw [Nat.add_mul]; omega)
    have HP := Lib.hid hp
    have HJ := Lib.hid hJ
    have HB := Lib.hid hB
    have HV := Lib.hid (show numW (strW (sB s) seed) p k = strN (sB s) seed a k j from by rw [hp, strN])
    clear d1 hp hJ hB hjk
    gi_wp2
    refine wpIn_mono (Q := onlyN fun a' Y => ∃ (v : Value) (X : World) (bb : Bool), a' = { tmps := #[.func (.yield l) #[] #[], .pointer (some ⟨b1, 0, none⟩), .pointer (some ⟨b2, 0, none⟩), .pointer (some ⟨b3, 0, none⟩), .pointer (some ⟨b4, 0, none⟩), undef, .int .i64 p, .int .i64 a, .func (.yield l) #[] #[], .int .u64 seed, .string s, .int .i64 p, .int .i64 k, v, .int .i64 p, .int .i64 k, .int .i64 ((p : Int) + (k : Int)), .bool bb, u18, u19, u20], defers := [] } ∧ StopR J Jx (Below w.heap.size) j X bb Y ∧ Below w.heap.size w X) ?_ ?_
    rotate_left
    · refine onlyN_imp ?_
      rintro a' Y ⟨v, X, bb, rfl, hS, hX⟩
      rcases hS with ⟨rfl, hJ3, hk3⟩ | ⟨rfl, hJx3⟩
      · have HJ3 := Lib.hid hJ3
        have HB3 := Lib.hid (hX.trans hk3)
        have c4 := (HB3.out.cell (p := ⟨b4, 0, none⟩) l4).trans HC4.out
        clear hJ3 hk3 hX
        gi_wp2
        go_roundg (gk - 1)
        case measure => omega
        case rel => exact ⟨j + 1, p + k, by omega, by rw [HP.out, Nat.add_mul]; omega, by go_num, HJ3.out, HB3.out⟩
      · gi_wp2
        go_end0
        exact ⟨⟨_, rfl⟩, hJx3⟩
    gi_region_with_o (first
      | (refine ⟨trivial, ?_⟩; gi_at_call 60; refine (callsIn_wide.2 (number_strm seed p k s _ hs hpb hk)).mono ?_; rintro e w2 ⟨v, rfl, hv, hb0⟩; have hb := rb_un hb0; have e4 := rb_cell d4 hb; rw [HV.out] at hv; obtain ⟨fn, tmps, assign, body, hy, hR⟩ := hY j (v, j) w2 (hJb j wr w2 HJ.out hb) ⟨rfl, hv⟩; simp only [encN] at hy; rw [HN.out] at hy; have HR := Lib.hid (hR.mono (fun e Y h => stopR h)); have HB2 := Lib.hid (HB.out.trans (hb.mono HB.out.size)); clear hb hb0 hv hR)
      | (refine HR.out.mono ?_; rintro e W3 ⟨bb, rfl, hS⟩))
    all_goals exact ⟨v, w2, bb, rfl, hS, HB2.out⟩
end Go.Proofs.YtgfhniiidejmoaaGreatDoor
