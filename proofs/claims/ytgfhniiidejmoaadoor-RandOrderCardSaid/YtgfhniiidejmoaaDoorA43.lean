/- Taking numbers until one fits, at most 64: rand.take[wide.Int]. · rand.Big. · Layer 5's laws: lives. -/
import Derived.Test.YtgfhniiidejmoaaDoorA42
import Derived.Test.YtgfhniiidejmoaaDoorA41
import Derived.Test.YtgfhniiidejmoaaDoorA19
import Derived.Test.YtgfhniiidejmoaaDoorA11
namespace Go.Proofs.YtgfhniiidejmoaaDoor
open Go.RowKit Go.Shelf
set_option linter.unusedVariables false
attribute [local go_sem] Oper.semAt_some

theorem blkOn {B0 : Nat} {X Y : World} {row : Option Nat} {B : Nat} {t : TypeId} {u v : Value} (h : Blk2 X B t u v) (hg : X.grownBy Y row) (hr : ∀ r, row = some r → B0 ≤ r ∧ ∃ o : Obj, X.heap[r]? = some o ∧ o.isCells = false) : Blk2 Y B t u v :=
  h.grown hg (fun e => by
    obtain ⟨_, o, ho, hc⟩ := hr B e.symm
    rw [show X.heap[B]? = _ from h] at ho; cases ho; cases hc)
theorem holdOn {B0 : Nat} {X Y : World} {row : Option Nat} {B : Nat} {z : Int} {d : Bool} {A : Option Addr} {n c : Nat} (h : HoldI X B z d A n c) (hg : X.grownBy Y row) (hr : ∀ r, row = some r → B0 ≤ r ∧ ∃ o : Obj, X.heap[r]? = some o ∧ o.isCells = false) : HoldI Y B z d A n c :=
  ⟨blkOn h.1 hg hr, repOn h.2 hg (fun r e => (hr r e).2)⟩
/-- a row of the integer is not the box of an int -/
theorem slOff {X : World} {B0 n g : Nat} {A : Option Addr} {zs : List Int} {t : TypeId} {y : Int} {u : Value} (h : Sl .u32 X B0 A n zs) (hb : Boxed X g t (.int .i64 y)) : Sl .u32 (X.setCell ⟨g, 0, none⟩ u) B0 A n zs := by
  refine ⟨h.1, ?_⟩
  by_cases hn : n = 0
  · exact .inl hn
  · obtain ⟨b, off, rfl, hlt, hc⟩ := h.at_ (by omega)
    refine .inr ⟨b, off, rfl, hlt, fun j hj => ?_⟩
    have hne : b ≠ g := by
      rintro rfl
      have h0 := hc 0 (by omega)
      unfold World.cell? at h0
      rw [show X.heap[b]? = _ from hb] at h0
      match off, h0 with
      | 0, h0 => simp at h0
      | k + 1, h0 => simp at h0
    rw [World.cell?_of_block (w := X) (Below.heap_setCell X ⟨g, 0, none⟩ u b hne)]
    exact hc j hj
theorem repOff {X : World} {z : Int} {v u : Value} {g : Nat} {t : TypeId} {y : Int} (h : RepI X X.heap.size z v) (hb : Boxed X g t (.int .i64 y)) : RepI (X.setCell ⟨g, 0, none⟩ u) (X.setCell ⟨g, 0, none⟩ u).heap.size z v := by
  obtain ⟨A, n, c, zs, h1, h2, h3⟩ := h
  rw [rb_sz]
  exact ⟨A, n, c, zs, h1, slOff h2 hb, h3⟩
theorem holdOff {X : World} {B : Nat} {z : Int} {d : Bool} {A : Option Addr} {n c : Nat} {u : Value} {g : Nat} {t : TypeId} {y : Int} (h : HoldI X B z d A n c) (hb : Boxed X g t (.int .i64 y)) (hne : B ≠ g) : HoldI (X.setCell ⟨g, 0, none⟩ u) B z d A n c :=
  ⟨(Below.heap_setCell X ⟨g, 0, none⟩ u B hne).trans h.1, repOff h.2 hb⟩

/-- what lies in the boxes of take -/
def BoxU (w W : World) (z : Nat) (fv : Value) (t zz : Int) (d : Bool) (A : Option Addr) (n c : Nat) (y : Int) : Prop :=
  Boxed W z 88 fv ∧ HoldI W (z + 1) zz d A n c ∧ Boxed W (z + 1 + 1) 3 (.int .i64 y) ∧ Boxed W (z + 1 + 1 + 1) 3 (.int .i64 t) ∧ Below z w W
theorem BoxU.own {w X Y : World} {z B0 : Nat} {fv : Value} {t zz : Int} {d : Bool} {A : Option Addr} {n c : Nat} {y : Int} {row : Option Nat} (h : BoxU w X z fv t zz d A n c y) (hg : X.grownBy Y row) (hr : ∀ r, row = some r → B0 ≤ r ∧ ∃ o : Obj, X.heap[r]? = some o ∧ o.isCells = false) (h1 : z ≤ w.heap.size) (h2 : z ≤ B0) : BoxU w Y z fv t zz d A n c y :=
  ⟨boxOn h.1 hg hr, holdOn h.2.1 hg hr, boxOn h.2.2.1 hg hr, boxOn h.2.2.2.1 hg hr, belowOn h.2.2.2.2 hg hr h1 h2⟩
theorem BoxU.drew {w X : World} {z : Nat} {fv : Value} {t zz : Int} {d : Bool} {A : Option Addr} {n c : Nat} {y : Int} (h : BoxU w X z fv t zz d A n c y) : BoxU w X.drew z fv t zz d A n c y := ⟨h.1, h.2.1, h.2.2.1, h.2.2.2.1, h.2.2.2.2.drew⟩
theorem BoxU.below {w X Y : World} {z : Nat} {fv : Value} {t zz : Int} {d : Bool} {A : Option Addr} {n c : Nat} {y : Int} (h : BoxU w X z fv t zz d A n c y) (hb : Below X.heap.size X Y) (hz : z ≤ w.heap.size) : BoxU w Y z fv t zz d A n c y :=
  ⟨boxBelow h.1 hb h.1.lt, h.2.1.below hb, boxBelow h.2.2.1 hb h.2.2.1.lt, boxBelow h.2.2.2.1 hb h.2.2.2.1.lt, h.2.2.2.2.trans (hb.mono (Nat.le_trans hz h.2.2.2.2.size))⟩
theorem boxSet2 {W : World} {B g : Nat} {t : TypeId} {v u u' : Value} (h : Boxed W B t v) (hne : B ≠ g) : Boxed ((W.setCell ⟨g, 0, none⟩ u).setCell ⟨g, 1, none⟩ u') B t v := (set2_heap W g u u' B hne).trans h
theorem BoxU.x {w W : World} {z : Nat} {fv : Value} {t zz : Int} {d : Bool} {A : Option Addr} {n c : Nat} {y : Int} (h : BoxU w W z fv t zz d A n c y) {zz' : Int} {d' : Bool} {A' : Option Addr} {n' c' : Nat} (hv : RepI W W.heap.size zz' (.agg #[.bool d', .slice A' n' c'])) : BoxU w ((W.setCell ⟨z + 1, 0, none⟩ (.bool d')).setCell ⟨z + 1, 1, none⟩ (.slice A' n' c')) z fv t zz' d' A' n' c' y :=
  ⟨boxSet2 h.1 (by omega), HoldI.made hv h.2.1.1, boxSet2 h.2.2.1 (by omega), boxSet2 h.2.2.2.1 (by omega), (h.2.2.2.2.setCell (p := ⟨z + 1, 0, none⟩) (by simp) _).setCell (p := ⟨z + 1, 1, none⟩) (by simp) _⟩
theorem BoxU.y {w W : World} {z : Nat} {fv : Value} {t zz : Int} {d : Bool} {A : Option Addr} {n c : Nat} {y : Int} (h : BoxU w W z fv t zz d A n c y) (y' : Int) : BoxU w (W.setCell ⟨z + 1 + 1, 0, none⟩ (.int .i64 y')) z fv t zz d A n c y' :=
  ⟨h.1.other (by omega) _, holdOff h.2.1 h.2.2.1 (by omega), h.2.2.1.set _, h.2.2.2.1.other (by omega) _, h.2.2.2.2.setCell (p := ⟨z + 1 + 1, 0, none⟩) (by simp; omega) _⟩
theorem BoxU.t {w W : World} {z : Nat} {fv : Value} {t zz : Int} {d : Bool} {A : Option Addr} {n c : Nat} {y : Int} (h : BoxU w W z fv t zz d A n c y) (t' : Int) : BoxU w (W.setCell ⟨z + 1 + 1 + 1, 0, none⟩ (.int .i64 t')) z fv t' zz d A n c y :=
  ⟨h.1.other (by omega) _, holdOff h.2.1 h.2.2.2.1 (by omega), h.2.2.1.other (by omega) _, h.2.2.2.1.set _, h.2.2.2.2.setCell (p := ⟨z + 1 + 1 + 1, 0, none⟩) (by simp; omega) _⟩
/-- an integer and an index -/
def NumI (z y : Int) (w : World) (e : Ending) (w' : World) : Prop := ∃ v, e = .returned (.tuple #[v, .int .i64 y]) ∧ RepI w' w'.heap.size z v ∧ Below w.heap.size w w'

set_option maxRecDepth 100000 in
set_option maxHeartbeats 4000000 in
theorem takeI_any (seed : Int) (a k : Nat) (s : ByteArray) (hs : s.size ≤ 1000000) (ha : a ≤ 1000000000) (hkk : k ≤ 255) (b1 b2 b3 b4 br : Nat) (p : Nat → Bool) (w : World) (l1 : b1 < w.heap.size) (l2 : b2 < w.heap.size) (l3 : b3 < w.heap.size) (l4 : b4 < w.heap.size)
    (c1 : w.cell? ⟨b1, 0, none⟩ = some (.int .i64 a)) (c2 : w.cell? ⟨b2, 0, none⟩ = some (.int .u64 seed)) (c3 : w.cell? ⟨b3, 0, none⟩ = some (.string s)) (c4 : w.cell? ⟨b4, 0, none⟩ = some (.int .i64 k))
    (hfit : ∀ (j : Nat) (W : World) (v : Value), Below w.heap.size w W → RepI W W.heap.size (strN (sB s) seed a k j) v → Calls Tryd.prog 52 #[v, .pointer (some ⟨br, 0, none⟩)] W fun e W' => e = .returned (.bool (p j)) ∧ Below W.heap.size W W') :
    Calls Tryd.prog 54 #[.func (.func 78) #[] #[.pointer (some ⟨b1, 0, none⟩), .pointer (some ⟨b2, 0, none⟩), .pointer (some ⟨b3, 0, none⟩), .pointer (some ⟨b4, 0, none⟩)], .func (.func 52) #[] #[.pointer (some ⟨br, 0, none⟩)]] w (NumI (strN (sB s) seed a k (firstJ p)) ((a + (firstJ p + 1) * k : Nat) : Int) w) := by
  have HSQ := Lib.hid (numbers1_on 7 (by omega) seed a k s hs ha hkk b1 b2 b3 b4 w l1 l2 l3 l4 c1 c2 c3 c4)
  have HF := Lib.hid hfit
  clear hfit c1 c2 c3 c4 l1 l2 l3 l4
  refine (callsIn_wide (n := 8)).1 ?_
  refine callsIn_of_wp_marks Tryd.func54 rfl trivial ?_ rfl
  simp only [Tryd.ntmps54, List.size_toArray, List.length_cons, List.length_nil, Nat.reduceAdd, Nat.reduceSub, Array.replicate_succ, Array.replicate_zero, List.push_toArray, List.append_toArray, List.nil_append, List.cons_append]
  gi_wp2
  have hb0 : Below w.heap.size w ((((w.alloc (.cells #[.func (.func 52) #[] #[.pointer (some ⟨br, 0, none⟩)]] 88)).alloc (.cells #[.bool false, .slice none 0 0] 48)).alloc (.cells #[.int .i64 0] 3)).alloc (.cells #[.int .i64 0] 3)) :=
    ((((Below.refl _ w).alloc (Nat.le_refl _) _).alloc (by simp) _).alloc (by simp; omega) _).alloc (by simp; omega) _
  have hbx : BoxU w ((((w.alloc (.cells #[.func (.func 52) #[] #[.pointer (some ⟨br, 0, none⟩)]] 88)).alloc (.cells #[.bool false, .slice none 0 0] 48)).alloc (.cells #[.int .i64 0] 3)).alloc (.cells #[.int .i64 0] 3)) w.heap.size (.func (.func 52) #[] #[.pointer (some ⟨br, 0, none⟩)]) 0 0 false none 0 0 0 := by
    have h1 := HoldI.new (RepI.zero (w.alloc (.cells #[.func (.func 52) #[] #[.pointer (some ⟨br, 0, none⟩)]] 88)) _)
    have h2 := Boxed.new ((w.alloc (.cells #[.func (.func 52) #[] #[.pointer (some ⟨br, 0, none⟩)]] 88)).alloc (.cells #[.bool false, .slice none 0 0] 48)) 3 (.int .i64 0)
    have h3 := Boxed.new (((w.alloc (.cells #[.func (.func 52) #[] #[.pointer (some ⟨br, 0, none⟩)]] 88)).alloc (.cells #[.bool false, .slice none 0 0] 48)).alloc (.cells #[.int .i64 0] 3)) 3 (.int .i64 0)
    simp only [World.size_alloc] at h1 h2 h3
    exact ⟨(((Boxed.new w _ _).alloc _).alloc _).alloc _, (h1.below (al_below _ _)).below (al_below _ _), h2.alloc _, h3, hb0⟩
  refine range_on rfl (by omega) (gf := 78) (lb := #[.pointer (some ⟨b1, 0, none⟩), .pointer (some ⟨b2, 0, none⟩), .pointer (some ⟨b3, 0, none⟩), .pointer (some ⟨b4, 0, none⟩)]) rfl trivial (enters_of Tryd.func78 (by kernel_rfl) rfl)
    HSQ.out hb0 belowK_t (belowK_b (by simp; omega)) (fun _ => rfl)
    (fun m W => m < 64 ∧ (∀ j, j < m → p j = false) ∧ ∃ zz d A n c y, BoxU w W w.heap.size (.func (.func 52) #[] #[.pointer (some ⟨br, 0, none⟩)]) m zz d A n c y)
    (fun c W => c = .exit 0 ∧ ∃ m t : Nat, IsFirst p m ∧ ∃ d A n c, BoxU w W w.heap.size (.func (.func 52) #[] #[.pointer (some ⟨br, 0, none⟩)]) t (strN (sB s) seed a k m) d A n c ((a + (m + 1) * k : Nat) : Int))
    (fun k X Y row hs hg hr => ⟨hs.1, hs.2.1, by obtain ⟨zz, d, A, n, c, y, h⟩ := hs.2.2; exact ⟨zz, d, A, n, c, y, h.own hg hr (Nat.le_refl _) (by simp; omega)⟩⟩)
    (fun c X Y row hs hg hr => ⟨hs.1, by obtain ⟨m, t, hf, d, A, n, c', h⟩ := hs.2; exact ⟨m, t, hf, d, A, n, c', h.own hg hr (Nat.le_refl _) (by simp; omega)⟩⟩)
    (fun k W h => h.1) ⟨by omega, fun j hj => by omega, _, _, _, _, _, _, hbx⟩
    (fun q W => ∃ d A n c, q.2.1 = (.agg #[.bool d, .slice A n c], q.1) ∧ q.2.2 = { tmps := #[.func (.func 78) #[] #[.pointer (some ⟨b1, 0, none⟩), .pointer (some ⟨b2, 0, none⟩), .pointer (some ⟨b3, 0, none⟩), .pointer (some ⟨b4, 0, none⟩)], .func (.func 52) #[] #[.pointer (some ⟨br, 0, none⟩)], undef, .pointer (some ⟨w.heap.size, 0, none⟩), .pointer (some ⟨w.heap.size + 1, 0, none⟩), .pointer (some ⟨w.heap.size + 1 + 1, 0, none⟩), .pointer (some ⟨w.heap.size + 1 + 1 + 1, 0, none⟩), .func (.func 78) #[] #[.pointer (some ⟨b1, 0, none⟩), .pointer (some ⟨b2, 0, none⟩), .pointer (some ⟨b3, 0, none⟩), .pointer (some ⟨b4, 0, none⟩)], .agg #[.bool d, .slice A n c], .int .i64 ((a + (q.1 + 1) * k : Nat) : Int), undef, undef, undef, undef, undef, undef, undef, undef, undef, undef, undef], defers := [] } ∧ q.1 < 64 ∧ (∀ j, j < q.1 → p j = false) ∧ BoxU w W w.heap.size (.func (.func 52) #[] #[.pointer (some ⟨br, 0, none⟩)]) q.1 (strN (sB s) seed a k q.1) d A n c ((a + (q.1 + 1) * k : Nat) : Int))
    (fun q X Y row hs hg hr => by obtain ⟨d, A, n, c, h1, h2, h3, h4, h5⟩ := hs; exact ⟨d, A, n, c, h1, h2, h3, h4, h5.own hg hr (Nat.le_refl _) (by simp; omega)⟩) ?assign ?body ?stop
  case assign =>
    rintro l m ⟨v, q⟩ W K ⟨hk, hp, zz0, d0, A0, n0, c0, y0, hB⟩ ⟨hq, hv⟩ hK
    simp only at hq hv
    subst hq
    obtain ⟨d, A, n, c, rfl⟩ := hv.shape
    have e1 := hB.2.1.c0
    have e2 := hB.2.1.c1
    have e3 := hB.2.1.1.f0
    have e4 := hB.2.1.1.f1
    have e5 := hB.2.2.1.cell
    have e6 := hB.2.2.1.frozen
    have HB := Lib.hid hB
    have HP := Lib.hid hp
    have HV := Lib.hid hv
    clear hbx hb0 hB hp hv
    simp only [encN]
    obtain ⟨Y, hY⟩ : ∃ Y, Y = ((a + (q + 1) * k : Nat) : Int) := ⟨_, rfl⟩
    have HYY := Lib.hid hY
    rw [← hY]
    clear hY
    gi_wp2
    refine hK _ _ ((((KeepsOthers.setCell _ _ _).trans (KeepsOthers.setCell _ _ _)).trans (KeepsOthers.setCell _ _ _)).from _) ((((Below.refl _ W).setCell (p := ⟨w.heap.size + 1, 0, none⟩) (by simp) _).setCell (p := ⟨w.heap.size + 1, 1, none⟩) (by simp) _).setCell (p := ⟨w.heap.size + 1 + 1, 0, none⟩) (by simp; omega) _) ⟨d, A, n, c, rfl, by rw [← HYY.out], hk, HP.out, ?_⟩
    rw [← HYY.out]
    exact (HB.out.x HV.out).y _
  case body =>
    rintro l x q a' W ⟨d, A, n, c, h1, h2, hk, hp, hB⟩
    simp only at h1 h2 hk hp hB
    subst h1 h2
    obtain ⟨Y, hY⟩ : ∃ Y, Y = ((a + (x + 1) * k : Nat) : Int) := ⟨_, rfl⟩
    have HYY := Lib.hid hY
    rw [← hY] at hB ⊢
    clear hY
    have e0 := hB.1.cell
    have e1 := hB.2.1.c0
    have e2 := hB.2.1.c1
    have e3 := hB.2.2.2.1.cell
    have e4 := hB.2.2.2.1.frozen
    have HB := Lib.hid hB
    have HP := Lib.hid hp
    clear hbx hb0 hB hp
    have HT := Lib.hid (HB.out.t ((x : Int) + 1))
    by_cases h63 : x = 63
    · have hd : (((x : Int) + 1 == 64)) = true := by simp; omega
      have H63 := Lib.hid h63
      clear h63
      gi_wp2
      refine ⟨fun _ h => (by cases h), ?_⟩
      gi_wp2
      exact ⟨(KeepsOthers.setCell _ _ _).from _, rfl, x, x + 1, ⟨by omega, .inl H63.out, HP.out⟩, d, A, n, c, by rw [← HYY.out]; have := HT.out; simpa using this⟩
    · have hd : (((x : Int) + 1 == 64)) = false := by simp; omega
      have hcall := HF.out x (W.setCell ⟨w.heap.size + 1 + 1 + 1, 0, none⟩ (.int .i64 (x + 1))) (.agg #[.bool d, .slice A n c]) HT.out.2.2.2.2 HT.out.2.1.2
      have HC := Lib.hid hcall
      have HK := Lib.hid (show Below w.heap.size W (W.setCell ⟨w.heap.size + 1 + 1 + 1, 0, none⟩ (.int .i64 (x + 1))) from (Below.refl _ W).setCell (p := ⟨w.heap.size + 1 + 1 + 1, 0, none⟩) (by simp; omega) _)
      clear hcall
      cases hpk : p x
      · rw [hpk] at HC
        have HPK := Lib.hid hpk
        clear hpk
        gi_wp2_with (refine ⟨trivial, ?_⟩; gi_at_call 52; refine (CallsIn.inRound l (callsIn_wide.2 HC.out)).mono ?_; rintro e w5 ⟨rfl, hb⟩; have HT5 := Lib.hid (HT.out.below hb (Nat.le_refl _)); have HK5 := Lib.hid (HK.out.trans (hb.mono (by have := HT.out.1.lt; omega))); have HBB := Lib.hid hb; clear hb)
        exact ⟨((KeepsOthers.setCell _ _ _).from _).trans (belowKeeps HBB.out _), HK5.out, by omega, fun j hj => by
          by_cases e : j = x
          · rw [e]; exact HPK.out
          · exact HP.out j (by omega), _, _, _, _, _, _, by have := HT5.out; simpa using this⟩
      · rw [hpk] at HC
        have HPK := Lib.hid hpk
        clear hpk
        gi_wp2_with (refine ⟨trivial, ?_⟩; gi_at_call 52; refine (CallsIn.inRound l (callsIn_wide.2 HC.out)).mono ?_; rintro e w5 ⟨rfl, hb⟩; have HT5 := Lib.hid (HT.out.below hb (Nat.le_refl _)); have HK5 := Lib.hid (HK.out.trans (hb.mono (by have := HT.out.1.lt; omega))); have HBB := Lib.hid hb; clear hb)
        exact ⟨((KeepsOthers.setCell _ _ _).from _).trans (belowKeeps HBB.out _), rfl, x, x + 1, ⟨by omega, .inr HPK.out, HP.out⟩, d, A, n, c, by rw [← HYY.out]; have := HT5.out; simpa using this⟩
  case stop =>
    rintro D c W hD ⟨rfl, m, t, hF, d, A, n, c, hB⟩ hDef
    have HJ := Lib.hid (firstJ_of hF)
    clear hF
    obtain ⟨Y, hY⟩ : ∃ Y, Y = ((a + (m + 1) * k : Nat) : Int) := ⟨_, rfl⟩
    have HYY := Lib.hid hY
    rw [← hY] at hB
    clear hY
    have e1 := hB.2.1.c0
    have e2 := hB.2.1.c1
    have e3 := hB.2.1.1.f0
    have e4 := hB.2.1.1.f1
    have e5 := hB.2.2.1.cell
    have e6 := hB.2.2.1.frozen
    have HB := Lib.hid hB
    have HD := Lib.hid hDef
    clear hbx hb0 hB hDef
    gi_wp2
    gi_region
    obtain ⟨X, hX0⟩ : ∃ X, X = (((W.setCell ⟨w.heap.size + 1, 0, none⟩ (.bool d)).setCell ⟨w.heap.size + 1, 1, none⟩ (.slice A n c)).setCell ⟨w.heap.size + 1 + 1, 0, none⟩ (.int .i64 Y)).drew := ⟨_, rfl⟩
    have hD2 : X.heap[D]? = some (.deferred (some [])) := by rw [hX0]; exact (KeepsOthers.setCell _ _ _).same D _ ((KeepsOthers.setCell _ _ _).same D _ ((KeepsOthers.setCell _ _ _).same D _ HD.out rfl) rfl) rfl
    have hX := (((HB.out.x HB.out.2.1.2).y Y).drew).own (grownBy_putObj' _ D (.deferred none)) (B0 := D) (fun r e => by cases e; exact ⟨Nat.le_refl _, _, by rw [← hX0]; exact hD2, rfl⟩) (Nat.le_refl _) (by simp at hD; omega)
    rw [← hX0] at hX
    have hx1 := hX.2.1.c0
    have hx2 := hX.2.1.c1
    have hx3 := hX.2.2.1.cell
    have HX := Lib.hid hX.2.2.2.2
    have HR := Lib.hid hX.2.1.2
    have HD2 := Lib.hid hD2
    have HX0 := Lib.hid hX0
    clear hX hD2 hX0
    all_goals
      gi_wp2
      rw [← HX0.out]
      refine ⟨by simp, .inl ⟨_, _, rfl, run_takeDeferred HD2.out, ?_⟩⟩
      exact ⟨.tuple #[.agg #[.bool d, .slice A n c], .int .i64 Y], by simp [results, Tryd.results54, go_sem, hx1, hx2, hx3], _, by rw [HJ.out, HYY.out], by rw [HJ.out]; exact HR.out, HX.out⟩
end Go.Proofs.YtgfhniiidejmoaaDoor
namespace Go.Proofs.YtgfhniiidejmoaaDoor
open Go.RowKit
set_option linter.unusedVariables false

theorem emod_le' (x n : Int) (hx : 0 ≤ x) (hn : 0 < n) : x % n ≤ x := by
  have h1 := Int.mul_ediv_add_emod x n
  have h2 := Int.mul_nonneg (Int.le_of_lt hn) (Int.ediv_nonneg hx (Int.le_of_lt hn))
  omega
/-- how many numbers are passed over -/
def bigJ (lab : List Int) (seed : Int) (a : Nat) (n : Int) (k : Nat) : Nat := firstJ fun j => decide (strN lab seed a k j < p64 k - p64 k % n)
/-- what Big gives -/
def bigV (lab : List Int) (seed : Int) (a : Nat) (n : Int) (k : Nat) : Int := strN lab seed a k (bigJ lab seed a n k) % n
/-- an integer, an index, an error -/
def Num3 (z y er : Int) (w : World) (e : Ending) (w' : World) : Prop := ∃ v, e = .returned (.tuple #[v, .int .i64 y, .int .i64 er]) ∧ RepI w' w'.heap.size z v ∧ Below w.heap.size w w'
/-- k words are wanted for n -/
def IsK (n : Int) (k : Nat) : Prop := k ≤ 255 ∧ n ≤ p64 k ∧ ∀ j, j < k → p64 j < n
theorem IsK.one {n : Int} {j k : Nat} (h : IsK n j) (h' : IsK n k) : j = k := by
  rcases Nat.lt_trichotomy j k with hl | he | hl
  · have := h'.2.2 j hl; have := h.2.1; omega
  · exact he
  · have := h.2.2 k hl; have := h'.2.1; omega
theorem strN_in (lab : List Int) (seed : Int) (a k j : Nat) (hk : k ≤ 255) : 0 ≤ strN lab seed a k j ∧ ((strN lab seed a k j).natAbs : Int) < lim := numW_in lab seed _ k hk
theorem bigV_bd (lab : List Int) (seed : Int) (a : Nat) (n : Int) (k : Nat) (hn : 1 ≤ n) : 0 ≤ bigV lab seed a n k ∧ bigV lab seed a n k < n := ⟨Int.emod_nonneg _ (by omega), Int.emod_lt_of_pos _ (by omega)⟩
/-- what the words' number is, by its error -/
theorem WfS.ok {n k z er : Int} (h : WfS n k z er) {m : Nat} (hm : IsK n m) : er = 0 ∧ k = m ∧ z = p64 m := by
  rcases h with ⟨h1, m', h2, h3, h4, h5, h6⟩ | ⟨h1, h2, h3, h4⟩
  · obtain rfl := IsK.one ⟨h2, h5, h6⟩ hm
    exact ⟨h1, h3, h4⟩
  · have := h4 m hm.1; have := hm.2.1; omega
theorem WfS.no {n k z er : Int} (h : WfS n k z er) (hn : ∀ j, j ≤ 255 → p64 j < n) : er = 4 ∧ k = 0 ∧ z = 0 := by
  rcases h with ⟨h1, m', h2, h3, h4, h5, h6⟩ | ⟨h1, h2, h3, h4⟩
  · have := hn m' h2; omega
  · exact ⟨h1, h2, h3⟩

set_option maxRecDepth 100000 in
set_option maxHeartbeats 8000000 in
theorem big_any (seed n : Int) (a : Nat) (s : ByteArray) (u : Value) (w : World) (hx : RepI w w.heap.size n u) (bx : (n.natAbs : Int) < lim) (k : Nat) (hs : s.size ≤ 1000000) (ha : a ≤ 1000000000) (hn : 1 ≤ n) (hK : IsK n k) :
    Calls Tryd.prog 28 #[.int .u64 seed, .string s, .int .i64 a, u] w (Num3 (bigV (sB s) seed a n k) ((a + (bigJ (sB s) seed a n k + 1) * k : Nat) : Int) 0 w) := by
  have HKI := Lib.hid hK
  have HBX := Lib.hid bx
  clear bx
  obtain ⟨r, hr⟩ : ∃ r, cmpI' n 0 = r := ⟨_, rfl⟩
  have hdt : decide (r < 1) = false := by rw [← hr]; unfold cmpI'; rw [if_neg (by omega), if_pos (by omega)]; rfl
  have HR := Lib.hid hr
  clear hr
  have HB := Lib.hid (Below.refl w.heap.size w)
  obtain ⟨dx, Ax, nx, cx, rfl⟩ := hx.shape
  have Vx := Lib.hid hx
  clear hx
  go_enter Tryd.func28, Tryd.ntmps28
  have h := HoldI.new Vx.out
  have b := al_below w (.cells #[.bool dx, .slice Ax nx cx] 48)
  replace HB := Lib.hid (bstep HB.out b)
  clear b
  have Hx := Lib.hid h
  clear h Vx
  have h := Blk2.new (w.alloc (.cells #[.bool dx, .slice Ax nx cx] 48)) 48 (.bool false) (.slice none 0 0)
  simp only [World.size_alloc] at h
  have b := al_below (w.alloc (.cells #[.bool dx, .slice Ax nx cx] 48)) (.cells #[.bool false, .slice none 0 0] 48)
  replace HB := Lib.hid (bstep HB.out b)
  replace Hx := Lib.hid (Hx.out.below b)
  clear b
  have R0 := Lib.hid (show Blk2 _ (w.heap.size + 1) 48 (.bool false) (.slice none 0 0) from h)
  clear h
  have gHx0 := Hx.out.c0
  have gHx1 := Hx.out.c1
  go_wp2_with fail
  refine (isign_lim n _ _ Hx.out.2 HBX.out r HR.out).mono ?_
  rintro e w51 ⟨rfl, b⟩
  clear gHx0 gHx1
  have z51 := b.size
  simp only [World.size_alloc] at z51
  replace z51 := Lib.hid z51
  replace HB := Lib.hid (bstep HB.out b)
  replace Hx := Lib.hid (Hx.out.below b)
  replace R0 := Lib.hid (R0.out.below b)
  clear b
  have gHx0 := Hx.out.c0
  have gHx1 := Hx.out.c1
  go_wp2_with fail
  refine (wordsFor_any n _ _ Hx.out.2 HBX.out).mono ?_
  rintro e w52 ⟨kk, z, er, v, rfl, hs, h, b⟩
  obtain ⟨d52, A52, n52, c52, rfl⟩ := h.shape
  obtain ⟨rfl, rfl, rfl⟩ := hs.ok hK
  clear gHx0 gHx1
  have z52 := b.size
  replace z52 := Lib.hid z52
  replace HB := Lib.hid (bstep HB.out b)
  replace Hx := Lib.hid (Hx.out.below b)
  replace R0 := Lib.hid (R0.out.below b)
  have V52 := Lib.hid h
  clear h b hs
  have h := HoldI.new V52.out
  have b := al_below w52 (.cells #[.bool d52, .slice A52 n52 c52] 48)
  replace HB := Lib.hid (bstep HB.out b)
  replace Hx := Lib.hid (Hx.out.below b)
  replace R0 := Lib.hid (R0.out.below b)
  clear b
  have H52 := Lib.hid h
  clear h V52
  have HPL := Lib.hid (p64_in hK.1)
  have hn0 : n ≠ 0 := by omega
  clear hK
  have gH520 := H52.out.c0
  have gH521 := H52.out.c1
  have gHx0 := Hx.out.c0
  have gHx1 := Hx.out.c1
  go_wp2_with fail
  refine (idiv_any (p64 k) n _ _ _ H52.out.2 Hx.out.2 HPL.out HBX.out hn0).mono ?_
  rintro e w53 ⟨u, v, rfl, h, h', b⟩
  obtain ⟨d53, A53, n53, c53, rfl⟩ := h.shape
  obtain ⟨d54, A54, n54, c54, rfl⟩ := h'.shape
  clear gH520 gH521 gHx0 gHx1
  have z53 := b.size
  simp only [World.size_alloc] at z53
  replace z53 := Lib.hid z53
  replace HB := Lib.hid (bstep HB.out b)
  replace Hx := Lib.hid (Hx.out.below b)
  replace R0 := Lib.hid (R0.out.below b)
  replace H52 := Lib.hid (H52.out.below b)
  have V53 := Lib.hid h
  have V54 := Lib.hid h'
  clear h h' b
  have h := HoldI.new V53.out
  have b := al_below w53 (.cells #[.bool d53, .slice A53 n53 c53] 48)
  replace HB := Lib.hid (bstep HB.out b)
  replace Hx := Lib.hid (Hx.out.below b)
  replace R0 := Lib.hid (R0.out.below b)
  replace H52 := Lib.hid (H52.out.below b)
  replace V54 := Lib.hid (V54.out.step b)
  clear b
  have H53 := Lib.hid h
  clear h V53
  have h := HoldI.new V54.out
  simp only [World.size_alloc] at h
  have b := al_below (w53.alloc (.cells #[.bool d53, .slice A53 n53 c53] 48)) (.cells #[.bool d54, .slice A54 n54 c54] 48)
  replace HB := Lib.hid (bstep HB.out b)
  replace Hx := Lib.hid (Hx.out.below b)
  replace R0 := Lib.hid (R0.out.below b)
  replace H52 := Lib.hid (H52.out.below b)
  replace H53 := Lib.hid (H53.out.below b)
  clear b
  have H54 := Lib.hid h
  clear h V54
  have hrs : 0 ≤ p64 k % n ∧ p64 k % n < n ∧ p64 k % n ≤ p64 k := ⟨Int.emod_nonneg _ hn0, Int.emod_lt_of_pos _ (by omega), emod_le' _ _ (by have := p64_pos k; omega) (by omega)⟩
  have HMI := Lib.hid (show ((p64 k - p64 k % n).natAbs : Int) < lim from by have h1 := HPL.out; have h2 := p64_pos k; omega)
  have HRI := Lib.hid (show ((p64 k % n).natAbs : Int) < lim from by have h1 := HPL.out; have h2 := p64_pos k; omega)
  clear hrs
  have gH520 := H52.out.c0
  have gH521 := H52.out.c1
  have gH540 := H54.out.c0
  have gH541 := H54.out.c1
  go_wp2_with fail
  refine (isub_fit (p64 k) (p64 k % n) (p64 k - p64 k % n) _ _ _ H52.out.2 H54.out.2 HPL.out HRI.out rfl HMI.out).mono ?_
  rintro e w55 ⟨v, rfl, h, b⟩
  obtain ⟨d55, A55, n55, c55, rfl⟩ := h.shape
  clear gH520 gH521 gH540 gH541
  have z55 := b.size
  simp only [World.size_alloc] at z55
  replace z55 := Lib.hid z55
  replace HB := Lib.hid (bstep HB.out b)
  replace Hx := Lib.hid (Hx.out.below b)
  replace R0 := Lib.hid (R0.out.below b)
  replace H52 := Lib.hid (H52.out.below b)
  replace H53 := Lib.hid (H53.out.below b)
  replace H54 := Lib.hid (H54.out.below b)
  have V55 := Lib.hid h
  clear h b
  have h := HoldI.new V55.out
  have b := al_below w55 (.cells #[.bool d55, .slice A55 n55 c55] 48)
  replace HB := Lib.hid (bstep HB.out b)
  replace Hx := Lib.hid (Hx.out.below b)
  replace R0 := Lib.hid (R0.out.below b)
  replace H52 := Lib.hid (H52.out.below b)
  replace H53 := Lib.hid (H53.out.below b)
  replace H54 := Lib.hid (H54.out.below b)
  clear b
  have H55 := Lib.hid h
  clear h V55
  go_wp2_with fail
  refine (rnumbers_any seed a k s _).mono ?_
  rintro e w9 ⟨rfl, rfl⟩
  have kb0 := Boxed.new (w55.alloc (.cells #[.bool d55, .slice A55 n55 c55] 48)) 22 (.int .u64 seed)
  simp only [World.size_alloc] at kb0
  have b := al_below (w55.alloc (.cells #[.bool d55, .slice A55 n55 c55] 48)) (.cells #[.int .u64 seed] 22)
  replace HB := Lib.hid (bstep HB.out b)
  replace Hx := Lib.hid (Hx.out.below b)
  replace R0 := Lib.hid (R0.out.below b)
  replace H52 := Lib.hid (H52.out.below b)
  replace H53 := Lib.hid (H53.out.below b)
  replace H54 := Lib.hid (H54.out.below b)
  replace H55 := Lib.hid (H55.out.below b)
  clear b
  have kb1 := Boxed.new ((w55.alloc (.cells #[.bool d55, .slice A55 n55 c55] 48)).alloc (.cells #[.int .u64 seed] 22)) 9 (.string s)
  simp only [World.size_alloc] at kb1
  replace kb0 := kb0.alloc (.cells #[.string s] 9)
  have b := al_below ((w55.alloc (.cells #[.bool d55, .slice A55 n55 c55] 48)).alloc (.cells #[.int .u64 seed] 22)) (.cells #[.string s] 9)
  replace HB := Lib.hid (bstep HB.out b)
  replace Hx := Lib.hid (Hx.out.below b)
  replace R0 := Lib.hid (R0.out.below b)
  replace H52 := Lib.hid (H52.out.below b)
  replace H53 := Lib.hid (H53.out.below b)
  replace H54 := Lib.hid (H54.out.below b)
  replace H55 := Lib.hid (H55.out.below b)
  clear b
  have kb2 := Boxed.new (((w55.alloc (.cells #[.bool d55, .slice A55 n55 c55] 48)).alloc (.cells #[.int .u64 seed] 22)).alloc (.cells #[.string s] 9)) 3 (.int .i64 a)
  simp only [World.size_alloc] at kb2
  replace kb0 := kb0.alloc (.cells #[.int .i64 a] 3)
  replace kb1 := kb1.alloc (.cells #[.int .i64 a] 3)
  have b := al_below (((w55.alloc (.cells #[.bool d55, .slice A55 n55 c55] 48)).alloc (.cells #[.int .u64 seed] 22)).alloc (.cells #[.string s] 9)) (.cells #[.int .i64 a] 3)
  replace HB := Lib.hid (bstep HB.out b)
  replace Hx := Lib.hid (Hx.out.below b)
  replace R0 := Lib.hid (R0.out.below b)
  replace H52 := Lib.hid (H52.out.below b)
  replace H53 := Lib.hid (H53.out.below b)
  replace H54 := Lib.hid (H54.out.below b)
  replace H55 := Lib.hid (H55.out.below b)
  clear b
  have kb3 := Boxed.new ((((w55.alloc (.cells #[.bool d55, .slice A55 n55 c55] 48)).alloc (.cells #[.int .u64 seed] 22)).alloc (.cells #[.string s] 9)).alloc (.cells #[.int .i64 a] 3)) 3 (.int .i64 k)
  simp only [World.size_alloc] at kb3
  replace kb0 := kb0.alloc (.cells #[.int .i64 k] 3)
  replace kb1 := kb1.alloc (.cells #[.int .i64 k] 3)
  replace kb2 := kb2.alloc (.cells #[.int .i64 k] 3)
  have b := al_below ((((w55.alloc (.cells #[.bool d55, .slice A55 n55 c55] 48)).alloc (.cells #[.int .u64 seed] 22)).alloc (.cells #[.string s] 9)).alloc (.cells #[.int .i64 a] 3)) (.cells #[.int .i64 k] 3)
  replace HB := Lib.hid (bstep HB.out b)
  replace Hx := Lib.hid (Hx.out.below b)
  replace R0 := Lib.hid (R0.out.below b)
  replace H52 := Lib.hid (H52.out.below b)
  replace H53 := Lib.hid (H53.out.below b)
  replace H54 := Lib.hid (H54.out.below b)
  replace H55 := Lib.hid (H55.out.below b)
  clear b
  have hc1 := kb2.cell
  have hc2 := kb0.cell
  have hc3 := kb1.cell
  have hc4 := kb3.cell
  clear kb0 kb1 kb2 kb3
  go_wp2_with fail
  have HTK := Lib.hid (takeI_any seed a k s hs ha HKI.out.1 _ _ _ _ w55.heap.size (fun j => decide (strN (sB s) seed a k j < p64 k - p64 k % n)) (((((w55.alloc (.cells #[.bool d55, .slice A55 n55 c55] 48)).alloc (.cells #[.int .u64 seed] 22)).alloc (.cells #[.string s] 9)).alloc (.cells #[.int .i64 a] 3)).alloc (.cells #[.int .i64 k] 3)) (by simp only [World.size_alloc]; omega) (by simp only [World.size_alloc]; omega) (by simp only [World.size_alloc]; omega) (by simp only [World.size_alloc]; omega) hc1 hc2 hc3 hc4 (fun j W v hb hv => big1_any (strN (sB s) seed a k j) (p64 k - p64 k % n) v _ d55 A55 n55 c55 W hv (H55.out.below hb) (strN_in (sB s) seed a k j HKI.out.1).2 HMI.out))
  clear hc1 hc2 hc3 hc4
  refine HTK.out.mono ?_
  rintro e w56 ⟨v, rfl, h, b⟩
  obtain ⟨d56, A56, n56, c56, rfl⟩ := h.shape
  have z56 := b.size
  simp only [World.size_alloc] at z56
  replace z56 := Lib.hid z56
  replace HB := Lib.hid (bstep HB.out b)
  replace Hx := Lib.hid (Hx.out.below b)
  replace R0 := Lib.hid (R0.out.below b)
  replace H52 := Lib.hid (H52.out.below b)
  replace H53 := Lib.hid (H53.out.below b)
  replace H54 := Lib.hid (H54.out.below b)
  replace H55 := Lib.hid (H55.out.below b)
  have V56 := Lib.hid h
  clear h b HTK
  obtain ⟨J, hJ⟩ : ∃ J, bigJ (sB s) seed a n k = J := ⟨_, rfl⟩
  rw [show firstJ (fun j => decide (strN (sB s) seed a k j < p64 k - p64 k % n)) = J from hJ] at V56 ⊢
  obtain ⟨Y, hY⟩ : ∃ Y, Y = ((a + (J + 1) * k : Nat) : Int) := ⟨_, rfl⟩
  rw [← hY]
  have HJ := Lib.hid hJ
  have HY := Lib.hid hY
  clear hJ hY
  have h := HoldI.new V56.out
  have b := al_below w56 (.cells #[.bool d56, .slice A56 n56 c56] 48)
  replace HB := Lib.hid (bstep HB.out b)
  replace Hx := Lib.hid (Hx.out.below b)
  replace R0 := Lib.hid (R0.out.below b)
  replace H52 := Lib.hid (H52.out.below b)
  replace H53 := Lib.hid (H53.out.below b)
  replace H54 := Lib.hid (H54.out.below b)
  replace H55 := Lib.hid (H55.out.below b)
  clear b
  have H56 := Lib.hid h
  clear h V56
  clear H52
  clear H54
  clear H53
  have HSI := Lib.hid (strN_in (sB s) seed a k J HKI.out.1)
  have gH560 := H56.out.c0
  have gH561 := H56.out.c1
  have gHx0 := Hx.out.c0
  have gHx1 := Hx.out.c1
  go_wp2_with fail
  refine (idiv_any (strN (sB s) seed a k J) n _ _ _ H56.out.2 Hx.out.2 HSI.out.2 HBX.out hn0).mono ?_
  rintro e w57 ⟨u, v, rfl, h, h', b⟩
  obtain ⟨d57, A57, n57, c57, rfl⟩ := h.shape
  obtain ⟨d58, A58, n58, c58, rfl⟩ := h'.shape
  clear gH560 gH561 gHx0 gHx1
  have z57 := b.size
  simp only [World.size_alloc] at z57
  replace z57 := Lib.hid z57
  replace HB := Lib.hid (bstep HB.out b)
  replace Hx := Lib.hid (Hx.out.below b)
  replace R0 := Lib.hid (R0.out.below b)
  replace H55 := Lib.hid (H55.out.below b)
  replace H56 := Lib.hid (H56.out.below b)
  have V57 := Lib.hid h
  have V58 := Lib.hid h'
  clear h h' b
  have h := HoldI.new V57.out
  have b := al_below w57 (.cells #[.bool d57, .slice A57 n57 c57] 48)
  replace HB := Lib.hid (bstep HB.out b)
  replace Hx := Lib.hid (Hx.out.below b)
  replace R0 := Lib.hid (R0.out.below b)
  replace H55 := Lib.hid (H55.out.below b)
  replace H56 := Lib.hid (H56.out.below b)
  replace V58 := Lib.hid (V58.out.step b)
  clear b
  have H57 := Lib.hid h
  clear h V57
  have h := HoldI.new V58.out
  simp only [World.size_alloc] at h
  have b := al_below (w57.alloc (.cells #[.bool d57, .slice A57 n57 c57] 48)) (.cells #[.bool d58, .slice A58 n58 c58] 48)
  replace HB := Lib.hid (bstep HB.out b)
  replace Hx := Lib.hid (Hx.out.below b)
  replace R0 := Lib.hid (R0.out.below b)
  replace H55 := Lib.hid (H55.out.below b)
  replace H56 := Lib.hid (H56.out.below b)
  replace H57 := Lib.hid (H57.out.below b)
  clear b
  have H58 := Lib.hid h
  clear h V58
  have gR00 := R0.out.c0
  have yR00 := R0.out.f0
  have gR01 := R0.out.c1
  have yR01 := R0.out.f1
  have gH580 := H58.out.c0
  have gH581 := H58.out.c1
  have HF := Lib.hid (retI (H58.out.2) R0.out HB.out (by omega))
  clear HB Hx R0 H55 H56 H57 H58
  clear HSI HMI HRI HPL HKI HBX HR z51 z52 z53 z55 z56 z57
  go_wp2_with fail
  exact bodyPost_ret (v := .tuple #[.agg #[.bool d58, .slice A58 n58 c58], .int .i64 Y, .int .i64 0]) (by simp [results, Tryd.results28, go_sem, gR00, gR01]) rfl ⟨_, by rw [HY.out, ← HJ.out], by unfold bigV; rw [HJ.out]; exact HF.out.1, HF.out.2.1⟩
end Go.Proofs.YtgfhniiidejmoaaDoor
namespace Go.Proofs.YtgfhniiidejmoaaDoor
open Go.RowKit Go.Shelf
set_option linter.unusedVariables false

/-- the label of the section's examples -/
def xB : ByteArray := ⟨#[120]⟩
theorem below_one (lab : List Int) (seed i : Int) : belowV lab seed i 1 = 0 ∧ belowJ lab seed i 1 = 0 := by
  refine ⟨by unfold belowV; omega, ?_⟩
  have h : IsFirst (fun j => fitW 1 (wordI lab seed (i + j))) 0 := ⟨by omega, .inr (by
    have := (wordI_u64 lab seed (i + (0 : Nat))).2
    unfold fitW
    exact decide_eq_true (by omega)), fun j hj => by omega⟩
  exact firstJ_of h
theorem isK_one : IsK 1 0 := ⟨by omega, by rw [p64_zero]; omega, fun j hj => by omega⟩
theorem pick_mid {r : Int} {k : Nat} (h : IsPick [0, 3, 0] r k) : k = 1 := by
  have h1 := h.pos
  have h2 := h.1
  simp only [List.length_cons, List.length_nil] at h2
  have : k = 0 ∨ k = 1 ∨ k = 2 := by omega
  rcases this with rfl | rfl | rfl
  · simp at h1
  · rfl
  · simp at h1
theorem good_mid : goodW [0, 3, 0] := by
  refine ⟨by decide, fun j hj => ?_, by decide⟩
  simp only [List.length_cons, List.length_nil] at hj
  have : j = 0 ∨ j = 1 ∨ j = 2 := by omega
  rcases this with rfl | rfl | rfl <;> decide
theorem place_one {seed : Int} {L : List Int} (h : PlaceL seed 1 1 L) : L = [0] := by
  obtain ⟨h1, h2⟩ := h
  obtain ⟨y, t, hy, hit⟩ := h2 0 (by omega)
  have h3 := hit.2.2.1
  match L, h1 with
  | [x], _ => simp at hy; rw [hy]; congr 1; omega

theorem three_at (k : IntKind) (w : World) (t : TypeId) (a b c : Int) (g : Nat) (hg : w.heap.size = g) : Sl k (w.alloc (.cells #[.int k a, .int k b, .int k c] t)) (w.alloc (.cells #[.int k a, .int k b, .int k c] t)).heap.size (some ⟨g, 0, none⟩) 3 [a, b, c] := by
  subst hg; exact three_cells k w t a b c
theorem below5 (w : World) : Calls Tryd.prog 18 #[.int .u64 1, .string ⟨#[120]⟩, .int .i64 5, .int .i64 1] w fun e w' => e = .returned (.tuple #[.int .i64 0, .int .i64 6]) ∧ Below w.heap.size w w' := by
  have h := below_any 1 5 1 xB w (by decide) (by omega) (by omega) (by omega) (by omega)
  rw [(below_one _ _ _).1, (below_one _ _ _).2] at h
  exact h
theorem big5 (u : Value) (w : World) (hx : RepI w w.heap.size 1 u) : Calls Tryd.prog 28 #[.int .u64 1, .string ⟨#[120]⟩, .int .i64 5, u] w (Num3 0 5 0 w) := by
  have h := big_any 1 1 5 xB u w hx (by decide +kernel) 0 (by decide) (by omega) (by omega) isK_one
  have h1 : bigV (sB xB) 1 5 1 0 = 0 := by have := bigV_bd (sB xB) 1 5 1 0 (by omega); omega
  rw [h1, Nat.mul_zero] at h
  exact h
theorem pick5 (b d : Nat) (w : World) (hS : Sl .i64 w w.heap.size (some ⟨b, 0, none⟩) 3 [0, 3, 0]) : Calls Tryd.prog 21 #[.int .u64 1, .string ⟨#[120]⟩, .int .i64 5, .slice (some ⟨b, 0, none⟩) 3 3] w fun e w' => ∃ y, e = .returned (.tuple #[.int .i64 1, .int .i64 y, .int .i64 0]) ∧ Below w.heap.size w w' := by
  refine (rpick_good 1 5 xB (some ⟨b, 0, none⟩) 3 3 _ w (by decide) (by omega) (by omega) hS (by omega) good_mid).mono ?_
  rintro e w' ⟨k, hk, rfl, hb⟩
  rw [pick_mid hk]
  exact ⟨_, rfl, hb⟩
theorem shuf9 (w : World) (hR : RoundsAt w) : Calls Tryd.prog 27 #[.int .u64 9, .int .i64 1] w fun e w' => ∃ G, e = .returned (.tuple #[.slice (some ⟨G, 0, none⟩) 1 1, .int .i64 0]) ∧ Sl .i64 w' w'.heap.size (some ⟨G, 0, none⟩) 1 [0] ∧ Below w.heap.size w w' := by
  refine (shuffle_good 9 1 w (by omega) (by omega) hR).mono ?_
  rintro e w' ⟨G, L, rfl, hr, hp, hb⟩
  rw [place_one hp] at hr
  exact ⟨G, rfl, hr.sl 0 1 _ (by simp) hr.lt, hb⟩

set_option maxRecDepth 100000 in
set_option maxHeartbeats 4000000 in
theorem rlives_any (w : World) (hR : RoundsAt w) : Calls Tryd.prog 15 #[] w fun e w' => e = .returned (.bool true) ∧ Below w.heap.size w w' := by
  have HB := Lib.hid (Below.refl w.heap.size w)
  have HR := Lib.hid hR
  clear hR
  go_enter Tryd.func15, Tryd.ntmps15
  go_wp2_with fail
  refine (below5 _).mono ?_
  rintro e w1 ⟨rfl, b⟩
  replace HB := Lib.hid (bstep HB.out b)
  replace HR := Lib.hid (HR.out.below b)
  clear b
  go_wp2_with fail
  refine (from_any 1 _ (by omega) (by omega)).mono ?_
  rintro e w2 ⟨v, rfl, h, b⟩
  replace HB := Lib.hid (bstep HB.out b)
  replace HR := Lib.hid (HR.out.below b)
  have V := Lib.hid h
  clear h b
  go_wp2_with fail
  refine (big5 _ _ V.out).mono ?_
  rintro e w3 ⟨v, rfl, h, b⟩
  obtain ⟨d3, A3, n3, c3, rfl⟩ := h.shape
  replace HB := Lib.hid (bstep HB.out b)
  replace HR := Lib.hid (HR.out.below b)
  clear V b
  have b := al_below w3 (.cells #[.bool d3, .slice A3 n3 c3] 48)
  have H3 := Lib.hid (HoldI.new h)
  replace HB := Lib.hid (bstep HB.out b)
  replace HR := Lib.hid (HR.out.below b)
  clear h b
  go_wp2_with fail
  have hs := three_at .i64 (w3.alloc (.cells #[.bool d3, .slice A3 n3 c3] 48)) 3 0 3 0 (w3.heap.size + 1) (World.size_alloc _ _)
  have b := al_below (w3.alloc (.cells #[.bool d3, .slice A3 n3 c3] 48)) (.cells #[.int .i64 0, .int .i64 3, .int .i64 0] 3)
  replace HB := Lib.hid (bstep HB.out b)
  replace HR := Lib.hid (HR.out.below b)
  replace H3 := Lib.hid (H3.out.below b)
  clear b
  refine (pick5 _ 0 _ hs).mono ?_
  rintro e w4 ⟨y, rfl, b⟩
  replace HB := Lib.hid (bstep HB.out b)
  replace HR := Lib.hid (HR.out.below b)
  replace H3 := Lib.hid (H3.out.below b)
  clear b hs
  go_wp2_with fail
  refine (shuf9 _ HR.out).mono ?_
  rintro e w5 ⟨G, rfl, hs, b⟩
  replace HB := Lib.hid (bstep HB.out b)
  replace H3 := Lib.hid (H3.out.below b)
  have HS := Lib.hid hs
  clear b hs HR
  have g0 := H3.out.c0
  have g1 := H3.out.c1
  go_wp2_with fail
  refine (isign_lim 0 _ _ H3.out.2 (by decide +kernel) 0 rfl).mono ?_
  rintro e w6 ⟨rfl, b⟩
  replace HB := Lib.hid (bstep HB.out b)
  replace HS := Lib.hid (HS.out.below b |>.more b.size)
  clear b g0 g1 H3
  go_wp2_with fail
  have h1 := one_cell .i64 w6 3 0
  have b := al_below w6 (.cells #[.int .i64 0] 3)
  replace HB := Lib.hid (bstep HB.out b)
  replace HS := Lib.hid (HS.out.below b |>.more b.size)
  refine (sameInts _ _ 1 1 1 [0] [0] _ (by decide) HS.out h1).mono ?_
  rintro e w7 ⟨rfl, q, rfl⟩
  replace HB := Lib.hid (below_drewN HB.out q)
  clear HS h1 b
  go_wp2_with fail
  go_ret
  exact ⟨rfl, HB.out⟩
end Go.Proofs.YtgfhniiidejmoaaDoor
