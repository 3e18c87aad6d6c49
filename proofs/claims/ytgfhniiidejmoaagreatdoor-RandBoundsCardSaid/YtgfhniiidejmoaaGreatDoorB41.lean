/- Taking numbers until one fits, at most 64: rand.take[wide.Int]. -/
import Derived.Test.YtgfhniiidejmoaaGreatDoorB40
namespace Go.Proofs.YtgfhniiidejmoaaGreatDoor
open Go.RowKit Go.Shelf
set_option linter.unusedVariables false
attribute [local go_sem] Oper.semAt_some

theorem blkOn {B0 : Nat} {X Y : World} {row : Option Nat} {B : Nat} {t : TypeId} {u v : Value} (h : Blk2 X B t u v) (hg : X.grownBy Y row) (hr : ∀ r, row = some r → B0 ≤ r ∧ ∃ o : Obj, X.heap[r]? = some o ∧ o.isCells = false) : Blk2 Y B t u v :=
  h.grown hg (fun e => by
    obtain ⟨_, o, ho, hc⟩ := hr B e.symm
    rw [show X.heap[B]? = _ from h] at ho; cases ho; cases hc)
theorem holdOn {B0 : Nat} {X Y : World} {row : Option Nat} {B : Nat} {z : Int} {d : Bool} {A : Option Addr} {n c : Nat} (h : HoldI X B z d A n c) (hg : X.grownBy Y row) (hr : ∀ r, row = some r → B0 ≤ r ∧ ∃ o : Obj, X.heap[r]? = some o ∧ o.isCells = false) : HoldI Y B z d A n c :=
  ⟨blkOn h.1 hg hr, repOn h.2 hg (fun r e => (hr r e).2)⟩
/-- a row of the integer is not the box of an int -/
theorem slOff {X : World} {B0 n g : Nat} {A : Option Addr} {zs : List Int} {t : TypeId} {y : Int} {u : Value} (h : Sl .u32 X B0 A n zs) (hb : Boxed X g t (.int .i64 y)) : Sl .u32 (X.setCell ⟨g, 0, none⟩ u) B0 A n zs := by
  refine ⟨h.1, ?_⟩
  by_cases hn : n = 0
  · exact .inl hn
  · obtain ⟨b, off, rfl, hlt, hc⟩ := h.at_ (by omega)
    refine .inr ⟨b, off, rfl, hlt, fun j hj => ?_⟩
    have hne : b ≠ g := by
      rintro rfl
      have h0 := hc 0 (by omega)
      unfold World.cell? at h0
      rw [show X.heap[b]? = _ from hb] at h0
      match off, h0 with
      | 0, h0 => simp at h0
      | k + 1, h0 => simp at h0
    rw [World.cell?_of_block (w := X) (Below.heap_setCell X ⟨g, 0, none⟩ u b hne)]
    exact hc j hj
theorem repOff {X : World} {z : Int} {v u : Value} {g : Nat} {t : TypeId} {y : Int} (h : RepI X X.heap.size z v) (hb : Boxed X g t (.int .i64 y)) : RepI (X.setCell ⟨g, 0, none⟩ u) (X.setCell ⟨g, 0, none⟩ u).heap.size z v := by
  obtain ⟨A, n, c, zs, h1, h2, h3⟩ := h
  rw [rb_sz]
  exact ⟨A, n, c, zs, h1, slOff h2 hb, h3⟩
theorem holdOff {X : World} {B : Nat} {z : Int} {d : Bool} {A : Option Addr} {n c : Nat} {u : Value} {g : Nat} {t : TypeId} {y : Int} (h : HoldI X B z d A n c) (hb : Boxed X g t (.int .i64 y)) (hne : B ≠ g) : HoldI (X.setCell ⟨g, 0, none⟩ u) B z d A n c :=
  ⟨(Below.heap_setCell X ⟨g, 0, none⟩ u B hne).trans h.1, repOff h.2 hb⟩

/-- what lies in the boxes of take -/
def BoxU (w W : World) (z : Nat) (fv : Value) (t zz : Int) (d : Bool) (A : Option Addr) (n c : Nat) (y : Int) : Prop :=
  Boxed W z 63 fv ∧ HoldI W (z + 1) zz d A n c ∧ Boxed W (z + 1 + 1) 3 (.int .i64 y) ∧ Boxed W (z + 1 + 1 + 1) 3 (.int .i64 t) ∧ Below z w W
theorem BoxU.own {w X Y : World} {z B0 : Nat} {fv : Value} {t zz : Int} {d : Bool} {A : Option Addr} {n c : Nat} {y : Int} {row : Option Nat} (h : BoxU w X z fv t zz d A n c y) (hg : X.grownBy Y row) (hr : ∀ r, row = some r → B0 ≤ r ∧ ∃ o : Obj, X.heap[r]? = some o ∧ o.isCells = false) (h1 : z ≤ w.heap.size) (h2 : z ≤ B0) : BoxU w Y z fv t zz d A n c y :=
  ⟨boxOn h.1 hg hr, holdOn h.2.1 hg hr, boxOn h.2.2.1 hg hr, boxOn h.2.2.2.1 hg hr, belowOn h.2.2.2.2 hg hr h1 h2⟩
theorem BoxU.drew {w X : World} {z : Nat} {fv : Value} {t zz : Int} {d : Bool} {A : Option Addr} {n c : Nat} {y : Int} (h : BoxU w X z fv t zz d A n c y) : BoxU w X.drew z fv t zz d A n c y := ⟨h.1, h.2.1, h.2.2.1, h.2.2.2.1, h.2.2.2.2.drew⟩
theorem BoxU.below {w X Y : World} {z : Nat} {fv : Value} {t zz : Int} {d : Bool} {A : Option Addr} {n c : Nat} {y : Int} (h : BoxU w X z fv t zz d A n c y) (hb : Below X.heap.size X Y) (hz : z ≤ w.heap.size) : BoxU w Y z fv t zz d A n c y :=
  ⟨boxBelow h.1 hb h.1.lt, h.2.1.below hb, boxBelow h.2.2.1 hb h.2.2.1.lt, boxBelow h.2.2.2.1 hb h.2.2.2.1.lt, h.2.2.2.2.trans (hb.mono (Nat.le_trans hz h.2.2.2.2.size))⟩
theorem boxSet2 {W : World} {B g : Nat} {t : TypeId} {v u u' : Value} (h : Boxed W B t v) (hne : B ≠ g) : Boxed ((W.setCell ⟨g, 0, none⟩ u).setCell ⟨g, 1, none⟩ u') B t v := (set2_heap W g u u' B hne).trans h
theorem BoxU.x {w W : World} {z : Nat} {fv : Value} {t zz : Int} {d : Bool} {A : Option Addr} {n c : Nat} {y : Int} (h : BoxU w W z fv t zz d A n c y) {zz' : Int} {d' : Bool} {A' : Option Addr} {n' c' : Nat} (hv : RepI W W.heap.size zz' (.agg #[.bool d', .slice A' n' c'])) : BoxU w ((W.setCell ⟨z + 1, 0, none⟩ (.bool d')).setCell ⟨z + 1, 1, none⟩ (.slice A' n' c')) z fv t zz' d' A' n' c' y :=
  ⟨boxSet2 h.1 (by omega), HoldI.made hv h.2.1.1, boxSet2 h.2.2.1 (by omega), boxSet2 h.2.2.2.1 (by omega), (h.2.2.2.2.setCell (p := ⟨z + 1, 0, none⟩) (by simp) _).setCell (p := ⟨z + 1, 1, none⟩) (by simp) _⟩
theorem BoxU.y {w W : World} {z : Nat} {fv : Value} {t zz : Int} {d : Bool} {A : Option Addr} {n c : Nat} {y : Int} (h : BoxU w W z fv t zz d A n c y) (y' : Int) : BoxU w (W.setCell ⟨z + 1 + 1, 0, none⟩ (.int .i64 y')) z fv t zz d A n c y' :=
  ⟨h.1.other (by omega) _, holdOff h.2.1 h.2.2.1 (by omega), h.2.2.1.set _, h.2.2.2.1.other (by omega) _, h.2.2.2.2.setCell (p := ⟨z + 1 + 1, 0, none⟩) (by simp; omega) _⟩
theorem BoxU.t {w W : World} {z : Nat} {fv : Value} {t zz : Int} {d : Bool} {A : Option Addr} {n c : Nat} {y : Int} (h : BoxU w W z fv t zz d A n c y) (t' : Int) : BoxU w (W.setCell ⟨z + 1 + 1 + 1, 0, none⟩ (.int .i64 t')) z fv t' zz d A n c y :=
  ⟨h.1.other (by omega) _, holdOff h.2.1 h.2.2.2.1 (by omega), h.2.2.1.other (by omega) _, h.2.2.2.1.set _, h.2.2.2.2.setCell (p := ⟨z + 1 + 1 + 1, 0, none⟩) (by simp; omega) _⟩
/-- an integer and an index -/
def NumI (z y : Int) (w : World) (e : Ending) (w' : World) : Prop := ∃ v, e = .returned (.tuple #[v, .int .i64 y]) ∧ RepI w' w'.heap.size z v ∧ Below w.heap.size w w'

set_option maxRecDepth 100000 in
set_option maxHeartbeats 4000000 in
theorem takeI_any (seed : Int) (a k : Nat) (s : ByteArray) (hs : s.size ≤ 1000000) (ha : a ≤ 1000000000) (hkk : k ≤ 255) (b1 b2 b3 b4 br : Nat) (p : Nat → Bool) (w : World) (l1 : b1 < w.heap.size) (l2 : b2 < w.heap.size) (l3 : b3 < w.heap.size) (l4 : b4 < w.heap.size)
    (c1 : w.cell? ⟨b1, 0, none⟩ = some (.int .i64 a)) (c2 : w.cell? ⟨b2, 0, none⟩ = some (.int .u64 seed)) (c3 : w.cell? ⟨b3, 0, none⟩ = some (.string s)) (c4 : w.cell? ⟨b4, 0, none⟩ = some (.int .i64 k))
    (hfit : ∀ (j : Nat) (W : World) (v : Value), Below w.heap.size w W → RepI W W.heap.size (strN (sB s) seed a k j) v → Calls Tryz.prog 31 #[v, .pointer (some ⟨br, 0, none⟩)] W fun e W' => e = .returned (.bool (p j)) ∧ Below W.heap.size W W') :
    Calls Tryz.prog 32 #[.func (.func 59) #[] #[.pointer (some ⟨b1, 0, none⟩), .pointer (some ⟨b2, 0, none⟩), .pointer (some ⟨b3, 0, none⟩), .pointer (some ⟨b4, 0, none⟩)], .func (.func 31) #[] #[.pointer (some ⟨br, 0, none⟩)]] w (NumI (strN (sB s) seed a k (firstJ p)) ((a + (firstJ p + 1) * k : Nat) : Int) w) := by
  have HSQ := Lib.hid (numbers1_on 7 (by omega) seed a k s hs ha hkk b1 b2 b3 b4 w l1 l2 l3 l4 c1 c2 c3 c4)
  have HF := Lib.hid hfit
  clear hfit c1 c2 c3 c4 l1 l2 l3 l4
  refine (callsIn_wide (n := 8)).1 ?_
  refine callsIn_of_wp_marks Tryz.func32 rfl trivial ?_ rfl
  simp only [Tryz.ntmps32, List.size_toArray, List.length_cons, List.length_nil, Nat.reduceAdd, Nat.reduceSub, Array.replicate_succ, Array.replicate_zero, List.push_toArray, List.append_toArray, List.nil_append, List.cons_append]
  gi_wp2
  have hb0 : Below w.heap.size w ((((w.alloc (.cells #[.func (.func 31) #[] #[.pointer (some ⟨br, 0, none⟩)]] 63)).alloc (.cells #[.bool false, .slice none 0 0] 36)).alloc (.cells #[.int .i64 0] 3)).alloc (.cells #[.int .i64 0] 3)) :=
    ((((Below.refl _ w).alloc (Nat.le_refl _) _).alloc (by simp) _).alloc (by simp; omega) _).alloc (by simp; omega) _
  have hbx : BoxU w ((((w.alloc (.cells #[.func (.func 31) #[] #[.pointer (some ⟨br, 0, none⟩)]] 63)).alloc (.cells #[.bool false, .slice none 0 0] 36)).alloc (.cells #[.int .i64 0] 3)).alloc (.cells #[.int .i64 0] 3)) w.heap.size (.func (.func 31) #[] #[.pointer (some ⟨br, 0, none⟩)]) 0 0 false none 0 0 0 := by
    have h1 := HoldI.new (RepI.zero (w.alloc (.cells #[.func (.func 31) #[] #[.pointer (some ⟨br, 0, none⟩)]] 63)) _)
    have h2 := Boxed.new ((w.alloc (.cells #[.func (.func 31) #[] #[.pointer (some ⟨br, 0, none⟩)]] 63)).alloc (.cells #[.bool false, .slice none 0 0] 36)) 3 (.int .i64 0)
    have h3 := Boxed.new (((w.alloc (.cells #[.func (.func 31) #[] #[.pointer (some ⟨br, 0, none⟩)]] 63)).alloc (.cells #[.bool false, .slice none 0 0] 36)).alloc (.cells #[.int .i64 0] 3)) 3 (.int .i64 0)
    simp only [World.size_alloc] at h1 h2 h3
    exact ⟨(((Boxed.new w _ _).alloc _).alloc _).alloc _, (h1.below (al_below _ _)).below (al_below _ _), h2.alloc _, h3, hb0⟩
  refine range_on rfl (by omega) (gf := 59) (lb := #[.pointer (some ⟨b1, 0, none⟩), .pointer (some ⟨b2, 0, none⟩), .pointer (some ⟨b3, 0, none⟩), .pointer (some ⟨b4, 0, none⟩)]) rfl trivial (enters_of Tryz.func59 (by kernel_rfl) rfl)
    HSQ.out hb0 belowK_t (belowK_b (by simp; omega)) (fun _ => rfl)
    (fun m W => m < 64 ∧ (∀ j, j < m → p j = false) ∧ ∃ zz d A n c y, BoxU w W w.heap.size (.func (.func 31) #[] #[.pointer (some ⟨br, 0, none⟩)]) m zz d A n c y)
    (fun c W => c = .exit 0 ∧ ∃ m t : Nat, IsFirst p m ∧ ∃ d A n c, BoxU w W w.heap.size (.func (.func 31) #[] #[.pointer (some ⟨br, 0, none⟩)]) t (strN (sB s) seed a k m) d A n c ((a + (m + 1) * k : Nat) : Int))
    (fun k X Y row hs hg hr => ⟨hs.1, hs.2.1, by obtain ⟨zz, d, A, n, c, y, h⟩ := hs.2.2; exact ⟨zz, d, A, n, c, y, h.own hg hr (Nat.le_refl _) (by simp; omega)⟩⟩)
    (fun c X Y row hs hg hr => ⟨hs.1, by obtain ⟨m, t, hf, d, A, n, c', h⟩ := hs.2; exact ⟨m, t, hf, d, A, n, c', h.own hg hr (Nat.le_refl _) (by simp; omega)⟩⟩)
    (fun k W h => h.1) ⟨by omega, fun j hj => by omega, _, _, _, _, _, _, hbx⟩
    (fun q W => ∃ d A n c, q.2.1 = (.agg #[.bool d, .slice A n c], q.1) ∧ q.2.2 = { tmps := #[.func (.func 59) #[] #[.pointer (some ⟨b1, 0, none⟩), .pointer (some ⟨b2, 0, none⟩), .pointer (some ⟨b3, 0, none⟩), .pointer (some ⟨b4, 0, none⟩)], .func (.func 31) #[] #[.pointer (some ⟨br, 0, none⟩)], undef, .pointer (some ⟨w.heap.size, 0, none⟩), .pointer (some ⟨w.heap.size + 1, 0, none⟩), .pointer (some ⟨w.heap.size + 1 + 1, 0, none⟩), .pointer (some ⟨w.heap.size + 1 + 1 + 1, 0, none⟩), .func (.func 59) #[] #[.pointer (some ⟨b1, 0, none⟩), .pointer (some ⟨b2, 0, none⟩), .pointer (some ⟨b3, 0, none⟩), .pointer (some ⟨b4, 0, none⟩)], .agg #[.bool d, .slice A n c], .int .i64 ((a + (q.1 + 1) * k : Nat) : Int), undef, undef, undef, undef, undef, undef, undef, undef, undef, undef, undef], defers := [] } ∧ q.1 < 64 ∧ (∀ j, j < q.1 → p j = false) ∧ BoxU w W w.heap.size (.func (.func 31) #[] #[.pointer (some ⟨br, 0, none⟩)]) q.1 (strN (sB s) seed a k q.1) d A n c ((a + (q.1 + 1) * k : Nat) : Int))
    (fun q X Y row hs hg hr => by obtain ⟨d, A, n, c, h1, h2, h3, h4, h5⟩ := hs; exact ⟨d, A, n, c, h1, h2, h3, h4, h5.own hg hr (Nat.le_refl _) (by simp; omega)⟩) ?assign ?body ?stop
  case assign =>
    rintro l m ⟨v, q⟩ W K ⟨hk, hp, zz0, d0, A0, n0, c0, y0, hB⟩ ⟨hq, hv⟩ hK
    simp only at hq hv
    subst hq
    obtain ⟨d, A, n, c, rfl⟩ := hv.shape
    have e1 := hB.2.1.c0
    have e2 := hB.2.1.c1
    have e3 := hB.2.1.1.f0
    have e4 := hB.2.1.1.f1
    have e5 := hB.2.2.1.cell
    have e6 := hB.2.2.1.frozen
    have HB := Lib.hid hB
    have HP := Lib.hid hp
    have HV := Lib.hid hv
    clear hbx hb0 hB hp hv
    simp only [encN]
    obtain ⟨Y, hY⟩ : ∃ Y, Y = ((a + (q + 1) * k : Nat) : Int) := ⟨_, rfl⟩
    have HYY := Lib.hid hY
    rw [← hY]
    clear hY
    gi_wp2
    refine hK _ _ ((((KeepsOthers.setCell _ _ _).trans (KeepsOthers.setCell _ _ _)).trans (KeepsOthers.setCell _ _ _)).from _) ((((Below.refl _ W).setCell (p := ⟨w.heap.size + 1, 0, none⟩) (by simp) _).setCell (p := ⟨w.heap.size + 1, 1, none⟩) (by simp) _).setCell (p := ⟨w.heap.size + 1 + 1, 0, none⟩) (by simp; omega) _) ⟨d, A, n, c, rfl, by rw [← HYY.out], hk, HP.out, ?_⟩
    rw [← HYY.out]
    exact (HB.out.x HV.out).y _
  case body =>
    rintro l x q a' W ⟨d, A, n, c, h1, h2, hk, hp, hB⟩
    simp only at h1 h2 hk hp hB
    subst h1 h2
    obtain ⟨Y, hY⟩ : ∃ Y, Y = ((a + (x + 1) * k : Nat) : Int) := ⟨_, rfl⟩
    have HYY := Lib.hid hY
    rw [← hY] at hB ⊢
    clear hY
    have e0 := hB.1.cell
    have e1 := hB.2.1.c0
    have e2 := hB.2.1.c1
    have e3 := hB.2.2.2.1.cell
    have e4 := hB.2.2.2.1.frozen
    have HB := Lib.hid hB
    have HP := Lib.hid hp
    clear hbx hb0 hB hp
    have HT := Lib.hid (HB.out.t ((x : Int) + 1))
    by_cases h63 : x = 63
    · have hd : (((x : Int) + 1 == 64)) = true := by simp; omega
      have H63 := Lib.hid h63
      clear h63
      gi_wp2
      refine ⟨fun _ h => (by cases h), ?_⟩
      gi_wp2
      exact ⟨(KeepsOthers.setCell _ _ _).from _, rfl, x, x + 1, ⟨by omega, .inl H63.out, HP.out⟩, d, A, n, c, by rw [← HYY.out]; have := HT.out; simpa using this⟩
    · have hd : (((x : Int) + 1 == 64)) = false := by simp; omega
      have hcall := HF.out x (W.setCell ⟨w.heap.size + 1 + 1 + 1, 0, none⟩ (.int .i64 (x + 1))) (.agg #[.bool d, .slice A n c]) HT.out.2.2.2.2 HT.out.2.1.2
      have HC := Lib.hid hcall
      have HK := Lib.hid (show Below w.heap.size W (W.setCell ⟨w.heap.size + 1 + 1 + 1, 0, none⟩ (.int .i64 (x + 1))) from (Below.refl _ W).setCell (p := ⟨w.heap.size + 1 + 1 + 1, 0, none⟩) (by simp; omega) _)
      clear hcall
      cases hpk : p x
      · rw [hpk] at HC
        have HPK := Lib.hid hpk
        clear hpk
        gi_wp2_with (refine ⟨trivial, ?_⟩; gi_at_call 31; refine (CallsIn.inRound l (callsIn_wide.2 HC.out)).mono ?_; rintro e w5 ⟨rfl, hb⟩; have HT5 := Lib.hid (HT.out.below hb (Nat.le_refl _)); have HK5 := Lib.hid (HK.out.trans (hb.mono (by have := HT.out.1.lt; omega))); have HBB := Lib.hid hb; clear hb)
        exact ⟨((KeepsOthers.setCell _ _ _).from _).trans (belowKeeps HBB.out _), HK5.out, by omega, fun j hj => by
          by_cases e : j = x
          · rw [e]; exact HPK.out
          · exact HP.out j (by omega), _, _, _, _, _, _, by have := HT5.out; simpa using this⟩
      · rw [hpk] at HC
        have HPK := Lib.hid hpk
        clear hpk
        gi_wp2_with (refine ⟨trivial, ?_⟩; gi_at_call 31; refine (CallsIn.inRound l (callsIn_wide.2 HC.out)).mono ?_; rintro e w5 ⟨rfl, hb⟩; have HT5 := Lib.hid (HT.out.below hb (Nat.le_refl _)); have HK5 := Lib.hid (HK.out.trans (hb.mono (by have := HT.out.1.lt; omega))); have HBB := Lib.hid hb; clear hb)
        exact ⟨((KeepsOthers.setCell _ _ _).from _).trans (belowKeeps HBB.out _), rfl, x, x + 1, ⟨by omega, .inr HPK.out, HP.out⟩, d, A, n, c, by rw [← HYY.out]; have := HT5.out; simpa using this⟩
  case stop =>
    rintro D c W hD ⟨rfl, m, t, hF, d, A, n, c, hB⟩ hDef
    have HJ := Lib.hid (firstJ_of hF)
    clear hF
    obtain ⟨Y, hY⟩ : ∃ Y, Y = ((a + (m + 1) * k : Nat) : Int) := ⟨_, rfl⟩
    have HYY := Lib.hid hY
    rw [← hY] at hB
    clear hY
    have e1 := hB.2.1.c0
    have e2 := hB.2.1.c1
    have e3 := hB.2.1.1.f0
    have e4 := hB.2.1.1.f1
    have e5 := hB.2.2.1.cell
    have e6 := hB.2.2.1.frozen
    have HB := Lib.hid hB
    have HD := Lib.hid hDef
    clear hbx hb0 hB hDef
    gi_wp2
    gi_region
    obtain ⟨X, hX0⟩ : ∃ X, X = (((W.setCell ⟨w.heap.size + 1, 0, none⟩ (.bool d)).setCell ⟨w.heap.size + 1, 1, none⟩ (.slice A n c)).setCell ⟨w.heap.size + 1 + 1, 0, none⟩ (.int .i64 Y)).drew := ⟨_, rfl⟩
    have hD2 : X.heap[D]? = some (.deferred (some [])) := by rw [hX0]; exact (KeepsOthers.setCell _ _ _).same D _ ((KeepsOthers.setCell _ _ _).same D _ ((KeepsOthers.setCell _ _ _).same D _ HD.out rfl) rfl) rfl
    have hX := (((HB.out.x HB.out.2.1.2).y Y).drew).own (grownBy_putObj' _ D (.deferred none)) (B0 := D) (fun r e => by cases e; exact ⟨Nat.le_refl _, _, by rw [← hX0]; exact hD2, rfl⟩) (Nat.le_refl _) (by simp at hD; omega)
    rw [← hX0] at hX
    have hx1 := hX.2.1.c0
    have hx2 := hX.2.1.c1
    have hx3 := hX.2.2.1.cell
    have HX := Lib.hid hX.2.2.2.2
    have HR := Lib.hid hX.2.1.2
    have HD2 := Lib.hid hD2
    have HX0 := Lib.hid hX0
    clear hX hD2 hX0
    all_goals
      gi_wp2
      rw [← HX0.out]
      refine ⟨by simp, .inl ⟨_, _, rfl, run_takeDeferred HD2.out, ?_⟩⟩
      exact ⟨.tuple #[.agg #[.bool d, .slice A n c], .int .i64 Y], by simp [results, Tryz.results32, go_sem, hx1, hx2, hx3], _, by rw [HJ.out, HYY.out], by rw [HJ.out]; exact HR.out, HX.out⟩
end Go.Proofs.YtgfhniiidejmoaaGreatDoor
