/- Layer 4's laws: number, whole, equal. · A region that draws its order, by what stays true: as XInv, for boxes of four cells. · Operations of a region with boxes of four cells: the reference's fractions. · Layer 4's laws: of; the region of lives. -/
import Derived.Test.YtocooajlfpngdaaGreatDoorB40
import Derived.Test.YtocooajlfpngdaaGreatDoorB33
import Derived.Test.YtocooajlfpngdaaGreatDoorB39
import Derived.Test.YtocooajlfpngdaaGreatDoorB35
namespace Go.Proofs.YtocooajlfpngdaaGreatDoor
open Go.RowKit
set_option linter.unusedVariables false

theorem divInt_one (n : Int) : Rat.divInt n 1 = (n : Rat) := by
  refine Rat.ext ?_ ?_
  · rw [rat_num (by decide)]
    simp
  · have h := rat_den (p := n) (q := 1) (by decide)
    simp at h
    show (Rat.divInt n 1).den = 1
    omega
set_option maxRecDepth 100000 in
set_option maxHeartbeats 4000000 in
theorem number_law (x : Int) (u : Value) (w : World) (hx : RepN w w.heap.size x u) (bx : (x.natAbs : Int) < lim) :
    Calls Tryz.prog 18 #[u] w (NewI x w) := by
  have HB := Lib.hid (Below.refl w.heap.size w)
  obtain ⟨dx, Ax, nx, cx, rfl⟩ := hx.shape'
  have Vx := Lib.hid hx
  clear hx
  replace bx := Lib.hid bx
  go_enter Tryz.func18, Tryz.ntmps18
  have h := HoldN.new Vx.out
  have b := al_below w (.cells #[.bool dx, .slice Ax nx cx] 24)
  replace HB := Lib.hid (bstep HB.out b)
  clear b
  have Hx := Lib.hid h
  clear h Vx
  have h := Blk2.new (w.alloc (.cells #[.bool dx, .slice Ax nx cx] 24)) 34 (.bool false) (.slice none 0 0)
  simp only [World.size_alloc] at h
  have b := al_below (w.alloc (.cells #[.bool dx, .slice Ax nx cx] 24)) (.cells #[.bool false, .slice none 0 0] 34)
  replace HB := Lib.hid (bstep HB.out b)
  replace Hx := Lib.hid (Hx.out.below b)
  clear b
  have R0 := Lib.hid (show Blk2 _ (w.heap.size + 1) 34 (.bool false) (.slice none 0 0) from h)
  clear h
  go_wp2_with fail
  refine (gtext_as x _ _ Hx.out.2 bx.out _ rfl).mono ?_
  rintro e w51 ⟨rfl, b⟩
  have z51 := b.size
  simp only [World.size_alloc] at z51
  replace z51 := Lib.hid z51
  replace HB := Lib.hid (bstep HB.out b)
  replace Hx := Lib.hid (Hx.out.below b)
  replace R0 := Lib.hid (R0.out.below b)
  clear b
  go_wp2_with fail
  refine (iparse_as (strB (decT x)) (decT x) (strB_list _) _ x 0 (read_back bx.out)).mono ?_
  rintro e w52 ⟨v, rfl, h, b⟩
  obtain ⟨d52, A52, n52, c52, rfl⟩ := h.shape
  have z52 := b.size
  replace z52 := Lib.hid z52
  replace HB := Lib.hid (bstep HB.out b)
  replace Hx := Lib.hid (Hx.out.below b)
  replace R0 := Lib.hid (R0.out.below b)
  have V52 := Lib.hid h
  clear h b
  have h := HoldI.new V52.out
  have b := al_below w52 (.cells #[.bool d52, .slice A52 n52 c52] 34)
  replace HB := Lib.hid (bstep HB.out b)
  replace Hx := Lib.hid (Hx.out.below b)
  replace R0 := Lib.hid (R0.out.below b)
  clear b
  have H52 := Lib.hid h
  clear h V52
  have gR00 := R0.out.c0
  have yR00 := R0.out.f0
  have gR01 := R0.out.c1
  have yR01 := R0.out.f1
  have HF := Lib.hid (retI (H52.out.2) R0.out HB.out (by omega))
  clear HB Hx R0 H52
  clear bx
  go_wp2_with fail
  exact bodyPost_ret (v := .agg #[.bool d52, .slice A52 n52 c52]) (by simp [results, Tryz.results18, go_sem, gR00, gR01]) rfl ⟨_, rfl, HF.out.1, HF.out.2.1⟩
set_option maxRecDepth 100000 in
set_option maxHeartbeats 4000000 in
theorem whole_law (n : Int) (w : World) (hp : -9223372036854775808 ≤ n ∧ n ≤ 9223372036854775807) :
    Calls Tryz.prog 22 #[.int .i64 n] w (NewF (n : Rat) w) := by
  have HB := Lib.hid (Below.refl w.heap.size w)
  replace hp := Lib.hid hp
  go_enter Tryz.func22, Tryz.ntmps22
  have h := Blk4.new w 36 (.bool false) (.slice none 0 0) (.bool false) (.slice none 0 0)
  have b := al_below w (.cells #[.bool false, .slice none 0 0, .bool false, .slice none 0 0] 36)
  replace HB := Lib.hid (bstep HB.out b)
  clear b
  have R0 := Lib.hid (show Blk4 _ (w.heap.size) 36 (.bool false) (.slice none 0 0) (.bool false) (.slice none 0 0) from h)
  clear h
  go_wp2_with fail
  have HM := fof_any n 1 (w.alloc (.cells #[.bool false, .slice none 0 0, .bool false, .slice none 0 0] 36)) hp.out (by omega)
  rw [divInt_one, make_nz (by omega)] at HM
  refine (HM).mono ?_
  rintro e w51 ⟨v, rfl, h, b⟩
  obtain ⟨d51, A51, n51, c51, e51, E51, m51, f51, rfl⟩ := h.shape
  have z51 := b.size
  simp only [World.size_alloc] at z51
  replace z51 := Lib.hid z51
  replace HB := Lib.hid (bstep HB.out b)
  replace R0 := Lib.hid (R0.out.below b)
  have V51 := Lib.hid h
  clear h b
  clear HM
  have h := HoldQ.new V51.out
  have b := al_below w51 (.cells #[.bool d51, .slice A51 n51 c51, .bool e51, .slice E51 m51 f51] 36)
  replace HB := Lib.hid (bstep HB.out b)
  replace R0 := Lib.hid (R0.out.below b)
  clear b
  have H51 := Lib.hid h
  clear h V51
  have gR00 := R0.out.c0
  have yR00 := R0.out.f0
  have gR01 := R0.out.c1
  have yR01 := R0.out.f1
  have gR02 := R0.out.c2
  have yR02 := R0.out.f2
  have gR03 := R0.out.c3
  have yR03 := R0.out.f3
  have HF := Lib.hid (retQ (H51.out.2) R0.out HB.out (by omega))
  clear HB R0 H51
  clear hp
  go_wp2_with fail
  exact bodyPost_ret (v := .agg #[.bool d51, .slice A51 n51 c51, .bool e51, .slice E51 m51 f51]) (by simp [results, Tryz.results22, go_sem, gR00, gR01, gR02, gR03]) rfl ⟨_, rfl, HF.out.1, HF.out.2.1⟩
set_option maxRecDepth 100000 in
set_option maxHeartbeats 4000000 in
theorem equal_law (a b : Rat) (u v : Value) (w : World) (ha : RepF w w.heap.size a u) (hb : RepF w w.heap.size b v) (ia : InF a) (ib : InF b) :
    Calls Tryz.prog 41 #[u, v] w (fun e w' => e = .returned (.bool (decide (textQ a = textQ b))) ∧ Below w.heap.size w w') := by
  obtain ⟨S1, h1⟩ : ∃ S, strB (textQ a) = S := ⟨_, rfl⟩
  obtain ⟨S2, h2⟩ : ∃ S, strB (textQ b) = S := ⟨_, rfl⟩
  have hcmp : (S1.toList == S2.toList) = decide (textQ a = textQ b) := by
    rw [← h1, ← h2, Lib.toList_data, Lib.toList_data, strB_list, strB_list]
    by_cases e : textQ a = textQ b
    · rw [e]; simp
    · rw [decide_eq_false e]; simp [e]
  obtain ⟨r, hr⟩ : ∃ r, r = decide (textQ a = textQ b) := ⟨_, rfl⟩
  rw [← hr] at hcmp ⊢
  have H1 := Lib.hid h1
  have H2 := Lib.hid h2
  clear h1 h2 hr
  have HB := Lib.hid (Below.refl w.heap.size w)
  obtain ⟨da, Aa, na, ca, ea, Ea, ma, fa, rfl⟩ := ha.shape
  have Va := Lib.hid ha
  clear ha
  obtain ⟨db, Ab, nb, cb, eb, Eb, mb, fb, rfl⟩ := hb.shape
  have Vb := Lib.hid hb
  clear hb
  replace ia := Lib.hid ia
  replace ib := Lib.hid ib
  go_enter Tryz.func41, Tryz.ntmps41
  have h := HoldQ.new Va.out
  have b := al_below w (.cells #[.bool da, .slice Aa na ca, .bool ea, .slice Ea ma fa] 36)
  replace HB := Lib.hid (bstep HB.out b)
  replace Vb := Lib.hid (Vb.out.step b)
  clear b
  have Ha := Lib.hid h
  clear h Va
  have h := HoldQ.new Vb.out
  simp only [World.size_alloc] at h
  have b := al_below (w.alloc (.cells #[.bool da, .slice Aa na ca, .bool ea, .slice Ea ma fa] 36)) (.cells #[.bool db, .slice Ab nb cb, .bool eb, .slice Eb mb fb] 36)
  replace HB := Lib.hid (bstep HB.out b)
  replace Ha := Lib.hid (Ha.out.below b)
  clear b
  have Hb := Lib.hid h
  clear h Vb
  obtain ⟨W51, hW⟩ : ∃ W, W = ((w.alloc (.cells #[.bool da, .slice Aa na ca, .bool ea, .slice Ea ma fa] 36)).alloc (.cells #[.bool db, .slice Ab nb cb, .bool eb, .slice Eb mb fb] 36)) := ⟨_, rfl⟩
  have HW := Lib.hid hW
  rw [← hW] at HB
  rw [← hW] at Ha
  rw [← hW] at Hb
  clear hW
  go_wp2_with fail
  rw [← HW.out]
  clear HW
  have qHa0 := Ha.out.c0
  have qHa1 := Ha.out.c1
  have qHa2 := Ha.out.c2
  have qHa3 := Ha.out.c3
  have qHb0 := Hb.out.c0
  have qHb1 := Hb.out.c1
  have qHb2 := Hb.out.c2
  have qHb3 := Hb.out.c3
  go_region_held3 (fun w' => w'.cell? ⟨w.heap.size, 0, none⟩ = some (.bool da) ∧ w'.cell? ⟨w.heap.size, 1, none⟩ = some (.slice Aa na ca) ∧ w'.cell? ⟨w.heap.size, 2, none⟩ = some (.bool ea) ∧ w'.cell? ⟨w.heap.size, 3, none⟩ = some (.slice Ea ma fa) ∧ w'.cell? ⟨w.heap.size + 1, 0, none⟩ = some (.bool db) ∧ w'.cell? ⟨w.heap.size + 1, 1, none⟩ = some (.slice Ab nb cb) ∧ w'.cell? ⟨w.heap.size + 1, 2, none⟩ = some (.bool eb) ∧ w'.cell? ⟨w.heap.size + 1, 3, none⟩ = some (.slice Eb mb fb))
    (exact ⟨by first | with_reducible assumption | (simp only [World.cell?_drew]; with_reducible assumption) | (try simp only [World.cell?_drew]); repeat' (first | with_reducible assumption | with_reducible refine cell_set2 ?_ (by omega) | with_reducible refine cell_set4 ?_ (by omega)), by first | with_reducible assumption | (simp only [World.cell?_drew]; with_reducible assumption) | (try simp only [World.cell?_drew]); repeat' (first | with_reducible assumption | with_reducible refine cell_set2 ?_ (by omega) | with_reducible refine cell_set4 ?_ (by omega)), by first | with_reducible assumption | (simp only [World.cell?_drew]; with_reducible assumption) | (try simp only [World.cell?_drew]); repeat' (first | with_reducible assumption | with_reducible refine cell_set2 ?_ (by omega) | with_reducible refine cell_set4 ?_ (by omega)), by first | with_reducible assumption | (simp only [World.cell?_drew]; with_reducible assumption) | (try simp only [World.cell?_drew]); repeat' (first | with_reducible assumption | with_reducible refine cell_set2 ?_ (by omega) | with_reducible refine cell_set4 ?_ (by omega)), by first | with_reducible assumption | (simp only [World.cell?_drew]; with_reducible assumption) | (try simp only [World.cell?_drew]); repeat' (first | with_reducible assumption | with_reducible refine cell_set2 ?_ (by omega) | with_reducible refine cell_set4 ?_ (by omega)), by first | with_reducible assumption | (simp only [World.cell?_drew]; with_reducible assumption) | (try simp only [World.cell?_drew]); repeat' (first | with_reducible assumption | with_reducible refine cell_set2 ?_ (by omega) | with_reducible refine cell_set4 ?_ (by omega)), by first | with_reducible assumption | (simp only [World.cell?_drew]; with_reducible assumption) | (try simp only [World.cell?_drew]); repeat' (first | with_reducible assumption | with_reducible refine cell_set2 ?_ (by omega) | with_reducible refine cell_set4 ?_ (by omega)), by first | with_reducible assumption | (simp only [World.cell?_drew]; with_reducible assumption) | (try simp only [World.cell?_drew]); repeat' (first | with_reducible assumption | with_reducible refine cell_set2 ?_ (by omega) | with_reducible refine cell_set4 ?_ (by omega))⟩)
    (first
      | (go_at_call 51
         with_reducible show Calls Tryz.prog 51 #[.agg #[.bool da, .slice Aa na ca, .bool ea, .slice Ea ma fa]] _ _
         refine (fstring_as a _ _ (Ha.out.2.step (by repeat' (first | with_reducible exact Below.refl _ _ | with_reducible assumption | with_reducible refine below_drew ?_))) ia.out S1 H1.out).mono ?_
         rintro e w52 ⟨rfl, b52⟩
         have hb52 : Below W51.heap.size W51 w52 := bstep (by repeat' (first | with_reducible exact Below.refl _ _ | with_reducible assumption | with_reducible refine below_drew ?_)) b52
         replace qHa0 := cell_below (Ha.out.c0) hb52
         replace qHa1 := cell_below (Ha.out.c1) hb52
         replace qHa2 := cell_below (Ha.out.c2) hb52
         replace qHa3 := cell_below (Ha.out.c3) hb52
         replace qHb0 := cell_below (Hb.out.c0) hb52
         replace qHb1 := cell_below (Hb.out.c1) hb52
         replace qHb2 := cell_below (Hb.out.c2) hb52
         replace qHb3 := cell_below (Hb.out.c3) hb52)
      | (go_at_call 51
         with_reducible show Calls Tryz.prog 51 #[.agg #[.bool db, .slice Ab nb cb, .bool eb, .slice Eb mb fb]] _ _
         refine (fstring_as b _ _ (Hb.out.2.step (by repeat' (first | with_reducible exact Below.refl _ _ | with_reducible assumption | with_reducible refine below_drew ?_))) ib.out S2 H2.out).mono ?_
         rintro e w53 ⟨rfl, b53⟩
         have hb53 : Below W51.heap.size W51 w53 := bstep (by repeat' (first | with_reducible exact Below.refl _ _ | with_reducible assumption | with_reducible refine below_drew ?_)) b53
         replace qHa0 := cell_below (Ha.out.c0) hb53
         replace qHa1 := cell_below (Ha.out.c1) hb53
         replace qHa2 := cell_below (Ha.out.c2) hb53
         replace qHa3 := cell_below (Ha.out.c3) hb53
         replace qHb0 := cell_below (Hb.out.c0) hb53
         replace qHb1 := cell_below (Hb.out.c1) hb53
         replace qHb2 := cell_below (Hb.out.c2) hb53
         replace qHb3 := cell_below (Hb.out.c3) hb53
         replace HB := Lib.hid (bstep HB.out hb53)
         replace Ha := Lib.hid (Ha.out.below hb53)
         replace Hb := Lib.hid (Hb.out.below hb53)
         clear b52 hb52 b53 hb53))
  clear qHa0 qHa1 qHa2 qHa3 qHb0 qHb1 qHb2 qHb3
  have HF := HB.out
  clear ia ib H1 H2
  clear HB Ha Hb
  go_wp2_with fail
  go_ret
  exact ⟨rfl, HF⟩
end Go.Proofs.YtocooajlfpngdaaGreatDoor
namespace Go.Proofs.YtocooajlfpngdaaGreatDoor
open Go.RowKit
set_option linter.unusedVariables false

/-- what an operation of the region does: it yields a value, it makes a box, it fills one -/
inductive Cls4 where
  | val (d : Tmp) (F : Value → World → Prop)
  | new (d : Tmp)
  | put (s : Tmp) (F : Value → World → Prop)
def Cls4.dst : Cls4 → Option Tmp
  | .val d _ => some d
  | .new d => some d
  | .put _ _ => none
def Cls4.box : Cls4 → Option Tmp
  | .put s _ => some s
  | _ => none
/-- it stays true behind whatever a call writes, and behind a store into a box -/
def Stb4 (ty : TypeId) (F : Value → World → Prop) : Prop := (∀ v w w', F v w → Below w.heap.size w w' → F v w') ∧
  (∀ v w g d A n c d' A' n' c' x y z u, F v w → Blk4 w g ty (.bool d) (.slice A n c) (.bool d') (.slice A' n' c') → F v (set4 w g x y z u))
def Fact4 (ty : TypeId) (w0 : World) (a : Act) (w : World) : Cls4 → Prop
  | .val d F => ∃ v, a.tmps[d]? = some v ∧ F v w
  | .new d => ∃ g, a.tmps[d]? = some (.pointer (some ⟨g, 0, none⟩)) ∧ w0.heap.size ≤ g ∧ ∃ e A n c e' A' n' c', Blk4 w g ty (.bool e) (.slice A n c) (.bool e') (.slice A' n' c')
  | .put s F => ∃ g, a.tmps[s]? = some (.pointer (some ⟨g, 0, none⟩)) ∧ w0.heap.size ≤ g ∧ ∃ e A n c e' A' n' c', Blk4 w g ty (.bool e) (.slice A n c) (.bool e') (.slice A' n' c') ∧ F (.agg #[.bool e, .slice A n c, .bool e', .slice A' n' c']) w
def Cls4.stb (ty : TypeId) : Cls4 → Prop
  | .val _ F => Stb4 ty F
  | .new _ => True
  | .put _ F => Stb4 ty F
structure StI4 (ty : TypeId) (cl : List Cls4) (a0 : Act) (w0 : World) (l : Array Bool) (a : Act) (w : World) : Prop where
  len : l.size = cl.length
  defers : a.defers = a0.defers
  size : a.tmps.size = a0.tmps.size
  same : ∀ t, some t ∉ cl.map Cls4.dst → a.tmps[t]? = a0.tmps[t]?
  below : Below w0.heap.size w0 w
  fact : ∀ k c, cl[k]? = some c → l.getD k false = true → Fact4 ty w0 a w c
  apart : ∀ (k k' : Nat) (s s' : Tmp) (g : Nat), k ≠ k' → cl[k]? = some (.new s) → cl[k']? = some (.new s') → l.getD k false = true → l.getD k' false = true → a.tmps[s]? = some (.pointer (some ⟨g, 0, none⟩)) → a.tmps[s']? = some (.pointer (some ⟨g, 0, none⟩)) → False
/-- what is owed for one operation -/
def Owed4 (P : Program) (ops : Array Oper) (Q : Exit → Act → World → Prop) (ty : TypeId) (cl : List Cls4) (a0 : Act) (w0 : World) (k : Nat) : Cls4 → Prop
  | .val d F => ∀ (l : Array Bool) (a : Act) (w : World), StI4 ty cl a0 w0 l a w → (∀ o, ops[k]? = some o → ∀ e ∈ o.after, Region.binds .any e = true → l.getD e.on false = true) → ∀ K : Act → World → Prop, (∀ v w', F v w' → Below w.heap.size w w' → K (a.put (some d) v) w') → wpOp P ops Q k K a w
  | .new d => ∀ (a : Act) (w : World) (K : Act → World → Prop), K (a.put (some d) (.pointer (some ⟨w.heap.size, 0, none⟩))) (w.alloc (.cells #[.bool false, .slice none 0 0, .bool false, .slice none 0 0] ty)) → wpOp P ops Q k K a w
  | .put s F => (∃ k' : Nat, cl[k']? = some (.new s)) ∧ ∀ (l : Array Bool) (a : Act) (w : World), StI4 ty cl a0 w0 l a w → (∀ o, ops[k]? = some o → ∀ e ∈ o.after, Region.binds .any e = true → l.getD e.on false = true) →
      ∃ g e A n c e' A' n' c' e0 A0 n0 c0 e1 A1 n1 c1, a.tmps[s]? = some (.pointer (some ⟨g, 0, none⟩)) ∧ w0.heap.size ≤ g ∧ Blk4 w g ty (.bool e0) (.slice A0 n0 c0) (.bool e1) (.slice A1 n1 c1) ∧ F (.agg #[.bool e, .slice A n c, .bool e', .slice A' n' c']) w ∧
        ∀ K : Act → World → Prop, K a (set4 w g (.bool e) (.slice A n c) (.bool e') (.slice A' n' c')) → wpOp P ops Q k K a w
theorem mem_dst4 {cl : List Cls4} {k : Nat} {c : Cls4} {d : Tmp} (h : cl[k]? = some c) (hd : c.dst = some d) : some d ∈ cl.map Cls4.dst := by
  rw [← hd]
  exact List.mem_map_of_mem (List.mem_of_getElem? h)
/-- a fact stays behind a step that writes the slot d of another operation -/
theorem Fact4.put {ty : TypeId} {w0 w w' : World} {a : Act} {c : Cls4} {d : Tmp} {v : Value} (h : Fact4 ty w0 a w c) (hs : c.stb ty) (hb : Below w.heap.size w w') (h1 : c.dst ≠ some d) (h2 : c.box ≠ some d) : Fact4 ty w0 (a.put (some d) v) w' c := by
  cases c with
  | val e F =>
    obtain ⟨u, hu, hF⟩ := h
    refine ⟨u, ?_, hs.1 _ _ _ hF hb⟩
    rw [put_get, if_neg (fun x => h1 (by rw [x.1]; rfl)), if_neg (fun x => h1 (by rw [x]; rfl))]
    exact hu
  | new e =>
    obtain ⟨g, hg, h3, e', A, n, c, e2, A2, n2, c2, h4⟩ := h
    refine ⟨g, ?_, h3, e', A, n, c, e2, A2, n2, c2, h4.below hb⟩
    rw [put_get, if_neg (fun x => h1 (by rw [x.1]; rfl)), if_neg (fun x => h1 (by rw [x]; rfl))]
    exact hg
  | put e F =>
    obtain ⟨g, hg, h3, e', A, n, c, e2, A2, n2, c2, h4, h5⟩ := h
    refine ⟨g, ?_, h3, e', A, n, c, e2, A2, n2, c2, h4.below hb, hs.1 _ _ _ h5 hb⟩
    rw [put_get, if_neg (fun x => h2 (by rw [x.1]; rfl)), if_neg (fun x => h2 (by rw [x]; rfl))]
    exact hg
theorem fact_lt4 {ty : TypeId} {w0 w : World} {a : Act} {d : Tmp} {g : Nat} (h : Fact4 ty w0 a w (.new d)) (hg : a.tmps[d]? = some (.pointer (some ⟨g, 0, none⟩))) : g < w.heap.size := by
  obtain ⟨g', hg', _, e, A, n, c, e2, A2, n2, c2, h4⟩ := h
  rw [hg] at hg'
  cases hg'
  exact h4.lt
theorem wp_region_boxes4 {P : Program} {id : Nat} {ops : Array Oper} {Q : Exit → Act → World → Prop} {ty : TypeId} {cl : List Cls4} {a0 : Act} {w0 : World} (hm : P.follows .mixedOrders = true)
    (hsz : ops.size = cl.length) (hfit : ∀ c ∈ cl, ∀ d, c.dst = some d → d < a0.tmps.size) (hdst : ∀ (k k' : Nat) (c c' : Cls4) (d : Tmp), cl[k]? = some c → cl[k']? = some c' → c.dst = some d → c'.dst = some d → k = k')
    (hbox : ∀ (k k' : Nat) (c c' : Cls4) (s : Tmp), cl[k]? = some c → cl[k']? = some c' → c.box = some s → c'.box = some s → k = k')
    (hput : ∀ (k k' : Nat) (c c' : Cls4) (s : Tmp), cl[k]? = some c → cl[k']? = some c' → c.box = some s → c'.dst = some s → ∃ o, ops[k]? = some o ∧ ∃ e ∈ o.after, e.on = k' ∧ Region.binds .any e = true)
    (hback : ∀ (k : Nat) (o : Oper), ops[k]? = some o → ∀ e ∈ o.after, Region.binds .any e = true → e.on < k)
    (hstb : ∀ c ∈ cl, c.stb ty) (howed : ∀ k c, cl[k]? = some c → Owed4 P ops Q ty cl a0 w0 k c)
    (hQ : ∀ (l : Array Bool) (a : Act) (w : World), StI4 ty cl a0 w0 l a w → (∀ k < cl.length, l.getD k false = true) → Q .normal a w) : (Code.region id ops true).wp P Q a0 w0 := by
  refine wp_region_any hm (wpAny_inv (I := fun l a w => StI4 ty cl a0 w0 l a w ∧ ∀ k k' c c' s, cl[k]? = some c → cl[k']? = some c' → c.box = some s → c'.dst = some s → l.getD k false = true → l.getD k' false = true) ?_ ?_ ops.size _ _ _ ⟨?_, ?_⟩ ?_)
  · rintro l a w i ⟨h, hbd⟩ hi
    obtain ⟨h0, o, ho, hdep⟩ := mem_ready.1 hi
    have hil : i < cl.length := hsz ▸ (Array.getElem?_eq_some_iff.1 ho).1
    obtain ⟨c, hc⟩ : ∃ c, cl[i]? = some c := ⟨cl[i], List.getElem?_eq_getElem hil⟩
    have hl0 : ∀ {k : Nat}, l.getD k false = true → k ≠ i := by
      rintro k hk rfl
      have h2 : k < l.size := by rw [h.len]; exact hil
      simp [Array.getD, h2] at hk h0
      rw [h0] at hk
      cases hk
    have hli : (l.setIfInBounds i true).getD i false = true := by
      have h2 : i < l.size := by rw [h.len]; exact hil
      simp [Array.getD, h2]
    have hbd' : ∀ k k' c c' s, cl[k]? = some c → cl[k']? = some c' → c.box = some s → c'.dst = some s → (l.setIfInBounds i true).getD k false = true → (l.setIfInBounds i true).getD k' false = true := by
      intro k k' c c' s h1 h2 h3 h4 h5
      have keep : l.getD k' false = true → (l.setIfInBounds i true).getD k' false = true := fun h6 => by
        by_cases e : k' = i
        · rw [e]; exact hli
        · simp only [Array.getD_eq_getD_getElem?] at h6 ⊢
          rwa [Array.getElem?_setIfInBounds_ne (Ne.symm e)]
      rcases getD_set_true h5 with rfl | h6
      · obtain ⟨o', ho', e, he, hk, hb⟩ := hput k k' c c' s h1 h2 h3 h4
        have h7 : o' = o := by rw [ho] at ho'; exact (Option.some.inj ho').symm
        subst h7
        exact keep (hk ▸ hdep e he hb)
      · exact keep (hbd k k' c c' s h1 h2 h3 h4 h6)
    have how := howed i c hc
    have hdep' : ∀ o', ops[i]? = some o' → ∀ e ∈ o'.after, Region.binds .any e = true → l.getD e.on false = true := fun o' ho' => by
      have h7 : o' = o := by rw [ho] at ho'; exact (Option.some.inj ho').symm
      subst h7
      exact hdep
    cases c with
    | val d F =>
      refine how l a w h hdep' _ fun v w' hF hb => ⟨⟨by rw [Array.size_setIfInBounds]; exact h.len, h.defers, ?_, ?_, bstep h.below hb, ?_, ?_⟩, hbd'⟩
      · show (a.tmps.setIfInBounds d v).size = _
        rw [Array.size_setIfInBounds]
        exact h.size
      · intro t ht
        have h1 : d ≠ t := fun e => ht (e ▸ mem_dst4 hc rfl)
        rw [put_get, if_neg (fun x => h1 x.1), if_neg h1]
        exact h.same t ht
      · intro k c' hk hl
        rcases getD_set_true hl with rfl | h6
        · rw [hc] at hk
          cases hk
          refine ⟨v, ?_, hF⟩
          rw [put_get, if_pos ⟨rfl, by rw [h.size]; exact hfit _ (List.mem_of_getElem? hc) d rfl⟩]
        · refine (h.fact k c' hk h6).put (hstb _ (List.mem_of_getElem? hk)) hb (fun e => ?_) (fun e => ?_)
          · exact hl0 h6 (hdst k i c' _ d hk hc e rfl)
          · exact hl0 (hbd k i c' _ d hk hc e rfl h6) rfl
      · intro k k' s s' g hne hk hk' hl hl' e1 e2
        have q1 : k ≠ i := fun e => by subst e; rw [hc] at hk; cases hk
        have q2 : k' ≠ i := fun e => by subst e; rw [hc] at hk'; cases hk'
        have d1 : d ≠ s := fun e => q1 (hdst k i _ _ d hk hc (by rw [e]; rfl) rfl)
        have d2 : d ≠ s' := fun e => q2 (hdst k' i _ _ d hk' hc (by rw [e]; rfl) rfl)
        rw [put_get, if_neg (fun x => d1 x.1), if_neg d1] at e1
        rw [put_get, if_neg (fun x => d2 x.1), if_neg d2] at e2
        exact h.apart k k' s s' g hne hk hk' ((getD_set_true hl).resolve_left q1) ((getD_set_true hl').resolve_left q2) e1 e2
    | new d =>
      have hb := al_below w (.cells #[.bool false, .slice none 0 0, .bool false, .slice none 0 0] ty)
      refine how a w _ ⟨⟨by rw [Array.size_setIfInBounds]; exact h.len, h.defers, ?_, ?_, bal h.below _, ?_, ?_⟩, hbd'⟩
      · show (a.tmps.setIfInBounds d _).size = _
        rw [Array.size_setIfInBounds]
        exact h.size
      · intro t ht
        have h1 : d ≠ t := fun e => ht (e ▸ mem_dst4 hc rfl)
        rw [put_get, if_neg (fun x => h1 x.1), if_neg h1]
        exact h.same t ht
      · intro k c' hk hl
        rcases getD_set_true hl with rfl | h6
        · rw [hc] at hk
          cases hk
          refine ⟨w.heap.size, ?_, h.below.size, _, _, _, _, _, _, _, _, Blk4.new _ _ _ _ _ _⟩
          rw [put_get, if_pos ⟨rfl, by rw [h.size]; exact hfit _ (List.mem_of_getElem? hc) d rfl⟩]
        · refine (h.fact k c' hk h6).put (hstb _ (List.mem_of_getElem? hk)) hb (fun e => ?_) (fun e => ?_)
          · exact hl0 h6 (hdst k i c' _ d hk hc e rfl)
          · exact hl0 (hbd k i c' _ d hk hc e rfl h6) rfl
      · intro k k' s s' g hne hk hk' hl hl' e1 e2
        have hds : d < a.tmps.size := by rw [h.size]; exact hfit _ (List.mem_of_getElem? hc) d rfl
        by_cases q1 : k = i
        · subst q1
          rw [hc] at hk
          cases hk
          have q2 : k' ≠ k := fun e => hne e.symm
          have d2 : d ≠ s' := fun e => q2 (hdst k' k _ _ d hk' hc (by rw [e]; rfl) rfl)
          rw [put_get, if_pos ⟨rfl, hds⟩] at e1
          rw [put_get, if_neg (fun x => d2 x.1), if_neg d2] at e2
          have h3 := fact_lt4 (h.fact k' _ hk' ((getD_set_true hl').resolve_left q2)) e2
          cases e1
          exact absurd h3 (Nat.lt_irrefl _)
        · have d1 : d ≠ s := fun e => q1 (hdst k i _ _ d hk hc (by rw [e]; rfl) rfl)
          rw [put_get, if_neg (fun x => d1 x.1), if_neg d1] at e1
          have f1 := (getD_set_true hl).resolve_left q1
          by_cases q2 : k' = i
          · subst q2
            rw [hc] at hk'
            cases hk'
            rw [put_get, if_pos ⟨rfl, hds⟩] at e2
            have h3 := fact_lt4 (h.fact k _ hk f1) e1
            cases e2
            exact absurd h3 (Nat.lt_irrefl _)
          · have d2 : d ≠ s' := fun e => q2 (hdst k' i _ _ d hk' hc (by rw [e]; rfl) rfl)
            rw [put_get, if_neg (fun x => d2 x.1), if_neg d2] at e2
            exact h.apart k k' s s' g hne hk hk' f1 ((getD_set_true hl').resolve_left q2) e1 e2
    | put s F =>
      obtain ⟨⟨kn, hkn⟩, hrun⟩ := how
      obtain ⟨g, e, A, n, c, e2, A2, n2, c2, e0, A0, n0, c0, e1, A1, n1, c1, hg, hlt, hB, hF, hgo⟩ := hrun l a w h hdep'
      have ln : l.getD kn false = true := by
        obtain ⟨o', ho', e, he, hk, hb⟩ := hput i kn _ _ s hc hkn rfl rfl
        exact hk ▸ hdep' o' ho' e he hb
      refine hgo _ ⟨⟨by rw [Array.size_setIfInBounds]; exact h.len, h.defers, h.size, h.same, set4_below h.below hlt _ _ _ _, ?_, ?_⟩, hbd'⟩
      · intro k c' hk hl
        rcases getD_set_true hl with rfl | h6
        · rw [hc] at hk
          cases hk
          exact ⟨g, hg, hlt, e, A, n, c, e2, A2, n2, c2, set4_blk hB _ _ _ _, (hstb _ (List.mem_of_getElem? hc)).2 _ _ _ _ _ _ _ _ _ _ _ _ _ _ _ hF hB⟩
        · have hst := hstb _ (List.mem_of_getElem? hk)
          have hf := h.fact k c' hk h6
          cases c' with
          | val e' F' =>
            obtain ⟨u, hu, hF'⟩ := hf
            exact ⟨u, hu, hst.2 _ _ _ _ _ _ _ _ _ _ _ _ _ _ _ hF' hB⟩
          | new e' =>
            obtain ⟨g', hg', h3, x, A', n', c', x3, A3, n3, c3, h4⟩ := hf
            by_cases hgg : g' = g
            · subst hgg
              exact ⟨g', hg', h3, _, _, _, _, _, _, _, _, set4_blk hB _ _ _ _⟩
            · exact ⟨g', hg', h3, x, A', n', c', x3, A3, n3, c3, (set4_heap _ _ _ _ _ _ _ hgg).trans h4⟩
          | put s' F' =>
            obtain ⟨g', hg', h3, x, A', n', c', x3, A3, n3, c3, h4, h5⟩ := hf
            have hss : s ≠ s' := fun x => hl0 h6 (hbox k i _ _ s hk hc (by rw [x]; rfl) rfl)
            have hgg : g' ≠ g := by
              rintro rfl
              -- both boxes are new
              obtain ⟨⟨kn', hkn'⟩, _⟩ := howed k _ hk
              have ln' := hbd k kn' _ _ s' hk hkn' rfl rfl h6
              exact h.apart kn kn' s s' g' (fun x => by subst x; rw [hkn] at hkn'; cases hkn'; exact hss rfl) hkn hkn' ln ln' hg hg'
            exact ⟨g', hg', h3, x, A', n', c', x3, A3, n3, c3, (set4_heap _ _ _ _ _ _ _ hgg).trans h4, hst.2 _ _ _ _ _ _ _ _ _ _ _ _ _ _ _ h5 hB⟩
      · intro k k' s1 s2 g' hne hk hk' hl hl' e1 e2
        have q1 : k ≠ i := fun e => by subst e; rw [hc] at hk; cases hk
        have q2 : k' ≠ i := fun e => by subst e; rw [hc] at hk'; cases hk'
        exact h.apart k k' s1 s2 g' hne hk hk' ((getD_set_true hl).resolve_left q1) ((getD_set_true hl').resolve_left q2) e1 e2
  · rintro l a w ⟨h, _⟩ hr
    refine hQ l a w h ?_
    intro k
    induction k using Nat.strongRecOn with
    | _ k ih =>
      intro hk
      by_cases e : l.getD k false = true
      · exact e
      · exfalso
        have hko : k < ops.size := hsz ▸ hk
        have hkl : k < l.size := by rw [h.len]; exact hk
        have : k ∈ Region.ready .any ops l := by
          refine mem_ready.2 ⟨?_, ops[k], Array.getElem?_eq_getElem hko, fun e' he hb => ?_⟩
          · simp [Array.getD, hkl] at e ⊢
            exact e
          · have := hback k _ (Array.getElem?_eq_getElem hko) e' he hb
            exact ih _ this (by omega)
        rw [hr] at this
        cases this
  · refine ⟨by simp [hsz], rfl, rfl, fun _ _ => rfl, ?_, ?_, ?_⟩
    · exact below_drew (Below.refl _ _)
    · intro k c hk hl
      exfalso
      simp [Array.getD] at hl
    · intro k k' s s' g _ _ _ hl
      simp [Array.getD] at hl
  · intro k k' c c' s _ _ _ _ hl
    simp [Array.getD] at hl
  · simp
def StbAll4 (ty : TypeId) : List Cls4 → Prop
  | [] => True
  | c :: r => c.stb ty ∧ StbAll4 ty r
theorem StbAll4.get {ty : TypeId} : ∀ {cl : List Cls4}, StbAll4 ty cl → ∀ c ∈ cl, c.stb ty
  | [], _, c, h => by cases h
  | x :: r, h, c, hc => by
    rcases List.mem_cons.1 hc with rfl | h2
    · exact h.1
    · exact StbAll4.get h.2 c h2
def OwedAll4 (P : Program) (ops : Array Oper) (Q : Exit → Act → World → Prop) (ty : TypeId) (cl : List Cls4) (a0 : Act) (w0 : World) : Nat → List Cls4 → Prop
  | _, [] => True
  | k, c :: r => Owed4 P ops Q ty cl a0 w0 k c ∧ OwedAll4 P ops Q ty cl a0 w0 (k + 1) r
theorem OwedAll4.get {P : Program} {ops : Array Oper} {Q : Exit → Act → World → Prop} {ty : TypeId} {cl : List Cls4} {a0 : Act} {w0 : World} : ∀ {L : List Cls4} {j : Nat}, OwedAll4 P ops Q ty cl a0 w0 j L → ∀ k c, L[k]? = some c → Owed4 P ops Q ty cl a0 w0 (j + k) c
  | [], _, _, k, c, h => by simp at h
  | x :: r, j, h, k, c, hc => by
    cases k with
    | zero =>
      simp at hc
      subst hc
      exact h.1
    | succ k =>
      have := OwedAll4.get h.2 k c (by simpa using hc)
      rwa [show j + 1 + k = j + (k + 1) by omega] at this
theorem join_map4 {cl : List Cls4} {f : Cls4 → Option Tmp} {k : Nat} {c : Cls4} (h : cl[k]? = some c) : (cl.map f)[k]?.join = f c := by
  rw [List.getElem?_map, h]
  rfl
theorem wp_region_boxes4' {P : Program} {id : Nat} {ops : Array Oper} {Q : Exit → Act → World → Prop} {ty : TypeId} {cl : List Cls4} {a0 : Act} {w0 : World} (N : Nat) (hm : P.follows .mixedOrders = true)
    (hN : a0.tmps.size = N) (hok : okB ops (cl.map Cls4.dst) (cl.map Cls4.box) N = true) (hstb : StbAll4 ty cl) (howed : OwedAll4 P ops Q ty cl a0 w0 0 cl)
    (hQ : ∀ (l : Array Bool) (a : Act) (w : World), StI4 ty cl a0 w0 l a w → (∀ k < cl.length, l.getD k false = true) → Q .normal a w) : (Code.region id ops true).wp P Q a0 w0 := by
  unfold okB at hok
  simp only [Bool.and_eq_true, List.length_map] at hok
  obtain ⟨⟨⟨⟨⟨⟨h1, h2⟩, h3⟩, h4⟩, h5⟩, h6⟩, h7⟩ := hok
  have len : ∀ {k : Nat} {c : Cls4}, cl[k]? = some c → k ∈ List.range cl.length := fun h => List.mem_range.2 (List.getElem?_eq_some_iff.1 h).1
  refine wp_region_boxes4 hm (by simpa using h1) ?_ ?_ ?_ ?_ ?_ hstb.get (fun k c hc => ?_) hQ
  · intro c hc d hd
    have := List.all_eq_true.1 h3 _ (List.mem_map_of_mem hc)
    rw [hd] at this
    rw [hN]
    simpa using this
  · intro k k' c c' d hc hc' hd hd'
    have := List.all_eq_true.1 (List.all_eq_true.1 h4 k (len hc)) k' (len hc')
    rw [join_map4 hc, join_map4 hc', hd, hd'] at this
    simpa using this
  · intro k k' c c' d hc hc' hd hd'
    have := List.all_eq_true.1 (List.all_eq_true.1 h5 k (len hc)) k' (len hc')
    rw [join_map4 hc, join_map4 hc', hd, hd'] at this
    simpa using this
  · intro k k' c c' d hc hc' hd hd'
    have := List.all_eq_true.1 (List.all_eq_true.1 h6 k (len hc)) k' (len hc')
    rw [join_map4 hc, join_map4 hc', hd, hd'] at this
    cases ho : ops[k]? with
    | none => rw [ho] at this; simp at this
    | some o =>
      rw [ho] at this
      have h8 : o.after.any (fun e => e.on == k' && Region.binds .any e) = true := by simpa using this
      obtain ⟨i, hi, he⟩ := Array.any_eq_true.1 h8
      have he' : o.after[i].on = k' ∧ Region.binds .any o.after[i] = true := by simpa using he
      exact ⟨o, rfl, o.after[i], Array.getElem_mem hi, he'⟩
  · intro k o ho e he hbd
    have hk : k ∈ List.range cl.length := by
      have h9 := (Array.getElem?_eq_some_iff.1 ho).1
      have h10 : ops.size = cl.length := by simpa using h1
      exact List.mem_range.2 (h10 ▸ h9)
    have := List.all_eq_true.1 h7 k hk
    rw [ho] at this
    have h8 : o.after.all (fun e => !Region.binds .any e || decide (e.on < k)) = true := by simpa using this
    have h9 := Array.all_eq_true_iff_forall_mem.1 h8 e he
    rw [hbd] at h9
    simpa using h9
  · have := howed.get k c hc
    rwa [Nat.zero_add] at this
end Go.Proofs.YtocooajlfpngdaaGreatDoor
namespace Go.Proofs.YtocooajlfpngdaaGreatDoor
open Go.RowKit
set_option linter.unusedVariables false
section
variable {ops : Array Oper} {Q : Exit → Act → World → Prop} {k : Nat} {K : Act → World → Prop} {a : Act} {w : World}
theorem op_fieldF0 {d t : Tmp} {ty : TypeId} {pos : String} {af : Array Edge} {p : Nat} (ho : ops[k]? = some { dst := some d, op := .fieldAddr 42 (.tmp t) 0, type := ty, pos := pos, after := af, guard := none })
    (hv : a.tmps[t]? = some (.pointer (some ⟨p, 0, none⟩))) (hK : K (a.put (some d) (.pointer (some ⟨p, 0, none⟩))) w) : wpOp Tryz.prog ops Q k K a w := by
  refine op_wp ho rfl ?_
  unfold Oper.wp
  simp [execOp, hv, go_sem]
  exact hK
theorem op_fieldF1 {d t : Tmp} {ty : TypeId} {pos : String} {af : Array Edge} {p : Nat} (ho : ops[k]? = some { dst := some d, op := .fieldAddr 42 (.tmp t) 1, type := ty, pos := pos, after := af, guard := none })
    (hv : a.tmps[t]? = some (.pointer (some ⟨p, 0, none⟩))) (hK : K (a.put (some d) (.pointer (some ⟨p, 2, none⟩))) w) : wpOp Tryz.prog ops Q k K a w := by
  refine op_wp ho rfl ?_
  unfold Oper.wp
  simp [execOp, hv, go_sem]
  exact hK
theorem op_loadN {d t : Tmp} {ty : TypeId} {pos : String} {af : Array Edge} {p o : Nat} {x y : Value} (ho : ops[k]? = some { dst := some d, op := .load 24 (.tmp t), type := ty, pos := pos, after := af, guard := none })
    (hv : a.tmps[t]? = some (.pointer (some ⟨p, o, none⟩))) (h0 : w.cell? ⟨p, o, none⟩ = some x) (h1 : w.cell? ⟨p, o + 1, none⟩ = some y) (hK : K (a.put (some d) (.agg #[x, y])) w) : wpOp Tryz.prog ops Q k K a w := by
  refine op_wp ho rfl ?_
  unfold Oper.wp
  simp [execOp, hv, go_sem, h0, h1]
  exact hK
theorem op_assign {P : Program} {d t : Tmp} {ty : TypeId} {pos : String} {af : Array Edge} {v : Value} (ho : ops[k]? = some { dst := some d, op := .assign (.tmp t), type := ty, pos := pos, after := af, guard := none })
    (hv : a.tmps[t]? = some v) (hK : K (a.put (some d) v) w) : wpOp P ops Q k K a w := by
  refine op_wp ho rfl ?_
  unfold Oper.wp
  simp [execOp, hv, go_sem]
  exact hK
theorem op_newF {d : Tmp} {ty : TypeId} {pos : String} {af : Array Edge} (ho : ops[k]? = some { dst := some d, op := .alloc 42, type := ty, pos := pos, after := af, guard := none })
    (hK : K (a.put (some d) (.pointer (some ⟨w.heap.size, 0, none⟩))) (w.alloc (.cells #[.bool false, .slice none 0 0, .bool false, .slice none 0 0] 42))) : wpOp Tryz.prog ops Q k K a w := by
  refine op_wp ho rfl ?_
  unfold Oper.wp
  simp [execOp, go_sem]
  exact hK
theorem op_storeF {s t : Tmp} {ty : TypeId} {pos : String} {af : Array Edge} {g : Nat} {tt : TypeId} {e e' : Bool} {A A' : Option Addr} {n c n' c' : Nat} {x0 y0 z0 u0 : Value} (ho : ops[k]? = some { dst := none, op := .store 42 (.tmp s) (.tmp t), type := ty, pos := pos, after := af, guard := none })
    (hs : a.tmps[s]? = some (.pointer (some ⟨g, 0, none⟩))) (hv : a.tmps[t]? = some (.agg #[.bool e, .slice A n c, .bool e', .slice A' n' c'])) (hB : Blk4 w g tt x0 y0 z0 u0) (hK : K a (set4 w g (.bool e) (.slice A n c) (.bool e') (.slice A' n' c'))) : wpOp Tryz.prog ops Q k K a w := by
  refine op_wp ho rfl ?_
  have c0 := hB.c0
  have c1 := hB.c1
  have c2 := hB.c2
  have c3 := hB.c3
  have f0 := hB.f0
  have f1 := hB.f1
  have f2 := hB.f2
  have f3 := hB.f3
  unfold Oper.wp
  simp [execOp, hs, hv, go_sem, c0, c1, c2, c3, f0, f1, f2, f3]
  exact hK
end
def IsN (z : Int) : Value → World → Prop := fun u w => RepN w w.heap.size z u
def IsG (x : Rat) : Value → World → Prop := fun u w => RepG w w.heap.size x u
def IsGE (x : Rat) (er : Int) : Value → World → Prop := fun t w => ∃ v, t = .tuple #[v, .int .i64 er] ∧ RepG w w.heap.size x v
theorem Is.stb4 (ty : TypeId) (v : Value) : Stb4 ty (Is v) := ⟨fun _ _ _ h _ => h, fun _ _ _ _ _ _ _ _ _ _ _ _ _ _ _ h _ => h⟩
theorem IsN.stb4 (ty : TypeId) (z : Int) : Stb4 ty (IsN z) := ⟨fun _ _ _ h b => RepN.step h b, fun _ _ _ _ _ _ _ _ _ _ _ _ _ _ _ h k => by
  show RepN _ _ _ _
  rw [set4_size]
  exact RepN.stored4 h k⟩
theorem IsG.stb4 (ty : TypeId) (x : Rat) : Stb4 ty (IsG x) := ⟨fun _ _ _ h b => RepG.step h b, fun _ _ _ _ _ _ _ _ _ _ _ _ _ _ _ h k => by
  show RepG _ _ _ _
  rw [set4_size]
  exact RepG.stored4 h k⟩
theorem IsGE.stb4 (ty : TypeId) (x : Rat) (er : Int) : Stb4 ty (IsGE x er) := ⟨fun _ _ _ ⟨v, h0, h1⟩ b => ⟨v, h0, h1.step b⟩, fun _ _ _ _ _ _ _ _ _ _ _ _ _ _ _ ⟨v, h0, h1⟩ k => ⟨v, h0, by rw [set4_size]; exact h1.stored4 k⟩⟩
end Go.Proofs.YtocooajlfpngdaaGreatDoor
namespace Go.Proofs.YtocooajlfpngdaaGreatDoor
open Go.RowKit
set_option linter.unusedVariables false

section
variable {ops : Array Oper} {Q : Exit → Act → World → Prop} {k : Nat} {K : Act → World → Prop} {a : Act} {w : World}
theorem op_newQ {d : Tmp} {ty : TypeId} {pos : String} {af : Array Edge} (ho : ops[k]? = some { dst := some d, op := .alloc 36, type := ty, pos := pos, after := af, guard := none })
    (hK : K (a.put (some d) (.pointer (some ⟨w.heap.size, 0, none⟩))) (w.alloc (.cells #[.bool false, .slice none 0 0, .bool false, .slice none 0 0] 36))) : wpOp Tryz.prog ops Q k K a w := by
  refine op_wp ho rfl ?_
  unfold Oper.wp
  simp [execOp, go_sem]
  exact hK
theorem op_storeQ {s t : Tmp} {ty : TypeId} {pos : String} {af : Array Edge} {g : Nat} {tt : TypeId} {e e' : Bool} {A A' : Option Addr} {n c n' c' : Nat} {x0 y0 z0 u0 : Value} (ho : ops[k]? = some { dst := none, op := .store 36 (.tmp s) (.tmp t), type := ty, pos := pos, after := af, guard := none })
    (hs : a.tmps[s]? = some (.pointer (some ⟨g, 0, none⟩))) (hv : a.tmps[t]? = some (.agg #[.bool e, .slice A n c, .bool e', .slice A' n' c'])) (hB : Blk4 w g tt x0 y0 z0 u0) (hK : K a (set4 w g (.bool e) (.slice A n c) (.bool e') (.slice A' n' c'))) : wpOp Tryz.prog ops Q k K a w := by
  refine op_wp ho rfl ?_
  have c0 := hB.c0
  have c1 := hB.c1
  have c2 := hB.c2
  have c3 := hB.c3
  have f0 := hB.f0
  have f1 := hB.f1
  have f2 := hB.f2
  have f3 := hB.f3
  unfold Oper.wp
  simp [execOp, hs, hv, go_sem, c0, c1, c2, c3, f0, f1, f2, f3]
  exact hK
theorem op_callk {d : Tmp} {f : FuncId} {ts : Array TypeId} {ty : TypeId} {pos : String} {af : Array Edge} {u : Value} (ho : ops[k]? = some { dst := some d, op := .call { callee := .value (.func f), args := #[.const u], argTypes := ts }, type := ty, pos := pos, after := af, guard := none })
    (hf : ∀ args w, (callFunc f args).run Tryz.prog w = .ok (.enter f args) w) (hK : Calls Tryz.prog f #[u] w fun e w' => ∃ v, e = .returned v ∧ K (a.put (some d) v) w') : wpOp Tryz.prog ops Q k K a w := by
  refine op_wp ho rfl ?_
  unfold Oper.wp
  simp [go_sem, hf]
  refine hK.mono ?_
  rintro e w' ⟨v, rfl, h⟩
  exact h
end
def IsQ (x : Rat) : Value → World → Prop := fun u w => RepF w w.heap.size x u
def IsQE (x : Rat) (er : Int) : Value → World → Prop := fun t w => ∃ v, t = .tuple #[v, .int .i64 er] ∧ RepF w w.heap.size x v
theorem IsI.stb4 (ty : TypeId) (z : Int) : Stb4 ty (IsI z) := ⟨fun _ _ _ h b => RepI.step h b, fun _ _ _ _ _ _ _ _ _ _ _ _ _ _ _ h k => by
  show RepI _ _ _ _
  rw [set4_size]
  exact RepI.stored4 h k⟩
theorem IsQ.stb4 (ty : TypeId) (x : Rat) : Stb4 ty (IsQ x) := ⟨fun _ _ _ h b => RepF.step h b, fun _ _ _ _ _ _ _ _ _ _ _ _ _ _ _ h k => by
  show RepF _ _ _ _
  rw [set4_size]
  exact RepF.stored4 h k⟩
theorem IsQE.stb4 (ty : TypeId) (x : Rat) (er : Int) : Stb4 ty (IsQE x er) := ⟨fun _ _ _ ⟨v, h0, h1⟩ b => ⟨v, h0, h1.step b⟩, fun _ _ _ _ _ _ _ _ _ _ _ _ _ _ _ ⟨v, h0, h1⟩ k => ⟨v, h0, by rw [set4_size]; exact h1.stored4 k⟩⟩
def of_reg_ops : Array Oper := #[
  { dst := some 6, op := .fieldAddr 42 (.tmp 1) 0, type := 0, pos := "law.go:22", after := #[], guard := none },
  { dst := some 7, op := .load 24 (.tmp 6), type := 24, pos := "law.go:22", after := #[⟨0, .data⟩], guard := none },
  { dst := some 8, op := .call { callee := .value (.func 18), args := #[.tmp 7], argTypes := #[24] }, type := 34, pos := "law.go:22", after := #[⟨1, .data⟩], guard := none },
  { dst := some 9, op := .fieldAddr 42 (.tmp 1) 1, type := 0, pos := "law.go:22", after := #[], guard := none },
  { dst := some 10, op := .load 24 (.tmp 9), type := 24, pos := "law.go:22", after := #[⟨3, .data⟩], guard := none },
  { dst := some 11, op := .call { callee := .value (.func 18), args := #[.tmp 10], argTypes := #[24] }, type := 34, pos := "law.go:22", after := #[⟨4, .data⟩, ⟨2, .chain⟩], guard := none },
  { dst := some 12, op := .call { callee := .value (.func 17), args := #[.tmp 8, .tmp 11], argTypes := #[34, 34] }, type := 38, pos := "law.go:22", after := #[⟨2, .data⟩, ⟨5, .data⟩, ⟨5, .chain⟩], guard := none },
  { dst := some 5, op := .move (.tmp 12), type := 38, pos := "law.go:22", after := #[⟨6, .data⟩], guard := none },
  { dst := some 13, op := .extract (.tmp 5) 0, type := 36, pos := "law.go:22", after := #[⟨7, .data⟩], guard := none },
  { dst := some 14, op := .extract (.tmp 5) 1, type := 37, pos := "law.go:22", after := #[⟨7, .data⟩, ⟨11, .gcOnly .lateStores⟩], guard := none },
  { dst := some 3, op := .alloc 36, type := 0, pos := "law.go:22", after := #[], guard := none },
  { dst := none, op := .store 36 (.tmp 3) (.tmp 13), type := 0, pos := "law.go:22", after := #[⟨10, .data⟩, ⟨8, .data⟩, ⟨6, .chain⟩, ⟨0, .phase⟩, ⟨1, .phase⟩, ⟨2, .phase⟩, ⟨3, .phase⟩, ⟨4, .phase⟩, ⟨5, .phase⟩, ⟨6, .phase⟩, ⟨7, .phase⟩, ⟨8, .phase⟩, ⟨9, .textOnly .lateStores⟩, ⟨10, .phase⟩], guard := none },
  { dst := some 4, op := .assign (.tmp 14), type := 37, pos := "law.go:22", after := #[⟨9, .data⟩, ⟨11, .chain⟩, ⟨0, .phase⟩, ⟨1, .phase⟩, ⟨2, .phase⟩, ⟨3, .phase⟩, ⟨4, .phase⟩, ⟨5, .phase⟩, ⟨6, .phase⟩, ⟨7, .phase⟩, ⟨8, .phase⟩, ⟨9, .phase⟩, ⟨10, .phase⟩, ⟨11, .phase⟩], guard := none }]
set_option maxRecDepth 100000 in
set_option maxHeartbeats 1000000 in
theorem of_reg {Q : Exit → Act → World → Prop} {a0 : Act} {w0 : World} {p1 : Nat} {a : Rat} {da ea : Bool} {Aa Ea : Option Addr} {na ca ma fa : Nat} (hN : a0.tmps.size = 16) (t1 : a0.tmps[1]? = some (.pointer (some ⟨p1, 0, none⟩))) (Ha : HoldG w0 p1 a da Aa na ca ea Ea ma fa) (ia : InF a)
    (hQ : ∀ (w : World) (v6 v7 v8 v9 v10 v11 v12 v5 v13 v14 v4 : Value) (g3 : Nat) (d3 : Bool) (A3 : Option Addr) (n3 c3 : Nat) (e3 : Bool) (E3 : Option Addr) (m3 f3 : Nat), Below w0.heap.size w0 w → HoldQ w g3 a d3 A3 n3 c3 e3 E3 m3 f3 → w0.heap.size ≤ g3 → Q .normal ⟨([(6, v6), (7, v7), (8, v8), (9, v9), (10, v10), (11, v11), (12, v12), (5, v5), (13, v13), (14, v14), (4, v4), (3, .pointer (some ⟨g3, 0, none⟩))] : List (Nat × Value)).foldl (fun ts p => ts.setIfInBounds p.1 p.2) a0.tmps, a0.defers⟩ w) :
    (Code.region 1 of_reg_ops true).wp Tryz.prog Q a0 w0 := by
  refine wp_region_boxes4' (ty := 36) (cl := [.val 6 (Is (.pointer (some ⟨p1, 0, none⟩))), .val 7 (IsN (a.num)), .val 8 (IsI (a.num)), .val 9 (Is (.pointer (some ⟨p1, 2, none⟩))), .val 10 (IsN ((a.den : Int))), .val 11 (IsI ((a.den : Int))), .val 12 (IsQE (a) (0)), .val 5 (IsQE (a) (0)), .val 13 (IsQ (a)), .val 14 (Is (.int .i64 0)), .new 3, .put 3 (IsQ (a)), .val 4 (Is (.int .i64 0))]) 16 (by kernel_rfl) hN (by kernel_rfl) ?_ ?_ ?_
  · exact ⟨Is.stb4 _ _, IsN.stb4 _ _, IsI.stb4 _ _, Is.stb4 _ _, IsN.stb4 _ _, IsI.stb4 _ _, IsQE.stb4 _ _ _, IsQE.stb4 _ _ _, IsQ.stb4 _ _, Is.stb4 _ _, trivial, IsQ.stb4 _ _, Is.stb4 _ _, trivial⟩
  · refine ⟨?_, ?_, ?_, ?_, ?_, ?_, ?_, ?_, ?_, ?_, ?_, ?_, ?_, trivial⟩
    · intro l ac w h hd K hK
      exact op_fieldF0 rfl ((h.same 1 (not_dst (by kernel_rfl))).trans t1) (hK _ _ rfl (Below.refl _ _))
    · intro l ac w h hd K hK
      obtain ⟨v, hv, rfl⟩ := h.fact 0 _ rfl (dep hd 0 (by kernel_rfl))
      exact op_loadN rfl hv (Ha.below h.below).c0 (Ha.below h.below).c1 (hK _ _ ((Ha.below h.below).2.num) (Below.refl _ _))
    · intro l ac w h hd K hK
      obtain ⟨v, hv, hF⟩ := h.fact 1 _ rfl (dep hd 1 (by kernel_rfl))
      exact op_call1 rfl hv (enters_of Tryz.func18 (by kernel_rfl) rfl) ((number_law a.num _ _ hF ia.1).mono fun e w' ⟨v, he, h1, h2⟩ => ⟨v, he, hK _ _ h1 h2⟩)
    · intro l ac w h hd K hK
      exact op_fieldF1 rfl ((h.same 1 (not_dst (by kernel_rfl))).trans t1) (hK _ _ rfl (Below.refl _ _))
    · intro l ac w h hd K hK
      obtain ⟨v, hv, rfl⟩ := h.fact 3 _ rfl (dep hd 3 (by kernel_rfl))
      exact op_loadN rfl hv (Ha.below h.below).c2 (Ha.below h.below).c3 (hK _ _ ((Ha.below h.below).2.den) (Below.refl _ _))
    · intro l ac w h hd K hK
      obtain ⟨v, hv, hF⟩ := h.fact 4 _ rfl (dep hd 4 (by kernel_rfl))
      exact op_call1 rfl hv (enters_of Tryz.func18 (by kernel_rfl) rfl) ((number_law (a.den : Int) _ _ hF (den_lim ia)).mono fun e w' ⟨v, he, h1, h2⟩ => ⟨v, he, hK _ _ h1 h2⟩)
    · intro l ac w h hd K hK
      obtain ⟨v, hv, hF⟩ := h.fact 2 _ rfl (dep hd 2 (by kernel_rfl))
      obtain ⟨v', hv', hF'⟩ := h.fact 5 _ rfl (dep hd 5 (by kernel_rfl))
      exact op_call2 rfl hv hv' (enters_of Tryz.func17 (by kernel_rfl) rfl) ((make_any a.num (a.den : Int) _ _ _ hF hF' ia.1 (den_lim ia)).mono fun e w' ⟨v, he, h1, h2⟩ => ⟨.tuple #[v, .int .i64 0], by rw [he, make_nz (by have := den_pos' a; omega)], hK _ _ ⟨v, rfl, by rw [Rat.num_divInt_den] at h1; exact h1⟩ h2⟩)
    · intro l ac w h hd K hK
      obtain ⟨v, hv, hF⟩ := h.fact 6 _ rfl (dep hd 6 (by kernel_rfl))
      exact op_move rfl hv (hK _ _ hF (Below.refl _ _))
    · intro l ac w h hd K hK
      obtain ⟨v, hv, u1, rfl, h1⟩ := h.fact 7 _ rfl (dep hd 7 (by kernel_rfl))
      exact op_extract0 rfl hv (hK _ _ h1 (Below.refl _ _))
    · intro l ac w h hd K hK
      obtain ⟨v, hv, u1, rfl, h1⟩ := h.fact 7 _ rfl (dep hd 7 (by kernel_rfl))
      exact op_extract1 rfl hv (hK _ _ rfl (Below.refl _ _))
    · intro ac w K hK
      exact op_newQ rfl hK
    · refine ⟨⟨10, rfl⟩, fun l ac w h hd => ?_⟩
      obtain ⟨g, hg, hlt, e, A, n, c, e', A', n', c', hB⟩ := h.fact 10 _ rfl (dep hd 10 (by kernel_rfl))
      obtain ⟨v, hv, hF⟩ := h.fact 8 _ rfl (dep hd 8 (by kernel_rfl))
      obtain ⟨d1, A1, n1, c1, d2, A2, n2, c2, rfl⟩ := RepF.shape hF
      exact ⟨g, d1, A1, n1, c1, d2, A2, n2, c2, e, A, n, c, e', A', n', c', hg, hlt, hB, hF, fun K hK => op_storeQ rfl hg hv hB hK⟩
    · intro l ac w h hd K hK
      obtain ⟨v, hv, hF⟩ := h.fact 9 _ rfl (dep hd 9 (by kernel_rfl))
      exact op_assign rfl hv (hK _ _ hF (Below.refl _ _))
  · intro l ac w h hall
    obtain ⟨v6, q6, r6⟩ := h.fact 0 _ rfl (hall 0 (of_decide_eq_true (by kernel_rfl)))
    obtain ⟨v7, q7, r7⟩ := h.fact 1 _ rfl (hall 1 (of_decide_eq_true (by kernel_rfl)))
    obtain ⟨v8, q8, r8⟩ := h.fact 2 _ rfl (hall 2 (of_decide_eq_true (by kernel_rfl)))
    obtain ⟨v9, q9, r9⟩ := h.fact 3 _ rfl (hall 3 (of_decide_eq_true (by kernel_rfl)))
    obtain ⟨v10, q10, r10⟩ := h.fact 4 _ rfl (hall 4 (of_decide_eq_true (by kernel_rfl)))
    obtain ⟨v11, q11, r11⟩ := h.fact 5 _ rfl (hall 5 (of_decide_eq_true (by kernel_rfl)))
    obtain ⟨v12, q12, r12⟩ := h.fact 6 _ rfl (hall 6 (of_decide_eq_true (by kernel_rfl)))
    obtain ⟨v5, q5, r5⟩ := h.fact 7 _ rfl (hall 7 (of_decide_eq_true (by kernel_rfl)))
    obtain ⟨v13, q13, r13⟩ := h.fact 8 _ rfl (hall 8 (of_decide_eq_true (by kernel_rfl)))
    obtain ⟨v14, q14, r14⟩ := h.fact 9 _ rfl (hall 9 (of_decide_eq_true (by kernel_rfl)))
    obtain ⟨v4, q4, r4⟩ := h.fact 12 _ rfl (hall 12 (of_decide_eq_true (by kernel_rfl)))
    obtain ⟨g3, q3, l3, d3, A3, n3, c3, e3, E3, m3, f3, B3, F3⟩ := h.fact 11 _ rfl (hall 11 (of_decide_eq_true (by kernel_rfl)))
    have ha := act_of [(6, v6), (7, v7), (8, v8), (9, v9), (10, v10), (11, v11), (12, v12), (5, v5), (13, v13), (14, v14), (4, v4), (3, .pointer (some ⟨g3, 0, none⟩))] h.defers h.size (List.forall_mem_cons.2 ⟨q6, List.forall_mem_cons.2 ⟨q7, List.forall_mem_cons.2 ⟨q8, List.forall_mem_cons.2 ⟨q9, List.forall_mem_cons.2 ⟨q10, List.forall_mem_cons.2 ⟨q11, List.forall_mem_cons.2 ⟨q12, List.forall_mem_cons.2 ⟨q5, List.forall_mem_cons.2 ⟨q13, List.forall_mem_cons.2 ⟨q14, List.forall_mem_cons.2 ⟨q4, List.forall_mem_cons.2 ⟨q3, fun _ h => by cases h⟩⟩⟩⟩⟩⟩⟩⟩⟩⟩⟩⟩) (fun t ht => h.same t (fun hm => ht (in_dst (F := [6, 7, 8, 9, 10, 11, 12, 5, 13, 14, 4, 3]) (by kernel_rfl) hm)))
    rw [ha]
    exact hQ w _ _ _ _ _ _ _ _ _ _ _ _ _ _ _ _ _ _ _ _ h.below ⟨B3, F3⟩ l3 
set_option maxRecDepth 100000 in
set_option maxHeartbeats 4000000 in
theorem of_law (a : Rat) (u : Value) (w : World) (ha : RepG w w.heap.size a u) (ia : InF a) :
    Calls Tryz.prog 27 #[u] w (NewF a w) := by
  have HB := Lib.hid (Below.refl w.heap.size w)
  obtain ⟨da, Aa, na, ca, ea, Ea, ma, fa, rfl⟩ := ha.shape
  have Va := Lib.hid ha
  clear ha
  replace ia := Lib.hid ia
  go_enter Tryz.func27, Tryz.ntmps27
  have h := HoldG.new Va.out
  have b := al_below w (.cells #[.bool da, .slice Aa na ca, .bool ea, .slice Ea ma fa] 42)
  replace HB := Lib.hid (bstep HB.out b)
  clear b
  have Ha := Lib.hid h
  clear h Va
  have h := Blk4.new (w.alloc (.cells #[.bool da, .slice Aa na ca, .bool ea, .slice Ea ma fa] 42)) 36 (.bool false) (.slice none 0 0) (.bool false) (.slice none 0 0)
  simp only [World.size_alloc] at h
  have b := al_below (w.alloc (.cells #[.bool da, .slice Aa na ca, .bool ea, .slice Ea ma fa] 42)) (.cells #[.bool false, .slice none 0 0, .bool false, .slice none 0 0] 36)
  replace HB := Lib.hid (bstep HB.out b)
  replace Ha := Lib.hid (Ha.out.below b)
  clear b
  have R0 := Lib.hid (show Blk4 _ (w.heap.size + 1) 36 (.bool false) (.slice none 0 0) (.bool false) (.slice none 0 0) from h)
  clear h
  go_wp2_with fail
  refine of_reg rfl rfl Ha.out ia.out ?_
  intro w51 u6 u7 u8 u9 u10 u11 u12 u5 u13 u14 u4 g3 d3 A3 n3 c3 e3 E3 m3 f3 b h3 l3
  simp only [List.foldl_cons, List.foldl_nil, List.setIfInBounds_toArray, List.set_cons_zero, List.set_cons_succ]
  simp only [World.size_alloc] at l3
  have z51 := b.size
  simp only [World.size_alloc] at z51
  replace z51 := Lib.hid z51
  replace HB := Lib.hid (bstep HB.out b)
  replace Ha := Lib.hid (Ha.out.below b)
  replace R0 := Lib.hid (R0.out.below b)
  have H3 := Lib.hid h3
  have L3 := Lib.hid l3
  clear h3 l3 b
  have gR00 := R0.out.c0
  have yR00 := R0.out.f0
  have gR01 := R0.out.c1
  have yR01 := R0.out.f1
  have gR02 := R0.out.c2
  have yR02 := R0.out.f2
  have gR03 := R0.out.c3
  have yR03 := R0.out.f3
  have gH30 := H3.out.c0
  have gH31 := H3.out.c1
  have gH32 := H3.out.c2
  have gH33 := H3.out.c3
  have HF := Lib.hid (retQ (H3.out.2) R0.out HB.out (by omega))
  clear HB Ha R0 H3
  clear ia L3
  go_wp2_with fail
  exact bodyPost_ret (v := .agg #[.bool d3, .slice A3 n3 c3, .bool e3, .slice E3 m3 f3]) (by simp [results, Tryz.results27, go_sem, gR00, gR01, gR02, gR03]) rfl ⟨_, rfl, HF.out.1, HF.out.2.1⟩
def lives_reg_ops : Array Oper := #[
  { dst := some 44, op := .call { callee := .value (.func 22), args := #[.const (.int .i64 1)], argTypes := #[3] }, type := 36, pos := "law.go:47", after := #[], guard := none },
  { dst := some 45, op := .load 36 (.tmp 5), type := 36, pos := "law.go:47", after := #[], guard := none },
  { dst := some 46, op := .call { callee := .value (.func 30), args := #[.tmp 44, .tmp 45], argTypes := #[36, 36] }, type := 38, pos := "law.go:47", after := #[⟨0, .data⟩, ⟨1, .data⟩, ⟨0, .chain⟩], guard := none },
  { dst := some 43, op := .move (.tmp 46), type := 38, pos := "law.go:47", after := #[⟨2, .data⟩], guard := none },
  { dst := some 47, op := .extract (.tmp 43) 0, type := 36, pos := "law.go:47", after := #[⟨3, .data⟩], guard := none },
  { dst := some 48, op := .extract (.tmp 43) 1, type := 37, pos := "law.go:47", after := #[⟨3, .data⟩, ⟨7, .gcOnly .lateStores⟩], guard := none },
  { dst := some 11, op := .alloc 36, type := 0, pos := "law.go:47", after := #[], guard := none },
  { dst := none, op := .store 36 (.tmp 11) (.tmp 47), type := 0, pos := "law.go:47", after := #[⟨6, .data⟩, ⟨4, .data⟩, ⟨2, .chain⟩, ⟨0, .phase⟩, ⟨1, .phase⟩, ⟨2, .phase⟩, ⟨3, .phase⟩, ⟨4, .phase⟩, ⟨5, .textOnly .lateStores⟩, ⟨6, .phase⟩], guard := none },
  { dst := some 12, op := .assign (.tmp 48), type := 37, pos := "law.go:47", after := #[⟨5, .data⟩, ⟨7, .chain⟩, ⟨0, .phase⟩, ⟨1, .phase⟩, ⟨2, .phase⟩, ⟨3, .phase⟩, ⟨4, .phase⟩, ⟨5, .phase⟩, ⟨6, .phase⟩, ⟨7, .phase⟩], guard := none }]
set_option maxRecDepth 100000 in
set_option maxHeartbeats 1000000 in
theorem lives_reg {Q : Exit → Act → World → Prop} {a0 : Act} {w0 : World} {p1 : Nat} {a X : Rat} {da ea : Bool} {Aa Ea : Option Addr} {na ca ma fa : Nat} (hN : a0.tmps.size = 99) (t5 : a0.tmps[5]? = some (.pointer (some ⟨p1, 0, none⟩))) (Ha : HoldQ w0 p1 a da Aa na ca ea Ea ma fa) (ia : InF a) (i1 : InF ((1 : Int) : Rat)) (hX : addQ ((1 : Int) : Rat) (-a) = X) (hR : addR ((1 : Int) : Rat) (-a) = 0)
    (hQ : ∀ (w : World) (v44 v45 v46 v43 v47 v48 v12 : Value) (g11 : Nat) (d11 : Bool) (A11 : Option Addr) (n11 c11 : Nat) (e11 : Bool) (E11 : Option Addr) (m11 f11 : Nat), Below w0.heap.size w0 w → HoldQ w g11 X d11 A11 n11 c11 e11 E11 m11 f11 → w0.heap.size ≤ g11 → v12 = .int .i64 0 → Q .normal ⟨([(44, v44), (45, v45), (46, v46), (43, v43), (47, v47), (48, v48), (12, v12), (11, .pointer (some ⟨g11, 0, none⟩))] : List (Nat × Value)).foldl (fun ts p => ts.setIfInBounds p.1 p.2) a0.tmps, a0.defers⟩ w) :
    (Code.region 6 lives_reg_ops true).wp Tryz.prog Q a0 w0 := by
  refine wp_region_boxes4' (ty := 36) (cl := [.val 44 (IsQ (((1 : Int) : Rat))), .val 45 (IsQ (a)), .val 46 (IsQE (X) (0)), .val 43 (IsQE (X) (0)), .val 47 (IsQ (X)), .val 48 (Is (.int .i64 0)), .new 11, .put 11 (IsQ (X)), .val 12 (Is (.int .i64 0))]) 99 (by kernel_rfl) hN (by kernel_rfl) ?_ ?_ ?_
  · exact ⟨IsQ.stb4 _ _, IsQ.stb4 _ _, IsQE.stb4 _ _ _, IsQE.stb4 _ _ _, IsQ.stb4 _ _, Is.stb4 _ _, trivial, IsQ.stb4 _ _, Is.stb4 _ _, trivial⟩
  · refine ⟨?_, ?_, ?_, ?_, ?_, ?_, ?_, ?_, ?_, trivial⟩
    · intro l ac w h hd K hK
      exact op_callk rfl (enters_of Tryz.func22 (by kernel_rfl) rfl) ((whole_law 1 _ (by omega)).mono fun e w' ⟨v, he, h1, h2⟩ => ⟨v, he, hK _ _ h1 h2⟩)
    · intro l ac w h hd K hK
      exact op_load4 rfl ((h.same 5 (not_dst (by kernel_rfl))).trans t5) (Ha.below h.below).c0 (Ha.below h.below).c1 (Ha.below h.below).c2 (Ha.below h.below).c3 (hK _ _ ((Ha.below h.below).2) (Below.refl _ _))
    · intro l ac w h hd K hK
      obtain ⟨v, hv, hF⟩ := h.fact 0 _ rfl (dep hd 0 (by kernel_rfl))
      obtain ⟨v', hv', hF'⟩ := h.fact 1 _ rfl (dep hd 1 (by kernel_rfl))
      exact op_call2 rfl hv hv' (enters_of Tryz.func30 (by kernel_rfl) rfl) ((fsub_any ((1 : Int) : Rat) a _ _ _ hF hF' i1 ia).mono fun e w' ⟨v, he, h1, h2⟩ => ⟨.tuple #[v, .int .i64 0], by rw [he, hR], hK _ _ ⟨v, rfl, hX ▸ h1⟩ h2⟩)
    · intro l ac w h hd K hK
      obtain ⟨v, hv, hF⟩ := h.fact 2 _ rfl (dep hd 2 (by kernel_rfl))
      exact op_move rfl hv (hK _ _ hF (Below.refl _ _))
    · intro l ac w h hd K hK
      obtain ⟨v, hv, u1, rfl, h1⟩ := h.fact 3 _ rfl (dep hd 3 (by kernel_rfl))
      exact op_extract0 rfl hv (hK _ _ h1 (Below.refl _ _))
    · intro l ac w h hd K hK
      obtain ⟨v, hv, u1, rfl, h1⟩ := h.fact 3 _ rfl (dep hd 3 (by kernel_rfl))
      exact op_extract1 rfl hv (hK _ _ rfl (Below.refl _ _))
    · intro ac w K hK
      exact op_newQ rfl hK
    · refine ⟨⟨6, rfl⟩, fun l ac w h hd => ?_⟩
      obtain ⟨g, hg, hlt, e, A, n, c, e', A', n', c', hB⟩ := h.fact 6 _ rfl (dep hd 6 (by kernel_rfl))
      obtain ⟨v, hv, hF⟩ := h.fact 4 _ rfl (dep hd 4 (by kernel_rfl))
      obtain ⟨d1, A1, n1, c1, d2, A2, n2, c2, rfl⟩ := RepF.shape hF
      exact ⟨g, d1, A1, n1, c1, d2, A2, n2, c2, e, A, n, c, e', A', n', c', hg, hlt, hB, hF, fun K hK => op_storeQ rfl hg hv hB hK⟩
    · intro l ac w h hd K hK
      obtain ⟨v, hv, hF⟩ := h.fact 5 _ rfl (dep hd 5 (by kernel_rfl))
      exact op_assign rfl hv (hK _ _ hF (Below.refl _ _))
  · intro l ac w h hall
    obtain ⟨v44, q44, r44⟩ := h.fact 0 _ rfl (hall 0 (of_decide_eq_true (by kernel_rfl)))
    obtain ⟨v45, q45, r45⟩ := h.fact 1 _ rfl (hall 1 (of_decide_eq_true (by kernel_rfl)))
    obtain ⟨v46, q46, r46⟩ := h.fact 2 _ rfl (hall 2 (of_decide_eq_true (by kernel_rfl)))
    obtain ⟨v43, q43, r43⟩ := h.fact 3 _ rfl (hall 3 (of_decide_eq_true (by kernel_rfl)))
    obtain ⟨v47, q47, r47⟩ := h.fact 4 _ rfl (hall 4 (of_decide_eq_true (by kernel_rfl)))
    obtain ⟨v48, q48, r48⟩ := h.fact 5 _ rfl (hall 5 (of_decide_eq_true (by kernel_rfl)))
    obtain ⟨v12, q12, r12⟩ := h.fact 8 _ rfl (hall 8 (of_decide_eq_true (by kernel_rfl)))
    obtain ⟨g11, q11, l11, d11, A11, n11, c11, e11, E11, m11, f11, B11, F11⟩ := h.fact 7 _ rfl (hall 7 (of_decide_eq_true (by kernel_rfl)))
    have ha := act_of [(44, v44), (45, v45), (46, v46), (43, v43), (47, v47), (48, v48), (12, v12), (11, .pointer (some ⟨g11, 0, none⟩))] h.defers h.size (List.forall_mem_cons.2 ⟨q44, List.forall_mem_cons.2 ⟨q45, List.forall_mem_cons.2 ⟨q46, List.forall_mem_cons.2 ⟨q43, List.forall_mem_cons.2 ⟨q47, List.forall_mem_cons.2 ⟨q48, List.forall_mem_cons.2 ⟨q12, List.forall_mem_cons.2 ⟨q11, fun _ h => by cases h⟩⟩⟩⟩⟩⟩⟩⟩) (fun t ht => h.same t (fun hm => ht (in_dst (F := [44, 45, 46, 43, 47, 48, 12, 11]) (by kernel_rfl) hm)))
    rw [ha]
    exact hQ w _ _ _ _ _ _ _ _ _ _ _ _ _ _ _ _ h.below ⟨B11, F11⟩ l11 r12
end Go.Proofs.YtocooajlfpngdaaGreatDoor
