/- A region that draws its order, by what stays true: values are reckoned, new boxes are made and filled, in any order. · Operations of a region, one by one. · Package frac's regions that draw their order: of Mul and Add. -/
import Derived.Test.YtocooajlfpngdaaGreatDoorB30
import Derived.OrdersHeld
import Derived.Test.YtocooajlfpngdaaGreatDoorB32
namespace Go.Proofs.YtocooajlfpngdaaGreatDoor
open Go.RowKit
set_option linter.unusedVariables false

theorem wpAny_inv {P : Program} {md : Region.Mode} {ops : Array Oper} {Q : Exit → Act → World → Prop} {I : Array Bool → Act → World → Prop}
    (hstep : ∀ l a w i, I l a w → i ∈ Region.ready md ops l → wpOp P ops Q i (fun a' w' => I (l.setIfInBounds i true) a' w') a w)
    (hend : ∀ l a w, I l a w → Region.ready md ops l = [] → Q .normal a w) :
    ∀ (fuel : Nat) (l : Array Bool) (a : Act) (w : World), I l a w → l.toList.count false ≤ fuel → wpAny P md ops Q fuel l a w := by
  have mem : ∀ (l : Array Bool) i, i ∈ Region.ready md ops l → ∃ h : i < l.toList.length, l.toList[i] = false := fun l i hi => by
    have h1 := (mem_ready.1 hi).1
    rcases Nat.lt_or_ge i l.size with h2 | h2
    · refine ⟨by simpa using h2, ?_⟩
      simpa [Array.getD, h2] using h1
    · simp [Array.getD, Nat.not_lt.2 h2] at h1
  intro fuel
  induction fuel with
  | zero =>
    intro l a w h hc
    have hr : Region.ready md ops l = [] := by
      rw [List.eq_nil_iff_forall_not_mem]
      intro i hi
      obtain ⟨h1, h2⟩ := mem l i hi
      have : 0 < l.toList.count false := List.count_pos_iff.2 (by rw [← h2]; exact List.getElem_mem h1)
      omega
    exact ⟨hr, hend l a w h hr⟩
  | succ fuel ih =>
    intro l a w h hc
    refine ⟨fun h0 => hend l a w h h0, fun i hi => wpOp_mono (fun a' w' h' => ih _ a' w' h' ?_) (hstep l a w i h hi)⟩
    obtain ⟨h1, h2⟩ := mem l i hi
    have hp : 0 < l.toList.count false := List.count_pos_iff.2 (by rw [← h2]; exact List.getElem_mem h1)
    rw [Array.toList_setIfInBounds, List.count_set h1, h2, if_pos (by rfl), if_neg (by decide)]
    omega
/-- what an operation of the region does: it yields a value, it makes a box, it fills one -/
inductive Cls where
  | val (d : Tmp) (F : Value → World → Prop)
  | new (d : Tmp)
  | put (s : Tmp) (F : Value → World → Prop)
def Cls.dst : Cls → Option Tmp
  | .val d _ => some d
  | .new d => some d
  | .put _ _ => none
def Cls.box : Cls → Option Tmp
  | .put s _ => some s
  | _ => none
/-- it stays true behind whatever a call writes, and behind a store into a box -/
def Stb (ty : TypeId) (F : Value → World → Prop) : Prop := (∀ v w w', F v w → Below w.heap.size w w' → F v w') ∧
  (∀ v w g d A n c u u', F v w → Blk2 w g ty (.bool d) (.slice A n c) → F v ((w.setCell ⟨g, 0, none⟩ u).setCell ⟨g, 1, none⟩ u'))
def Fact (ty : TypeId) (w0 : World) (a : Act) (w : World) : Cls → Prop
  | .val d F => ∃ v, a.tmps[d]? = some v ∧ F v w
  | .new d => ∃ g, a.tmps[d]? = some (.pointer (some ⟨g, 0, none⟩)) ∧ w0.heap.size ≤ g ∧ ∃ e A n c, Blk2 w g ty (.bool e) (.slice A n c)
  | .put s F => ∃ g, a.tmps[s]? = some (.pointer (some ⟨g, 0, none⟩)) ∧ w0.heap.size ≤ g ∧ ∃ e A n c, Blk2 w g ty (.bool e) (.slice A n c) ∧ F (.agg #[.bool e, .slice A n c]) w
def Cls.stb (ty : TypeId) : Cls → Prop
  | .val _ F => Stb ty F
  | .new _ => True
  | .put _ F => Stb ty F
structure StI (ty : TypeId) (cl : List Cls) (a0 : Act) (w0 : World) (l : Array Bool) (a : Act) (w : World) : Prop where
  len : l.size = cl.length
  defers : a.defers = a0.defers
  size : a.tmps.size = a0.tmps.size
  same : ∀ t, some t ∉ cl.map Cls.dst → a.tmps[t]? = a0.tmps[t]?
  below : Below w0.heap.size w0 w
  fact : ∀ k c, cl[k]? = some c → l.getD k false = true → Fact ty w0 a w c
  apart : ∀ (k k' : Nat) (s s' : Tmp) (g : Nat), k ≠ k' → cl[k]? = some (.new s) → cl[k']? = some (.new s') → l.getD k false = true → l.getD k' false = true → a.tmps[s]? = some (.pointer (some ⟨g, 0, none⟩)) → a.tmps[s']? = some (.pointer (some ⟨g, 0, none⟩)) → False
/-- what is owed for one operation -/
def Owed (P : Program) (ops : Array Oper) (Q : Exit → Act → World → Prop) (ty : TypeId) (cl : List Cls) (a0 : Act) (w0 : World) (k : Nat) : Cls → Prop
  | .val d F => ∀ (l : Array Bool) (a : Act) (w : World), StI ty cl a0 w0 l a w → (∀ o, ops[k]? = some o → ∀ e ∈ o.after, Region.binds .any e = true → l.getD e.on false = true) → ∀ K : Act → World → Prop, (∀ v w', F v w' → Below w.heap.size w w' → K (a.put (some d) v) w') → wpOp P ops Q k K a w
  | .new d => ∀ (a : Act) (w : World) (K : Act → World → Prop), K (a.put (some d) (.pointer (some ⟨w.heap.size, 0, none⟩))) (w.alloc (.cells #[.bool false, .slice none 0 0] ty)) → wpOp P ops Q k K a w
  | .put s F => (∃ k' : Nat, cl[k']? = some (.new s)) ∧ ∀ (l : Array Bool) (a : Act) (w : World), StI ty cl a0 w0 l a w → (∀ o, ops[k]? = some o → ∀ e ∈ o.after, Region.binds .any e = true → l.getD e.on false = true) →
      ∃ g e A n c e0 A0 n0 c0, a.tmps[s]? = some (.pointer (some ⟨g, 0, none⟩)) ∧ w0.heap.size ≤ g ∧ Blk2 w g ty (.bool e0) (.slice A0 n0 c0) ∧ F (.agg #[.bool e, .slice A n c]) w ∧
        ∀ K : Act → World → Prop, K a ((w.setCell ⟨g, 0, none⟩ (.bool e)).setCell ⟨g, 1, none⟩ (.slice A n c)) → wpOp P ops Q k K a w
theorem getD_set_true {l : Array Bool} {i j : Nat} (h : (l.setIfInBounds i true).getD j false = true) : j = i ∨ l.getD j false = true := by
  by_cases e : j = i
  · exact .inl e
  · refine .inr ?_
    simp only [Array.getD_eq_getD_getElem?] at h ⊢
    rwa [Array.getElem?_setIfInBounds_ne (Ne.symm e)] at h
theorem put_get {a : Act} {d t : Tmp} {v : Value} : (a.put (some d) v).tmps[t]? = if d = t ∧ d < a.tmps.size then some v else if d = t then none else a.tmps[t]? := by
  show (a.tmps.setIfInBounds d v)[t]? = _
  rw [Array.getElem?_setIfInBounds]
  by_cases e : d = t
  · subst e
    by_cases h : d < a.tmps.size <;> simp [h]
  · simp [e]
theorem mem_dst {cl : List Cls} {k : Nat} {c : Cls} {d : Tmp} (h : cl[k]? = some c) (hd : c.dst = some d) : some d ∈ cl.map Cls.dst := by
  rw [← hd]
  exact List.mem_map_of_mem (List.mem_of_getElem? h)
/-- a fact stays behind a step that writes the slot d of another operation -/
theorem Fact.put {ty : TypeId} {w0 w w' : World} {a : Act} {c : Cls} {d : Tmp} {v : Value} (h : Fact ty w0 a w c) (hs : c.stb ty) (hb : Below w.heap.size w w') (h1 : c.dst ≠ some d) (h2 : c.box ≠ some d) : Fact ty w0 (a.put (some d) v) w' c := by
  cases c with
  | val e F =>
    obtain ⟨u, hu, hF⟩ := h
    refine ⟨u, ?_, hs.1 _ _ _ hF hb⟩
    rw [put_get, if_neg (fun x => h1 (by rw [x.1]; rfl)), if_neg (fun x => h1 (by rw [x]; rfl))]
    exact hu
  | new e =>
    obtain ⟨g, hg, h3, e', A, n, c, h4⟩ := h
    refine ⟨g, ?_, h3, e', A, n, c, h4.below hb⟩
    rw [put_get, if_neg (fun x => h1 (by rw [x.1]; rfl)), if_neg (fun x => h1 (by rw [x]; rfl))]
    exact hg
  | put e F =>
    obtain ⟨g, hg, h3, e', A, n, c, h4, h5⟩ := h
    refine ⟨g, ?_, h3, e', A, n, c, h4.below hb, hs.1 _ _ _ h5 hb⟩
    rw [put_get, if_neg (fun x => h2 (by rw [x.1]; rfl)), if_neg (fun x => h2 (by rw [x]; rfl))]
    exact hg
theorem fact_lt {ty : TypeId} {w0 w : World} {a : Act} {d : Tmp} {g : Nat} (h : Fact ty w0 a w (.new d)) (hg : a.tmps[d]? = some (.pointer (some ⟨g, 0, none⟩))) : g < w.heap.size := by
  obtain ⟨g', hg', _, e, A, n, c, h4⟩ := h
  rw [hg] at hg'
  cases hg'
  exact h4.lt
theorem wp_region_boxes {P : Program} {id : Nat} {ops : Array Oper} {Q : Exit → Act → World → Prop} {ty : TypeId} {cl : List Cls} {a0 : Act} {w0 : World} (hm : P.follows .mixedOrders = true)
    (hsz : ops.size = cl.length) (hfit : ∀ c ∈ cl, ∀ d, c.dst = some d → d < a0.tmps.size) (hdst : ∀ (k k' : Nat) (c c' : Cls) (d : Tmp), cl[k]? = some c → cl[k']? = some c' → c.dst = some d → c'.dst = some d → k = k')
    (hbox : ∀ (k k' : Nat) (c c' : Cls) (s : Tmp), cl[k]? = some c → cl[k']? = some c' → c.box = some s → c'.box = some s → k = k')
    (hput : ∀ (k k' : Nat) (c c' : Cls) (s : Tmp), cl[k]? = some c → cl[k']? = some c' → c.box = some s → c'.dst = some s → ∃ o, ops[k]? = some o ∧ ∃ e ∈ o.after, e.on = k' ∧ Region.binds .any e = true)
    (hback : ∀ (k : Nat) (o : Oper), ops[k]? = some o → ∀ e ∈ o.after, Region.binds .any e = true → e.on < k)
    (hstb : ∀ c ∈ cl, c.stb ty) (howed : ∀ k c, cl[k]? = some c → Owed P ops Q ty cl a0 w0 k c)
    (hQ : ∀ (l : Array Bool) (a : Act) (w : World), StI ty cl a0 w0 l a w → (∀ k < cl.length, l.getD k false = true) → Q .normal a w) : (Code.region id ops true).wp P Q a0 w0 := by
  refine wp_region_any hm (wpAny_inv (I := fun l a w => StI ty cl a0 w0 l a w ∧ ∀ k k' c c' s, cl[k]? = some c → cl[k']? = some c' → c.box = some s → c'.dst = some s → l.getD k false = true → l.getD k' false = true) ?_ ?_ ops.size _ _ _ ⟨?_, ?_⟩ ?_)
  · rintro l a w i ⟨h, hbd⟩ hi
    obtain ⟨h0, o, ho, hdep⟩ := mem_ready.1 hi
    have hil : i < cl.length := hsz ▸ (Array.getElem?_eq_some_iff.1 ho).1
    obtain ⟨c, hc⟩ : ∃ c, cl[i]? = some c := ⟨cl[i], List.getElem?_eq_getElem hil⟩
    have hl0 : ∀ {k : Nat}, l.getD k false = true → k ≠ i := by
      rintro k hk rfl
      have h2 : k < l.size := by rw [h.len]; exact hil
      simp [Array.getD, h2] at hk h0
      rw [h0] at hk
      cases hk
    have hli : (l.setIfInBounds i true).getD i false = true := by
      have h2 : i < l.size := by rw [h.len]; exact hil
      simp [Array.getD, h2]
    have hbd' : ∀ k k' c c' s, cl[k]? = some c → cl[k']? = some c' → c.box = some s → c'.dst = some s → (l.setIfInBounds i true).getD k false = true → (l.setIfInBounds i true).getD k' false = true := by
      intro k k' c c' s h1 h2 h3 h4 h5
      have keep : l.getD k' false = true → (l.setIfInBounds i true).getD k' false = true := fun h6 => by
        by_cases e : k' = i
        · rw [e]; exact hli
        · simp only [Array.getD_eq_getD_getElem?] at h6 ⊢
          rwa [Array.getElem?_setIfInBounds_ne (Ne.symm e)]
      rcases getD_set_true h5 with rfl | h6
      · obtain ⟨o', ho', e, he, hk, hb⟩ := hput k k' c c' s h1 h2 h3 h4
        have h7 : o' = o := by rw [ho] at ho'; exact (Option.some.inj ho').symm
        subst h7
        exact keep (hk ▸ hdep e he hb)
      · exact keep (hbd k k' c c' s h1 h2 h3 h4 h6)
    have how := howed i c hc
    have hdep' : ∀ o', ops[i]? = some o' → ∀ e ∈ o'.after, Region.binds .any e = true → l.getD e.on false = true := fun o' ho' => by
      have h7 : o' = o := by rw [ho] at ho'; exact (Option.some.inj ho').symm
      subst h7
      exact hdep
    cases c with
    | val d F =>
      refine how l a w h hdep' _ fun v w' hF hb => ⟨⟨by rw [Array.size_setIfInBounds]; exact h.len, h.defers, ?_, ?_, bstep h.below hb, ?_, ?_⟩, hbd'⟩
      · show (a.tmps.setIfInBounds d v).size = _
        rw [Array.size_setIfInBounds]
        exact h.size
      · intro t ht
        have h1 : d ≠ t := fun e => ht (e ▸ mem_dst hc rfl)
        rw [put_get, if_neg (fun x => h1 x.1), if_neg h1]
        exact h.same t ht
      · intro k c' hk hl
        rcases getD_set_true hl with rfl | h6
        · rw [hc] at hk
          cases hk
          refine ⟨v, ?_, hF⟩
          rw [put_get, if_pos ⟨rfl, by rw [h.size]; exact hfit _ (List.mem_of_getElem? hc) d rfl⟩]
        · refine (h.fact k c' hk h6).put (hstb _ (List.mem_of_getElem? hk)) hb (fun e => ?_) (fun e => ?_)
          · exact hl0 h6 (hdst k i c' _ d hk hc e rfl)
          · exact hl0 (hbd k i c' _ d hk hc e rfl h6) rfl
      · intro k k' s s' g hne hk hk' hl hl' e1 e2
        have q1 : k ≠ i := fun e => by subst e; rw [hc] at hk; cases hk
        have q2 : k' ≠ i := fun e => by subst e; rw [hc] at hk'; cases hk'
        have d1 : d ≠ s := fun e => q1 (hdst k i _ _ d hk hc (by rw [e]; rfl) rfl)
        have d2 : d ≠ s' := fun e => q2 (hdst k' i _ _ d hk' hc (by rw [e]; rfl) rfl)
        rw [put_get, if_neg (fun x => d1 x.1), if_neg d1] at e1
        rw [put_get, if_neg (fun x => d2 x.1), if_neg d2] at e2
        exact h.apart k k' s s' g hne hk hk' ((getD_set_true hl).resolve_left q1) ((getD_set_true hl').resolve_left q2) e1 e2
    | new d =>
      have hb := al_below w (.cells #[.bool false, .slice none 0 0] ty)
      refine how a w _ ⟨⟨by rw [Array.size_setIfInBounds]; exact h.len, h.defers, ?_, ?_, bal h.below _, ?_, ?_⟩, hbd'⟩
      · show (a.tmps.setIfInBounds d _).size = _
        rw [Array.size_setIfInBounds]
        exact h.size
      · intro t ht
        have h1 : d ≠ t := fun e => ht (e ▸ mem_dst hc rfl)
        rw [put_get, if_neg (fun x => h1 x.1), if_neg h1]
        exact h.same t ht
      · intro k c' hk hl
        rcases getD_set_true hl with rfl | h6
        · rw [hc] at hk
          cases hk
          refine ⟨w.heap.size, ?_, h.below.size, _, _, _, _, Blk2.new _ _ _ _⟩
          rw [put_get, if_pos ⟨rfl, by rw [h.size]; exact hfit _ (List.mem_of_getElem? hc) d rfl⟩]
        · refine (h.fact k c' hk h6).put (hstb _ (List.mem_of_getElem? hk)) hb (fun e => ?_) (fun e => ?_)
          · exact hl0 h6 (hdst k i c' _ d hk hc e rfl)
          · exact hl0 (hbd k i c' _ d hk hc e rfl h6) rfl
      · intro k k' s s' g hne hk hk' hl hl' e1 e2
        have hds : d < a.tmps.size := by rw [h.size]; exact hfit _ (List.mem_of_getElem? hc) d rfl
        by_cases q1 : k = i
        · subst q1
          rw [hc] at hk
          cases hk
          have q2 : k' ≠ k := fun e => hne e.symm
          have d2 : d ≠ s' := fun e => q2 (hdst k' k _ _ d hk' hc (by rw [e]; rfl) rfl)
          rw [put_get, if_pos ⟨rfl, hds⟩] at e1
          rw [put_get, if_neg (fun x => d2 x.1), if_neg d2] at e2
          have h3 := fact_lt (h.fact k' _ hk' ((getD_set_true hl').resolve_left q2)) e2
          cases e1
          exact absurd h3 (Nat.lt_irrefl _)
        · have d1 : d ≠ s := fun e => q1 (hdst k i _ _ d hk hc (by rw [e]; rfl) rfl)
          rw [put_get, if_neg (fun x => d1 x.1), if_neg d1] at e1
          have f1 := (getD_set_true hl).resolve_left q1
          by_cases q2 : k' = i
          · subst q2
            rw [hc] at hk'
            cases hk'
            rw [put_get, if_pos ⟨rfl, hds⟩] at e2
            have h3 := fact_lt (h.fact k _ hk f1) e1
            cases e2
            exact absurd h3 (Nat.lt_irrefl _)
          · have d2 : d ≠ s' := fun e => q2 (hdst k' i _ _ d hk' hc (by rw [e]; rfl) rfl)
            rw [put_get, if_neg (fun x => d2 x.1), if_neg d2] at e2
            exact h.apart k k' s s' g hne hk hk' f1 ((getD_set_true hl').resolve_left q2) e1 e2
    | put s F =>
      obtain ⟨⟨kn, hkn⟩, hrun⟩ := how
      obtain ⟨g, e, A, n, c, e0, A0, n0, c0, hg, hlt, hB, hF, hgo⟩ := hrun l a w h hdep'
      have ln : l.getD kn false = true := by
        obtain ⟨o', ho', e, he, hk, hb⟩ := hput i kn _ _ s hc hkn rfl rfl
        exact hk ▸ hdep' o' ho' e he hb
      refine hgo _ ⟨⟨by rw [Array.size_setIfInBounds]; exact h.len, h.defers, h.size, h.same, below_off h.below hlt, ?_, ?_⟩, hbd'⟩
      · intro k c' hk hl
        rcases getD_set_true hl with rfl | h6
        · rw [hc] at hk
          cases hk
          exact ⟨g, hg, hlt, e, A, n, c, (hB.set0 _).set1 _, (hstb _ (List.mem_of_getElem? hc)).2 _ _ _ _ _ _ _ _ _ hF hB⟩
        · have hst := hstb _ (List.mem_of_getElem? hk)
          have hf := h.fact k c' hk h6
          cases c' with
          | val e' F' =>
            obtain ⟨u, hu, hF'⟩ := hf
            exact ⟨u, hu, hst.2 _ _ _ _ _ _ _ _ _ hF' hB⟩
          | new e' =>
            obtain ⟨g', hg', h3, x, A', n', c', h4⟩ := hf
            by_cases hgg : g' = g
            · subst hgg
              exact ⟨g', hg', h3, _, _, _, _, (hB.set0 _).set1 _⟩
            · exact ⟨g', hg', h3, x, A', n', c', h4.off hgg⟩
          | put s' F' =>
            obtain ⟨g', hg', h3, x, A', n', c', h4, h5⟩ := hf
            have hss : s ≠ s' := fun x => hl0 h6 (hbox k i _ _ s hk hc (by rw [x]; rfl) rfl)
            have hgg : g' ≠ g := by
              rintro rfl
              -- both boxes are new
              obtain ⟨⟨kn', hkn'⟩, _⟩ := howed k _ hk
              have ln' := hbd k kn' _ _ s' hk hkn' rfl rfl h6
              exact h.apart kn kn' s s' g' (fun x => by subst x; rw [hkn] at hkn'; cases hkn'; exact hss rfl) hkn hkn' ln ln' hg hg'
            exact ⟨g', hg', h3, x, A', n', c', h4.off hgg, hst.2 _ _ _ _ _ _ _ _ _ h5 hB⟩
      · intro k k' s1 s2 g' hne hk hk' hl hl' e1 e2
        have q1 : k ≠ i := fun e => by subst e; rw [hc] at hk; cases hk
        have q2 : k' ≠ i := fun e => by subst e; rw [hc] at hk'; cases hk'
        exact h.apart k k' s1 s2 g' hne hk hk' ((getD_set_true hl).resolve_left q1) ((getD_set_true hl').resolve_left q2) e1 e2
  · rintro l a w ⟨h, _⟩ hr
    refine hQ l a w h ?_
    intro k
    induction k using Nat.strongRecOn with
    | _ k ih =>
      intro hk
      by_cases e : l.getD k false = true
      · exact e
      · exfalso
        have hko : k < ops.size := hsz ▸ hk
        have hkl : k < l.size := by rw [h.len]; exact hk
        have : k ∈ Region.ready .any ops l := by
          refine mem_ready.2 ⟨?_, ops[k], Array.getElem?_eq_getElem hko, fun e' he hb => ?_⟩
          · simp [Array.getD, hkl] at e ⊢
            exact e
          · have := hback k _ (Array.getElem?_eq_getElem hko) e' he hb
            exact ih _ this (by omega)
        rw [hr] at this
        cases this
  · refine ⟨by simp [hsz], rfl, rfl, fun _ _ => rfl, ?_, ?_, ?_⟩
    · exact below_drew (Below.refl _ _)
    · intro k c hk hl
      exfalso
      simp [Array.getD] at hl
    · intro k k' s s' g _ _ _ hl
      simp [Array.getD] at hl
  · intro k k' c c' s _ _ _ _ hl
    simp [Array.getD] at hl
  · simp
/-- the frame behind the region -/
theorem act_of {a a0 : Act} (L : List (Nat × Value)) (hd : a.defers = a0.defers) (hs : a.tmps.size = a0.tmps.size) (hv : ∀ p ∈ L, a.tmps[p.1]? = some p.2) (ho : ∀ t, t ∉ L.map Prod.fst → a.tmps[t]? = a0.tmps[t]?) :
    a = ⟨L.foldl (fun ts p => ts.setIfInBounds p.1 p.2) a0.tmps, a0.defers⟩ := by
  have key : ∀ (L : List (Nat × Value)) (T : Array Value), a.tmps.size = T.size → (∀ p ∈ L, a.tmps[p.1]? = some p.2) → (∀ t, t ∉ L.map Prod.fst → a.tmps[t]? = T[t]?) → a.tmps = L.foldl (fun ts p => ts.setIfInBounds p.1 p.2) T := by
    intro L
    induction L with
    | nil =>
      intro T h1 _ h3
      exact Array.ext_getElem? fun t => h3 t (by simp)
    | cons p L ih =>
      intro T h1 h2 h3
      refine ih _ (by rw [Array.size_setIfInBounds]; exact h1) (fun q hq => h2 q (List.mem_cons_of_mem _ hq)) fun t ht => ?_
      by_cases e : p.1 = t
      · subst e
        have h4 := h2 p (List.mem_cons_self ..)
        have h5 : p.1 < T.size := h1 ▸ (Array.getElem?_eq_some_iff.1 h4).1
        rw [h4]
        simp [h5]
      · rw [Array.getElem?_setIfInBounds_ne e]
        exact h3 t (by simp [Ne.symm e]; simpa using ht)
  have := key L a0.tmps hs hv ho
  cases a
  simp only at this hd
  rw [this, hd]
end Go.Proofs.YtocooajlfpngdaaGreatDoor
namespace Go.Proofs.YtocooajlfpngdaaGreatDoor
open Go.RowKit
set_option linter.unusedVariables false
/-- what the list of operations must look like, reckoned -/
def okB (ops : Array Oper) (D B : List (Option Tmp)) (N : Nat) : Bool :=
  ops.size == D.length && B.length == D.length && D.all (fun x => x.all (fun d => decide (d < N))) &&
  (List.range D.length).all (fun k => (List.range D.length).all (fun k' => k == k' || (D[k]?.join).isNone || D[k]?.join != D[k']?.join)) &&
  (List.range D.length).all (fun k => (List.range D.length).all (fun k' => k == k' || (B[k]?.join).isNone || B[k]?.join != B[k']?.join)) &&
  (List.range D.length).all (fun k => (List.range D.length).all (fun k' => (B[k]?.join).isNone || B[k]?.join != D[k']?.join || ops[k]?.any (fun o => o.after.any (fun e => e.on == k' && Region.binds .any e)))) &&
  (List.range D.length).all (fun k => ops[k]?.all (fun o => o.after.all (fun e => !Region.binds .any e || decide (e.on < k))))
def StbAll (ty : TypeId) : List Cls → Prop
  | [] => True
  | c :: r => c.stb ty ∧ StbAll ty r
theorem StbAll.get {ty : TypeId} : ∀ {cl : List Cls}, StbAll ty cl → ∀ c ∈ cl, c.stb ty
  | [], _, c, h => by cases h
  | x :: r, h, c, hc => by
    rcases List.mem_cons.1 hc with rfl | h2
    · exact h.1
    · exact StbAll.get h.2 c h2
def OwedAll (P : Program) (ops : Array Oper) (Q : Exit → Act → World → Prop) (ty : TypeId) (cl : List Cls) (a0 : Act) (w0 : World) : Nat → List Cls → Prop
  | _, [] => True
  | k, c :: r => Owed P ops Q ty cl a0 w0 k c ∧ OwedAll P ops Q ty cl a0 w0 (k + 1) r
theorem OwedAll.get {P : Program} {ops : Array Oper} {Q : Exit → Act → World → Prop} {ty : TypeId} {cl : List Cls} {a0 : Act} {w0 : World} : ∀ {L : List Cls} {j : Nat}, OwedAll P ops Q ty cl a0 w0 j L → ∀ k c, L[k]? = some c → Owed P ops Q ty cl a0 w0 (j + k) c
  | [], _, _, k, c, h => by simp at h
  | x :: r, j, h, k, c, hc => by
    cases k with
    | zero =>
      simp at hc
      subst hc
      exact h.1
    | succ k =>
      have := OwedAll.get h.2 k c (by simpa using hc)
      rwa [show j + 1 + k = j + (k + 1) by omega] at this
theorem join_map {cl : List Cls} {f : Cls → Option Tmp} {k : Nat} {c : Cls} (h : cl[k]? = some c) : (cl.map f)[k]?.join = f c := by
  rw [List.getElem?_map, h]
  rfl
theorem wp_region_boxes' {P : Program} {id : Nat} {ops : Array Oper} {Q : Exit → Act → World → Prop} {ty : TypeId} {cl : List Cls} {a0 : Act} {w0 : World} (N : Nat) (hm : P.follows .mixedOrders = true)
    (hN : a0.tmps.size = N) (hok : okB ops (cl.map Cls.dst) (cl.map Cls.box) N = true) (hstb : StbAll ty cl) (howed : OwedAll P ops Q ty cl a0 w0 0 cl)
    (hQ : ∀ (l : Array Bool) (a : Act) (w : World), StI ty cl a0 w0 l a w → (∀ k < cl.length, l.getD k false = true) → Q .normal a w) : (Code.region id ops true).wp P Q a0 w0 := by
  unfold okB at hok
  simp only [Bool.and_eq_true, List.length_map] at hok
  obtain ⟨⟨⟨⟨⟨⟨h1, h2⟩, h3⟩, h4⟩, h5⟩, h6⟩, h7⟩ := hok
  have len : ∀ {k : Nat} {c : Cls}, cl[k]? = some c → k ∈ List.range cl.length := fun h => List.mem_range.2 (List.getElem?_eq_some_iff.1 h).1
  refine wp_region_boxes hm (by simpa using h1) ?_ ?_ ?_ ?_ ?_ hstb.get (fun k c hc => ?_) hQ
  · intro c hc d hd
    have := List.all_eq_true.1 h3 _ (List.mem_map_of_mem hc)
    rw [hd] at this
    rw [hN]
    simpa using this
  · intro k k' c c' d hc hc' hd hd'
    have := List.all_eq_true.1 (List.all_eq_true.1 h4 k (len hc)) k' (len hc')
    rw [join_map hc, join_map hc', hd, hd'] at this
    simpa using this
  · intro k k' c c' d hc hc' hd hd'
    have := List.all_eq_true.1 (List.all_eq_true.1 h5 k (len hc)) k' (len hc')
    rw [join_map hc, join_map hc', hd, hd'] at this
    simpa using this
  · intro k k' c c' d hc hc' hd hd'
    have := List.all_eq_true.1 (List.all_eq_true.1 h6 k (len hc)) k' (len hc')
    rw [join_map hc, join_map hc', hd, hd'] at this
    cases ho : ops[k]? with
    | none => rw [ho] at this; simp at this
    | some o =>
      rw [ho] at this
      have h8 : o.after.any (fun e => e.on == k' && Region.binds .any e) = true := by simpa using this
      obtain ⟨i, hi, he⟩ := Array.any_eq_true.1 h8
      have he' : o.after[i].on = k' ∧ Region.binds .any o.after[i] = true := by simpa using he
      exact ⟨o, rfl, o.after[i], Array.getElem_mem hi, he'⟩
  · intro k o ho e he hbd
    have hk : k ∈ List.range cl.length := by
      have h9 := (Array.getElem?_eq_some_iff.1 ho).1
      have h10 : ops.size = cl.length := by simpa using h1
      exact List.mem_range.2 (h10 ▸ h9)
    have := List.all_eq_true.1 h7 k hk
    rw [ho] at this
    have h8 : o.after.all (fun e => !Region.binds .any e || decide (e.on < k)) = true := by simpa using this
    have h9 := Array.all_eq_true_iff_forall_mem.1 h8 e he
    rw [hbd] at h9
    simpa using h9
  · have := howed.get k c hc
    rwa [Nat.zero_add] at this
/-- the facts of the values -/
def Is (v : Value) : Value → World → Prop := fun u _ => u = v
def IsI (z : Int) : Value → World → Prop := fun u w => RepI w w.heap.size z u
def IsTwo (p q : Int) : Value → World → Prop := fun t w => ∃ u v, t = .tuple #[u, v] ∧ RepI w w.heap.size p u ∧ RepI w w.heap.size q v
theorem Is.stb (ty : TypeId) (v : Value) : Stb ty (Is v) := ⟨fun _ _ _ h _ => h, fun _ _ _ _ _ _ _ _ _ h _ => h⟩
theorem IsI.stb (ty : TypeId) (z : Int) : Stb ty (IsI z) := ⟨fun _ _ _ h b => RepI.step h b, fun _ _ _ _ _ _ _ _ _ h k => by
  show RepI _ _ _ _
  rw [size_set2]
  exact RepI.stored h k⟩
theorem IsTwo.stb (ty : TypeId) (p q : Int) : Stb ty (IsTwo p q) := ⟨fun _ _ _ ⟨u, v, h0, h1, h2⟩ b => ⟨u, v, h0, h1.step b, h2.step b⟩, fun _ _ _ _ _ _ _ _ _ ⟨u, v, h0, h1, h2⟩ k => ⟨u, v, h0, by rw [size_set2]; exact h1.stored k, by rw [size_set2]; exact h2.stored k⟩⟩
section
variable {ops : Array Oper} {Q : Exit → Act → World → Prop} {k : Nat} {K : Act → World → Prop} {a : Act} {w : World}
theorem op_wp {P : Program} {o : Oper} (ho : ops[k]? = some o) (hg : o.guard = none) (h : o.wp P a w K Q) : wpOp P ops Q k K a w := by
  unfold wpOp
  rw [ho]
  simp only [Region.wanted, hg, if_true]
  exact .inl h
theorem op_load2 {d t : Tmp} {ty : TypeId} {pos : String} {af : Array Edge} {p o : Nat} {x y : Value} (ho : ops[k]? = some { dst := some d, op := .load 34 (.tmp t), type := ty, pos := pos, after := af, guard := none })
    (hv : a.tmps[t]? = some (.pointer (some ⟨p, o, none⟩))) (h0 : w.cell? ⟨p, o, none⟩ = some x) (h1 : w.cell? ⟨p, o + 1, none⟩ = some y) (hK : K (a.put (some d) (.agg #[x, y])) w) : wpOp Tryz.prog ops Q k K a w := by
  refine op_wp ho rfl ?_
  unfold Oper.wp
  simp [execOp, hv, go_sem, h0, h1]
  exact hK
theorem op_load4 {d t : Tmp} {ty : TypeId} {pos : String} {af : Array Edge} {p : Nat} {x y z u : Value} (ho : ops[k]? = some { dst := some d, op := .load 36 (.tmp t), type := ty, pos := pos, after := af, guard := none })
    (hv : a.tmps[t]? = some (.pointer (some ⟨p, 0, none⟩))) (h0 : w.cell? ⟨p, 0, none⟩ = some x) (h1 : w.cell? ⟨p, 1, none⟩ = some y) (h2 : w.cell? ⟨p, 2, none⟩ = some z) (h3 : w.cell? ⟨p, 3, none⟩ = some u) (hK : K (a.put (some d) (.agg #[x, y, z, u])) w) : wpOp Tryz.prog ops Q k K a w := by
  refine op_wp ho rfl ?_
  unfold Oper.wp
  simp [execOp, hv, go_sem, h0, h1, h2, h3]
  exact hK
theorem op_field0 {d t : Tmp} {ty : TypeId} {pos : String} {af : Array Edge} {p : Nat} (ho : ops[k]? = some { dst := some d, op := .fieldAddr 36 (.tmp t) 0, type := ty, pos := pos, after := af, guard := none })
    (hv : a.tmps[t]? = some (.pointer (some ⟨p, 0, none⟩))) (hK : K (a.put (some d) (.pointer (some ⟨p, 0, none⟩))) w) : wpOp Tryz.prog ops Q k K a w := by
  refine op_wp ho rfl ?_
  unfold Oper.wp
  simp [execOp, hv, go_sem]
  exact hK
theorem op_move {P : Program} {d t : Tmp} {ty : TypeId} {pos : String} {af : Array Edge} {v : Value} (ho : ops[k]? = some { dst := some d, op := .move (.tmp t), type := ty, pos := pos, after := af, guard := none })
    (hv : a.tmps[t]? = some v) (hK : K (a.put (some d) v) w) : wpOp P ops Q k K a w := by
  refine op_wp ho rfl ?_
  unfold Oper.wp
  simp [execOp, hv, go_sem]
  exact hK
theorem op_extract0 {P : Program} {d t : Tmp} {ty : TypeId} {pos : String} {af : Array Edge} {u v : Value} (ho : ops[k]? = some { dst := some d, op := .extract (.tmp t) 0, type := ty, pos := pos, after := af, guard := none })
    (hv : a.tmps[t]? = some (.tuple #[u, v])) (hK : K (a.put (some d) u) w) : wpOp P ops Q k K a w := by
  refine op_wp ho rfl ?_
  unfold Oper.wp
  simp [execOp, hv, go_sem]
  exact hK
theorem op_extract1 {P : Program} {d t : Tmp} {ty : TypeId} {pos : String} {af : Array Edge} {u v : Value} (ho : ops[k]? = some { dst := some d, op := .extract (.tmp t) 1, type := ty, pos := pos, after := af, guard := none })
    (hv : a.tmps[t]? = some (.tuple #[u, v])) (hK : K (a.put (some d) v) w) : wpOp P ops Q k K a w := by
  refine op_wp ho rfl ?_
  unfold Oper.wp
  simp [execOp, hv, go_sem]
  exact hK
theorem op_new {d : Tmp} {ty : TypeId} {pos : String} {af : Array Edge} (ho : ops[k]? = some { dst := some d, op := .alloc 34, type := ty, pos := pos, after := af, guard := none })
    (hK : K (a.put (some d) (.pointer (some ⟨w.heap.size, 0, none⟩))) (w.alloc (.cells #[.bool false, .slice none 0 0] 34))) : wpOp Tryz.prog ops Q k K a w := by
  refine op_wp ho rfl ?_
  unfold Oper.wp
  simp [execOp, go_sem]
  exact hK
theorem op_store2 {s t : Tmp} {ty : TypeId} {pos : String} {af : Array Edge} {g : Nat} {tt : TypeId} {e : Bool} {A : Option Addr} {n c : Nat} {x0 y0 : Value} (ho : ops[k]? = some { dst := none, op := .store 34 (.tmp s) (.tmp t), type := ty, pos := pos, after := af, guard := none })
    (hs : a.tmps[s]? = some (.pointer (some ⟨g, 0, none⟩))) (hv : a.tmps[t]? = some (.agg #[.bool e, .slice A n c])) (hB : Blk2 w g tt x0 y0) (hK : K a ((w.setCell ⟨g, 0, none⟩ (.bool e)).setCell ⟨g, 1, none⟩ (.slice A n c))) : wpOp Tryz.prog ops Q k K a w := by
  refine op_wp ho rfl ?_
  have c0 := hB.c0
  have c1 := hB.c1
  have f0 := hB.f0
  have f1 := hB.f1
  unfold Oper.wp
  simp [execOp, hs, hv, go_sem, c0, c1, f0, f1]
  exact hK
theorem op_call1 {d t : Tmp} {f : FuncId} {ts : Array TypeId} {ty : TypeId} {pos : String} {af : Array Edge} {u : Value} (ho : ops[k]? = some { dst := some d, op := .call { callee := .value (.func f), args := #[.tmp t], argTypes := ts }, type := ty, pos := pos, after := af, guard := none })
    (hv : a.tmps[t]? = some u) (hf : ∀ args w, (callFunc f args).run Tryz.prog w = .ok (.enter f args) w) (hK : Calls Tryz.prog f #[u] w fun e w' => ∃ v, e = .returned v ∧ K (a.put (some d) v) w') : wpOp Tryz.prog ops Q k K a w := by
  refine op_wp ho rfl ?_
  unfold Oper.wp
  simp [hv, go_sem, hf]
  refine hK.mono ?_
  rintro e w' ⟨v, rfl, h⟩
  exact h
theorem op_call2 {d t t' : Tmp} {f : FuncId} {ts : Array TypeId} {ty : TypeId} {pos : String} {af : Array Edge} {u u' : Value} (ho : ops[k]? = some { dst := some d, op := .call { callee := .value (.func f), args := #[.tmp t, .tmp t'], argTypes := ts }, type := ty, pos := pos, after := af, guard := none })
    (hv : a.tmps[t]? = some u) (hv' : a.tmps[t']? = some u') (hf : ∀ args w, (callFunc f args).run Tryz.prog w = .ok (.enter f args) w) (hK : Calls Tryz.prog f #[u, u'] w fun e w' => ∃ v, e = .returned v ∧ K (a.put (some d) v) w') : wpOp Tryz.prog ops Q k K a w := by
  refine op_wp ho rfl ?_
  unfold Oper.wp
  simp [hv, hv', go_sem, hf]
  refine hK.mono ?_
  rintro e w' ⟨v, rfl, h⟩
  exact h
theorem dep {l : Array Bool} (hd : ∀ o, ops[k]? = some o → ∀ e ∈ o.after, Region.binds .any e = true → l.getD e.on false = true) (j : Nat) (h : ops[k]?.any (fun o => o.after.any (fun e => e.on == j && Region.binds .any e)) = true) : l.getD j false = true := by
  cases ho : ops[k]? with
  | none => rw [ho] at h; simp at h
  | some o =>
    rw [ho] at h
    have h8 : o.after.any (fun e => e.on == j && Region.binds .any e) = true := by simpa using h
    obtain ⟨i, hi, he⟩ := Array.any_eq_true.1 h8
    have he' : o.after[i].on = j ∧ Region.binds .any o.after[i] = true := by simpa using he
    exact he'.1 ▸ hd o ho _ (Array.getElem_mem hi) he'.2
theorem not_dst {D : List (Option Tmp)} {t : Nat} (h : D.contains (some t) = false) : some t ∉ D := by
  intro hm
  have := List.contains_iff_mem.2 hm
  rw [h] at this
  cases this
theorem in_dst {D : List (Option Tmp)} {F : List Nat} (h : D.all (fun x => x.all (fun t => F.contains t)) = true) {t : Nat} (ht : some t ∈ D) : t ∈ F := by
  have := List.all_eq_true.1 h _ ht
  simpa using this
end
end Go.Proofs.YtocooajlfpngdaaGreatDoor
namespace Go.Proofs.YtocooajlfpngdaaGreatDoor
open Go.RowKit
set_option linter.unusedVariables false

def mul_reg1_ops : Array Oper := #[
  { dst := some 16, op := .fieldAddr 36 (.tmp 2) 0, type := 0, pos := "frac.go:73", after := #[], guard := none },
  { dst := some 17, op := .load 34 (.tmp 16), type := 34, pos := "frac.go:73", after := #[⟨0, .data⟩], guard := none },
  { dst := some 18, op := .load 36 (.tmp 3), type := 36, pos := "frac.go:73", after := #[], guard := none },
  { dst := some 19, op := .call { callee := .value (.func 48), args := #[.tmp 18], argTypes := #[36] }, type := 34, pos := "frac.go:73", after := #[⟨2, .data⟩], guard := none },
  { dst := some 20, op := .call { callee := .value (.func 63), args := #[.tmp 17, .tmp 19], argTypes := #[34, 34] }, type := 92, pos := "frac.go:73", after := #[⟨1, .data⟩, ⟨3, .data⟩, ⟨3, .chain⟩], guard := none },
  { dst := some 15, op := .move (.tmp 20), type := 92, pos := "frac.go:73", after := #[⟨4, .data⟩], guard := none },
  { dst := some 21, op := .extract (.tmp 15) 0, type := 34, pos := "frac.go:73", after := #[⟨5, .data⟩], guard := none },
  { dst := some 22, op := .extract (.tmp 15) 1, type := 34, pos := "frac.go:73", after := #[⟨5, .data⟩, ⟨10, .gcOnly .lateStores⟩], guard := none },
  { dst := some 6, op := .alloc 34, type := 0, pos := "frac.go:73", after := #[], guard := none },
  { dst := some 7, op := .alloc 34, type := 0, pos := "frac.go:73", after := #[], guard := none },
  { dst := none, op := .store 34 (.tmp 6) (.tmp 21), type := 0, pos := "frac.go:73", after := #[⟨8, .data⟩, ⟨6, .data⟩, ⟨4, .chain⟩, ⟨0, .phase⟩, ⟨1, .phase⟩, ⟨2, .phase⟩, ⟨3, .phase⟩, ⟨4, .phase⟩, ⟨5, .phase⟩, ⟨6, .phase⟩, ⟨7, .textOnly .lateStores⟩, ⟨8, .phase⟩, ⟨9, .phase⟩], guard := none },
  { dst := none, op := .store 34 (.tmp 7) (.tmp 22), type := 0, pos := "frac.go:73", after := #[⟨9, .data⟩, ⟨7, .data⟩, ⟨10, .chain⟩, ⟨0, .phase⟩, ⟨1, .phase⟩, ⟨2, .phase⟩, ⟨3, .phase⟩, ⟨4, .phase⟩, ⟨5, .phase⟩, ⟨6, .phase⟩, ⟨7, .phase⟩, ⟨8, .phase⟩, ⟨9, .phase⟩, ⟨10, .phase⟩], guard := none }]
set_option maxRecDepth 100000 in
set_option maxHeartbeats 1000000 in
theorem mul_reg1 {Q : Exit → Act → World → Prop} {a0 : Act} {w0 : World} {p2 p3 : Nat} {a b : Rat} {da ea db eb : Bool} {Aa Ea Ab Eb : Option Addr} {na ca ma fa nb cb mb fb : Nat} {d : Int} (hN : a0.tmps.size = 55) (t2 : a0.tmps[2]? = some (.pointer (some ⟨p2, 0, none⟩))) (t3 : a0.tmps[3]? = some (.pointer (some ⟨p3, 0, none⟩))) (Ha : HoldQ w0 p2 a da Aa na ca ea Ea ma fa) (Hb : HoldQ w0 p3 b db Ab nb cb eb Eb mb fb) (ia : InF a) (ib : InF b) (hg : (Nat.gcd a.num.natAbs (b.den : Int).natAbs : Int) = d) (hd0 : d ≠ 0)
    (hQ : ∀ (w : World) (v16 v17 v18 v19 v20 v15 v21 v22 : Value) (g6 g7 : Nat) (e6 : Bool) (A6 : Option Addr) (n6 c6 : Nat) (e7 : Bool) (A7 : Option Addr) (n7 c7 : Nat), Below w0.heap.size w0 w → HoldI w g6 (a.num / d) e6 A6 n6 c6 → HoldI w g7 ((b.den : Int) / d) e7 A7 n7 c7 → g6 ≠ g7 → w0.heap.size ≤ g6 → w0.heap.size ≤ g7 → Q .normal ⟨([(16, v16), (17, v17), (18, v18), (19, v19), (20, v20), (15, v15), (21, v21), (22, v22), (6, .pointer (some ⟨g6, 0, none⟩)), (7, .pointer (some ⟨g7, 0, none⟩))] : List (Nat × Value)).foldl (fun ts p => ts.setIfInBounds p.1 p.2) a0.tmps, a0.defers⟩ w) :
    (Code.region 1 mul_reg1_ops true).wp Tryz.prog Q a0 w0 := by
  refine wp_region_boxes' (ty := 34) (cl := [.val 16 (Is (.pointer (some ⟨p2, 0, none⟩))), .val 17 (Is (.agg #[.bool da, .slice Aa na ca])), .val 18 (Is (.agg #[.bool db, .slice Ab nb cb, .bool eb, .slice Eb mb fb])), .val 19 (IsI ((b.den : Int))), .val 20 (IsTwo (a.num / d) ((b.den : Int) / d)), .val 15 (IsTwo (a.num / d) ((b.den : Int) / d)), .val 21 (IsI (a.num / d)), .val 22 (IsI ((b.den : Int) / d)), .new 6, .new 7, .put 6 (IsI (a.num / d)), .put 7 (IsI ((b.den : Int) / d))]) 55 (by kernel_rfl) hN (by kernel_rfl) ?_ ?_ ?_
  · exact ⟨Is.stb _ _, Is.stb _ _, Is.stb _ _, IsI.stb _ _, IsTwo.stb _ _ _, IsTwo.stb _ _ _, IsI.stb _ _, IsI.stb _ _, trivial, trivial, IsI.stb _ _, IsI.stb _ _, trivial⟩
  · refine ⟨?_, ?_, ?_, ?_, ?_, ?_, ?_, ?_, ?_, ?_, ?_, ?_, trivial⟩
    · intro l ac w h hd K hK
      exact op_field0 rfl ((h.same 2 (not_dst (by kernel_rfl))).trans t2) (hK _ _ rfl (Below.refl _ _))
    · intro l ac w h hd K hK
      obtain ⟨v, hv, rfl⟩ := h.fact 0 _ rfl (dep hd 0 (by kernel_rfl))
      exact op_load2 rfl hv (Ha.below h.below).c0 (Ha.below h.below).c1 (hK _ _ rfl (Below.refl _ _))
    · intro l ac w h hd K hK
      exact op_load4 rfl ((h.same 3 (not_dst (by kernel_rfl))).trans t3) (Hb.below h.below).c0 (Hb.below h.below).c1 (Hb.below h.below).c2 (Hb.below h.below).c3 (hK _ _ rfl (Below.refl _ _))
    · intro l ac w h hd K hK
      obtain ⟨v, hv, rfl⟩ := h.fact 2 _ rfl (dep hd 2 (by kernel_rfl))
      exact op_call1 rfl hv (enters_of Tryz.func48 (by kernel_rfl) rfl) ((den_any b _ _ (Hb.below h.below).2 ib).mono fun e w' ⟨v, he, h1, h2⟩ => ⟨v, he, hK _ _ h1 h2⟩)
    · intro l ac w h hd K hK
      obtain ⟨v, hv, rfl⟩ := h.fact 1 _ rfl (dep hd 1 (by kernel_rfl))
      obtain ⟨v', hv', hF⟩ := h.fact 3 _ rfl (dep hd 3 (by kernel_rfl))
      exact op_call2 rfl hv hv' (enters_of Tryz.func63 (by kernel_rfl) rfl) ((lowest_any a.num (b.den : Int) d _ _ _ (Ha.below h.below).2.num hF ia.1 (den_lim ib) hg hd0).mono fun e w' ⟨u, v, he, h1, h2, h3⟩ => ⟨.tuple #[u, v], he, hK _ _ ⟨u, v, rfl, h1, h2⟩ h3⟩)
    · intro l ac w h hd K hK
      obtain ⟨v, hv, hF⟩ := h.fact 4 _ rfl (dep hd 4 (by kernel_rfl))
      exact op_move rfl hv (hK _ _ hF (Below.refl _ _))
    · intro l ac w h hd K hK
      obtain ⟨v, hv, u1, u2, rfl, h1, h2⟩ := h.fact 5 _ rfl (dep hd 5 (by kernel_rfl))
      exact op_extract0 rfl hv (hK _ _ h1 (Below.refl _ _))
    · intro l ac w h hd K hK
      obtain ⟨v, hv, u1, u2, rfl, h1, h2⟩ := h.fact 5 _ rfl (dep hd 5 (by kernel_rfl))
      exact op_extract1 rfl hv (hK _ _ h2 (Below.refl _ _))
    · intro ac w K hK
      exact op_new rfl hK
    · intro ac w K hK
      exact op_new rfl hK
    · refine ⟨⟨8, rfl⟩, fun l ac w h hd => ?_⟩
      obtain ⟨g, hg, hlt, e, A, n, c, hB⟩ := h.fact 8 _ rfl (dep hd 8 (by kernel_rfl))
      obtain ⟨v, hv, hF⟩ := h.fact 6 _ rfl (dep hd 6 (by kernel_rfl))
      obtain ⟨e', A', n', c', rfl⟩ := RepI.shape hF
      exact ⟨g, e', A', n', c', e, A, n, c, hg, hlt, hB, hF, fun K hK => op_store2 rfl hg hv hB hK⟩
    · refine ⟨⟨9, rfl⟩, fun l ac w h hd => ?_⟩
      obtain ⟨g, hg, hlt, e, A, n, c, hB⟩ := h.fact 9 _ rfl (dep hd 9 (by kernel_rfl))
      obtain ⟨v, hv, hF⟩ := h.fact 7 _ rfl (dep hd 7 (by kernel_rfl))
      obtain ⟨e', A', n', c', rfl⟩ := RepI.shape hF
      exact ⟨g, e', A', n', c', e, A, n, c, hg, hlt, hB, hF, fun K hK => op_store2 rfl hg hv hB hK⟩
  · intro l ac w h hall
    obtain ⟨v16, q16, _⟩ := h.fact 0 _ rfl (hall 0 (of_decide_eq_true (by kernel_rfl)))
    obtain ⟨v17, q17, _⟩ := h.fact 1 _ rfl (hall 1 (of_decide_eq_true (by kernel_rfl)))
    obtain ⟨v18, q18, _⟩ := h.fact 2 _ rfl (hall 2 (of_decide_eq_true (by kernel_rfl)))
    obtain ⟨v19, q19, _⟩ := h.fact 3 _ rfl (hall 3 (of_decide_eq_true (by kernel_rfl)))
    obtain ⟨v20, q20, _⟩ := h.fact 4 _ rfl (hall 4 (of_decide_eq_true (by kernel_rfl)))
    obtain ⟨v15, q15, _⟩ := h.fact 5 _ rfl (hall 5 (of_decide_eq_true (by kernel_rfl)))
    obtain ⟨v21, q21, _⟩ := h.fact 6 _ rfl (hall 6 (of_decide_eq_true (by kernel_rfl)))
    obtain ⟨v22, q22, _⟩ := h.fact 7 _ rfl (hall 7 (of_decide_eq_true (by kernel_rfl)))
    obtain ⟨g6, q6, l6, e6, A6, n6, c6, B6, F6⟩ := h.fact 10 _ rfl (hall 10 (of_decide_eq_true (by kernel_rfl)))
    obtain ⟨g7, q7, l7, e7, A7, n7, c7, B7, F7⟩ := h.fact 11 _ rfl (hall 11 (of_decide_eq_true (by kernel_rfl)))
    have d6_7 : g6 ≠ g7 := fun e => h.apart 8 9 6 7 g6 (by decide) rfl rfl (hall 8 (of_decide_eq_true (by kernel_rfl))) (hall 9 (of_decide_eq_true (by kernel_rfl))) q6 (e ▸ q7)
    have ha := act_of [(16, v16), (17, v17), (18, v18), (19, v19), (20, v20), (15, v15), (21, v21), (22, v22), (6, .pointer (some ⟨g6, 0, none⟩)), (7, .pointer (some ⟨g7, 0, none⟩))] h.defers h.size (List.forall_mem_cons.2 ⟨q16, List.forall_mem_cons.2 ⟨q17, List.forall_mem_cons.2 ⟨q18, List.forall_mem_cons.2 ⟨q19, List.forall_mem_cons.2 ⟨q20, List.forall_mem_cons.2 ⟨q15, List.forall_mem_cons.2 ⟨q21, List.forall_mem_cons.2 ⟨q22, List.forall_mem_cons.2 ⟨q6, List.forall_mem_cons.2 ⟨q7, fun _ h => by cases h⟩⟩⟩⟩⟩⟩⟩⟩⟩⟩) (fun t ht => h.same t (fun hm => ht (in_dst (F := [16, 17, 18, 19, 20, 15, 21, 22, 6, 7]) (by kernel_rfl) hm)))
    rw [ha]
    exact hQ w _ _ _ _ _ _ _ _ _ _ _ _ _ _ _ _ _ _ h.below ⟨B6, F6⟩ ⟨B7, F7⟩ d6_7 l6 l7
def mul_reg2_ops : Array Oper := #[
  { dst := some 24, op := .fieldAddr 36 (.tmp 3) 0, type := 0, pos := "frac.go:74", after := #[], guard := none },
  { dst := some 25, op := .load 34 (.tmp 24), type := 34, pos := "frac.go:74", after := #[⟨0, .data⟩], guard := none },
  { dst := some 26, op := .load 36 (.tmp 2), type := 36, pos := "frac.go:74", after := #[], guard := none },
  { dst := some 27, op := .call { callee := .value (.func 48), args := #[.tmp 26], argTypes := #[36] }, type := 34, pos := "frac.go:74", after := #[⟨2, .data⟩], guard := none },
  { dst := some 28, op := .call { callee := .value (.func 63), args := #[.tmp 25, .tmp 27], argTypes := #[34, 34] }, type := 92, pos := "frac.go:74", after := #[⟨1, .data⟩, ⟨3, .data⟩, ⟨3, .chain⟩], guard := none },
  { dst := some 23, op := .move (.tmp 28), type := 92, pos := "frac.go:74", after := #[⟨4, .data⟩], guard := none },
  { dst := some 29, op := .extract (.tmp 23) 0, type := 34, pos := "frac.go:74", after := #[⟨5, .data⟩], guard := none },
  { dst := some 30, op := .extract (.tmp 23) 1, type := 34, pos := "frac.go:74", after := #[⟨5, .data⟩, ⟨10, .gcOnly .lateStores⟩], guard := none },
  { dst := some 8, op := .alloc 34, type := 0, pos := "frac.go:74", after := #[], guard := none },
  { dst := some 9, op := .alloc 34, type := 0, pos := "frac.go:74", after := #[], guard := none },
  { dst := none, op := .store 34 (.tmp 8) (.tmp 29), type := 0, pos := "frac.go:74", after := #[⟨8, .data⟩, ⟨6, .data⟩, ⟨4, .chain⟩, ⟨0, .phase⟩, ⟨1, .phase⟩, ⟨2, .phase⟩, ⟨3, .phase⟩, ⟨4, .phase⟩, ⟨5, .phase⟩, ⟨6, .phase⟩, ⟨7, .textOnly .lateStores⟩, ⟨8, .phase⟩, ⟨9, .phase⟩], guard := none },
  { dst := none, op := .store 34 (.tmp 9) (.tmp 30), type := 0, pos := "frac.go:74", after := #[⟨9, .data⟩, ⟨7, .data⟩, ⟨10, .chain⟩, ⟨0, .phase⟩, ⟨1, .phase⟩, ⟨2, .phase⟩, ⟨3, .phase⟩, ⟨4, .phase⟩, ⟨5, .phase⟩, ⟨6, .phase⟩, ⟨7, .phase⟩, ⟨8, .phase⟩, ⟨9, .phase⟩, ⟨10, .phase⟩], guard := none }]
set_option maxRecDepth 100000 in
set_option maxHeartbeats 1000000 in
theorem mul_reg2 {Q : Exit → Act → World → Prop} {a0 : Act} {w0 : World} {p2 p3 : Nat} {a b : Rat} {da ea db eb : Bool} {Aa Ea Ab Eb : Option Addr} {na ca ma fa nb cb mb fb : Nat} {d : Int} (hN : a0.tmps.size = 55) (t2 : a0.tmps[2]? = some (.pointer (some ⟨p2, 0, none⟩))) (t3 : a0.tmps[3]? = some (.pointer (some ⟨p3, 0, none⟩))) (Ha : HoldQ w0 p2 a da Aa na ca ea Ea ma fa) (Hb : HoldQ w0 p3 b db Ab nb cb eb Eb mb fb) (ia : InF a) (ib : InF b) (hg : (Nat.gcd b.num.natAbs (a.den : Int).natAbs : Int) = d) (hd0 : d ≠ 0)
    (hQ : ∀ (w : World) (v24 v25 v26 v27 v28 v23 v29 v30 : Value) (g8 g9 : Nat) (e8 : Bool) (A8 : Option Addr) (n8 c8 : Nat) (e9 : Bool) (A9 : Option Addr) (n9 c9 : Nat), Below w0.heap.size w0 w → HoldI w g8 (b.num / d) e8 A8 n8 c8 → HoldI w g9 ((a.den : Int) / d) e9 A9 n9 c9 → g8 ≠ g9 → w0.heap.size ≤ g8 → w0.heap.size ≤ g9 → Q .normal ⟨([(24, v24), (25, v25), (26, v26), (27, v27), (28, v28), (23, v23), (29, v29), (30, v30), (8, .pointer (some ⟨g8, 0, none⟩)), (9, .pointer (some ⟨g9, 0, none⟩))] : List (Nat × Value)).foldl (fun ts p => ts.setIfInBounds p.1 p.2) a0.tmps, a0.defers⟩ w) :
    (Code.region 2 mul_reg2_ops true).wp Tryz.prog Q a0 w0 := by
  refine wp_region_boxes' (ty := 34) (cl := [.val 24 (Is (.pointer (some ⟨p3, 0, none⟩))), .val 25 (Is (.agg #[.bool db, .slice Ab nb cb])), .val 26 (Is (.agg #[.bool da, .slice Aa na ca, .bool ea, .slice Ea ma fa])), .val 27 (IsI ((a.den : Int))), .val 28 (IsTwo (b.num / d) ((a.den : Int) / d)), .val 23 (IsTwo (b.num / d) ((a.den : Int) / d)), .val 29 (IsI (b.num / d)), .val 30 (IsI ((a.den : Int) / d)), .new 8, .new 9, .put 8 (IsI (b.num / d)), .put 9 (IsI ((a.den : Int) / d))]) 55 (by kernel_rfl) hN (by kernel_rfl) ?_ ?_ ?_
  · exact ⟨Is.stb _ _, Is.stb _ _, Is.stb _ _, IsI.stb _ _, IsTwo.stb _ _ _, IsTwo.stb _ _ _, IsI.stb _ _, IsI.stb _ _, trivial, trivial, IsI.stb _ _, IsI.stb _ _, trivial⟩
  · refine ⟨?_, ?_, ?_, ?_, ?_, ?_, ?_, ?_, ?_, ?_, ?_, ?_, trivial⟩
    · intro l ac w h hd K hK
      exact op_field0 rfl ((h.same 3 (not_dst (by kernel_rfl))).trans t3) (hK _ _ rfl (Below.refl _ _))
    · intro l ac w h hd K hK
      obtain ⟨v, hv, rfl⟩ := h.fact 0 _ rfl (dep hd 0 (by kernel_rfl))
      exact op_load2 rfl hv (Hb.below h.below).c0 (Hb.below h.below).c1 (hK _ _ rfl (Below.refl _ _))
    · intro l ac w h hd K hK
      exact op_load4 rfl ((h.same 2 (not_dst (by kernel_rfl))).trans t2) (Ha.below h.below).c0 (Ha.below h.below).c1 (Ha.below h.below).c2 (Ha.below h.below).c3 (hK _ _ rfl (Below.refl _ _))
    · intro l ac w h hd K hK
      obtain ⟨v, hv, rfl⟩ := h.fact 2 _ rfl (dep hd 2 (by kernel_rfl))
      exact op_call1 rfl hv (enters_of Tryz.func48 (by kernel_rfl) rfl) ((den_any a _ _ (Ha.below h.below).2 ia).mono fun e w' ⟨v, he, h1, h2⟩ => ⟨v, he, hK _ _ h1 h2⟩)
    · intro l ac w h hd K hK
      obtain ⟨v, hv, rfl⟩ := h.fact 1 _ rfl (dep hd 1 (by kernel_rfl))
      obtain ⟨v', hv', hF⟩ := h.fact 3 _ rfl (dep hd 3 (by kernel_rfl))
      exact op_call2 rfl hv hv' (enters_of Tryz.func63 (by kernel_rfl) rfl) ((lowest_any b.num (a.den : Int) d _ _ _ (Hb.below h.below).2.num hF ib.1 (den_lim ia) hg hd0).mono fun e w' ⟨u, v, he, h1, h2, h3⟩ => ⟨.tuple #[u, v], he, hK _ _ ⟨u, v, rfl, h1, h2⟩ h3⟩)
    · intro l ac w h hd K hK
      obtain ⟨v, hv, hF⟩ := h.fact 4 _ rfl (dep hd 4 (by kernel_rfl))
      exact op_move rfl hv (hK _ _ hF (Below.refl _ _))
    · intro l ac w h hd K hK
      obtain ⟨v, hv, u1, u2, rfl, h1, h2⟩ := h.fact 5 _ rfl (dep hd 5 (by kernel_rfl))
      exact op_extract0 rfl hv (hK _ _ h1 (Below.refl _ _))
    · intro l ac w h hd K hK
      obtain ⟨v, hv, u1, u2, rfl, h1, h2⟩ := h.fact 5 _ rfl (dep hd 5 (by kernel_rfl))
      exact op_extract1 rfl hv (hK _ _ h2 (Below.refl _ _))
    · intro ac w K hK
      exact op_new rfl hK
    · intro ac w K hK
      exact op_new rfl hK
    · refine ⟨⟨8, rfl⟩, fun l ac w h hd => ?_⟩
      obtain ⟨g, hg, hlt, e, A, n, c, hB⟩ := h.fact 8 _ rfl (dep hd 8 (by kernel_rfl))
      obtain ⟨v, hv, hF⟩ := h.fact 6 _ rfl (dep hd 6 (by kernel_rfl))
      obtain ⟨e', A', n', c', rfl⟩ := RepI.shape hF
      exact ⟨g, e', A', n', c', e, A, n, c, hg, hlt, hB, hF, fun K hK => op_store2 rfl hg hv hB hK⟩
    · refine ⟨⟨9, rfl⟩, fun l ac w h hd => ?_⟩
      obtain ⟨g, hg, hlt, e, A, n, c, hB⟩ := h.fact 9 _ rfl (dep hd 9 (by kernel_rfl))
      obtain ⟨v, hv, hF⟩ := h.fact 7 _ rfl (dep hd 7 (by kernel_rfl))
      obtain ⟨e', A', n', c', rfl⟩ := RepI.shape hF
      exact ⟨g, e', A', n', c', e, A, n, c, hg, hlt, hB, hF, fun K hK => op_store2 rfl hg hv hB hK⟩
  · intro l ac w h hall
    obtain ⟨v24, q24, _⟩ := h.fact 0 _ rfl (hall 0 (of_decide_eq_true (by kernel_rfl)))
    obtain ⟨v25, q25, _⟩ := h.fact 1 _ rfl (hall 1 (of_decide_eq_true (by kernel_rfl)))
    obtain ⟨v26, q26, _⟩ := h.fact 2 _ rfl (hall 2 (of_decide_eq_true (by kernel_rfl)))
    obtain ⟨v27, q27, _⟩ := h.fact 3 _ rfl (hall 3 (of_decide_eq_true (by kernel_rfl)))
    obtain ⟨v28, q28, _⟩ := h.fact 4 _ rfl (hall 4 (of_decide_eq_true (by kernel_rfl)))
    obtain ⟨v23, q23, _⟩ := h.fact 5 _ rfl (hall 5 (of_decide_eq_true (by kernel_rfl)))
    obtain ⟨v29, q29, _⟩ := h.fact 6 _ rfl (hall 6 (of_decide_eq_true (by kernel_rfl)))
    obtain ⟨v30, q30, _⟩ := h.fact 7 _ rfl (hall 7 (of_decide_eq_true (by kernel_rfl)))
    obtain ⟨g8, q8, l8, e8, A8, n8, c8, B8, F8⟩ := h.fact 10 _ rfl (hall 10 (of_decide_eq_true (by kernel_rfl)))
    obtain ⟨g9, q9, l9, e9, A9, n9, c9, B9, F9⟩ := h.fact 11 _ rfl (hall 11 (of_decide_eq_true (by kernel_rfl)))
    have d8_9 : g8 ≠ g9 := fun e => h.apart 8 9 8 9 g8 (by decide) rfl rfl (hall 8 (of_decide_eq_true (by kernel_rfl))) (hall 9 (of_decide_eq_true (by kernel_rfl))) q8 (e ▸ q9)
    have ha := act_of [(24, v24), (25, v25), (26, v26), (27, v27), (28, v28), (23, v23), (29, v29), (30, v30), (8, .pointer (some ⟨g8, 0, none⟩)), (9, .pointer (some ⟨g9, 0, none⟩))] h.defers h.size (List.forall_mem_cons.2 ⟨q24, List.forall_mem_cons.2 ⟨q25, List.forall_mem_cons.2 ⟨q26, List.forall_mem_cons.2 ⟨q27, List.forall_mem_cons.2 ⟨q28, List.forall_mem_cons.2 ⟨q23, List.forall_mem_cons.2 ⟨q29, List.forall_mem_cons.2 ⟨q30, List.forall_mem_cons.2 ⟨q8, List.forall_mem_cons.2 ⟨q9, fun _ h => by cases h⟩⟩⟩⟩⟩⟩⟩⟩⟩⟩) (fun t ht => h.same t (fun hm => ht (in_dst (F := [24, 25, 26, 27, 28, 23, 29, 30, 8, 9]) (by kernel_rfl) hm)))
    rw [ha]
    exact hQ w _ _ _ _ _ _ _ _ _ _ _ _ _ _ _ _ _ _ h.below ⟨B8, F8⟩ ⟨B9, F9⟩ d8_9 l8 l9
def add_reg1_ops : Array Oper := #[
  { dst := some 21, op := .load 36 (.tmp 2), type := 36, pos := "frac.go:47", after := #[], guard := none },
  { dst := some 22, op := .call { callee := .value (.func 48), args := #[.tmp 21], argTypes := #[36] }, type := 34, pos := "frac.go:47", after := #[⟨0, .data⟩], guard := none },
  { dst := some 23, op := .load 36 (.tmp 3), type := 36, pos := "frac.go:47", after := #[], guard := none },
  { dst := some 24, op := .call { callee := .value (.func 48), args := #[.tmp 23], argTypes := #[36] }, type := 34, pos := "frac.go:47", after := #[⟨2, .data⟩, ⟨1, .chain⟩], guard := none },
  { dst := some 6, op := .alloc 34, type := 0, pos := "frac.go:47", after := #[], guard := none },
  { dst := some 7, op := .alloc 34, type := 0, pos := "frac.go:47", after := #[], guard := none },
  { dst := none, op := .store 34 (.tmp 6) (.tmp 22), type := 0, pos := "frac.go:47", after := #[⟨4, .data⟩, ⟨1, .data⟩, ⟨3, .chain⟩, ⟨0, .phase⟩, ⟨1, .phase⟩, ⟨2, .textOnly .lateStores⟩, ⟨3, .textOnly .lateStoresUnsure⟩, ⟨4, .phase⟩, ⟨5, .phase⟩], guard := none },
  { dst := none, op := .store 34 (.tmp 7) (.tmp 24), type := 0, pos := "frac.go:47", after := #[⟨5, .data⟩, ⟨3, .data⟩, ⟨6, .chain⟩, ⟨0, .phase⟩, ⟨1, .phase⟩, ⟨2, .phase⟩, ⟨3, .phase⟩, ⟨4, .phase⟩, ⟨5, .phase⟩, ⟨6, .phase⟩], guard := none }]
set_option maxRecDepth 100000 in
set_option maxHeartbeats 1000000 in
theorem add_reg1 {Q : Exit → Act → World → Prop} {a0 : Act} {w0 : World} {p2 p3 : Nat} {a b : Rat} {da ea db eb : Bool} {Aa Ea Ab Eb : Option Addr} {na ca ma fa nb cb mb fb : Nat} (hN : a0.tmps.size = 83) (t2 : a0.tmps[2]? = some (.pointer (some ⟨p2, 0, none⟩))) (t3 : a0.tmps[3]? = some (.pointer (some ⟨p3, 0, none⟩))) (Ha : HoldQ w0 p2 a da Aa na ca ea Ea ma fa) (Hb : HoldQ w0 p3 b db Ab nb cb eb Eb mb fb) (ia : InF a) (ib : InF b)
    (hQ : ∀ (w : World) (v21 v22 v23 v24 : Value) (g6 g7 : Nat) (e6 : Bool) (A6 : Option Addr) (n6 c6 : Nat) (e7 : Bool) (A7 : Option Addr) (n7 c7 : Nat), Below w0.heap.size w0 w → HoldI w g6 ((a.den : Int)) e6 A6 n6 c6 → HoldI w g7 ((b.den : Int)) e7 A7 n7 c7 → g6 ≠ g7 → w0.heap.size ≤ g6 → w0.heap.size ≤ g7 → Q .normal ⟨([(21, v21), (22, v22), (23, v23), (24, v24), (6, .pointer (some ⟨g6, 0, none⟩)), (7, .pointer (some ⟨g7, 0, none⟩))] : List (Nat × Value)).foldl (fun ts p => ts.setIfInBounds p.1 p.2) a0.tmps, a0.defers⟩ w) :
    (Code.region 1 add_reg1_ops true).wp Tryz.prog Q a0 w0 := by
  refine wp_region_boxes' (ty := 34) (cl := [.val 21 (Is (.agg #[.bool da, .slice Aa na ca, .bool ea, .slice Ea ma fa])), .val 22 (IsI ((a.den : Int))), .val 23 (Is (.agg #[.bool db, .slice Ab nb cb, .bool eb, .slice Eb mb fb])), .val 24 (IsI ((b.den : Int))), .new 6, .new 7, .put 6 (IsI ((a.den : Int))), .put 7 (IsI ((b.den : Int)))]) 83 (by kernel_rfl) hN (by kernel_rfl) ?_ ?_ ?_
  · exact ⟨Is.stb _ _, IsI.stb _ _, Is.stb _ _, IsI.stb _ _, trivial, trivial, IsI.stb _ _, IsI.stb _ _, trivial⟩
  · refine ⟨?_, ?_, ?_, ?_, ?_, ?_, ?_, ?_, trivial⟩
    · intro l ac w h hd K hK
      exact op_load4 rfl ((h.same 2 (not_dst (by kernel_rfl))).trans t2) (Ha.below h.below).c0 (Ha.below h.below).c1 (Ha.below h.below).c2 (Ha.below h.below).c3 (hK _ _ rfl (Below.refl _ _))
    · intro l ac w h hd K hK
      obtain ⟨v, hv, rfl⟩ := h.fact 0 _ rfl (dep hd 0 (by kernel_rfl))
      exact op_call1 rfl hv (enters_of Tryz.func48 (by kernel_rfl) rfl) ((den_any a _ _ (Ha.below h.below).2 ia).mono fun e w' ⟨v, he, h1, h2⟩ => ⟨v, he, hK _ _ h1 h2⟩)
    · intro l ac w h hd K hK
      exact op_load4 rfl ((h.same 3 (not_dst (by kernel_rfl))).trans t3) (Hb.below h.below).c0 (Hb.below h.below).c1 (Hb.below h.below).c2 (Hb.below h.below).c3 (hK _ _ rfl (Below.refl _ _))
    · intro l ac w h hd K hK
      obtain ⟨v, hv, rfl⟩ := h.fact 2 _ rfl (dep hd 2 (by kernel_rfl))
      exact op_call1 rfl hv (enters_of Tryz.func48 (by kernel_rfl) rfl) ((den_any b _ _ (Hb.below h.below).2 ib).mono fun e w' ⟨v, he, h1, h2⟩ => ⟨v, he, hK _ _ h1 h2⟩)
    · intro ac w K hK
      exact op_new rfl hK
    · intro ac w K hK
      exact op_new rfl hK
    · refine ⟨⟨4, rfl⟩, fun l ac w h hd => ?_⟩
      obtain ⟨g, hg, hlt, e, A, n, c, hB⟩ := h.fact 4 _ rfl (dep hd 4 (by kernel_rfl))
      obtain ⟨v, hv, hF⟩ := h.fact 1 _ rfl (dep hd 1 (by kernel_rfl))
      obtain ⟨e', A', n', c', rfl⟩ := RepI.shape hF
      exact ⟨g, e', A', n', c', e, A, n, c, hg, hlt, hB, hF, fun K hK => op_store2 rfl hg hv hB hK⟩
    · refine ⟨⟨5, rfl⟩, fun l ac w h hd => ?_⟩
      obtain ⟨g, hg, hlt, e, A, n, c, hB⟩ := h.fact 5 _ rfl (dep hd 5 (by kernel_rfl))
      obtain ⟨v, hv, hF⟩ := h.fact 3 _ rfl (dep hd 3 (by kernel_rfl))
      obtain ⟨e', A', n', c', rfl⟩ := RepI.shape hF
      exact ⟨g, e', A', n', c', e, A, n, c, hg, hlt, hB, hF, fun K hK => op_store2 rfl hg hv hB hK⟩
  · intro l ac w h hall
    obtain ⟨v21, q21, _⟩ := h.fact 0 _ rfl (hall 0 (of_decide_eq_true (by kernel_rfl)))
    obtain ⟨v22, q22, _⟩ := h.fact 1 _ rfl (hall 1 (of_decide_eq_true (by kernel_rfl)))
    obtain ⟨v23, q23, _⟩ := h.fact 2 _ rfl (hall 2 (of_decide_eq_true (by kernel_rfl)))
    obtain ⟨v24, q24, _⟩ := h.fact 3 _ rfl (hall 3 (of_decide_eq_true (by kernel_rfl)))
    obtain ⟨g6, q6, l6, e6, A6, n6, c6, B6, F6⟩ := h.fact 6 _ rfl (hall 6 (of_decide_eq_true (by kernel_rfl)))
    obtain ⟨g7, q7, l7, e7, A7, n7, c7, B7, F7⟩ := h.fact 7 _ rfl (hall 7 (of_decide_eq_true (by kernel_rfl)))
    have d6_7 : g6 ≠ g7 := fun e => h.apart 4 5 6 7 g6 (by decide) rfl rfl (hall 4 (of_decide_eq_true (by kernel_rfl))) (hall 5 (of_decide_eq_true (by kernel_rfl))) q6 (e ▸ q7)
    have ha := act_of [(21, v21), (22, v22), (23, v23), (24, v24), (6, .pointer (some ⟨g6, 0, none⟩)), (7, .pointer (some ⟨g7, 0, none⟩))] h.defers h.size (List.forall_mem_cons.2 ⟨q21, List.forall_mem_cons.2 ⟨q22, List.forall_mem_cons.2 ⟨q23, List.forall_mem_cons.2 ⟨q24, List.forall_mem_cons.2 ⟨q6, List.forall_mem_cons.2 ⟨q7, fun _ h => by cases h⟩⟩⟩⟩⟩⟩) (fun t ht => h.same t (fun hm => ht (in_dst (F := [21, 22, 23, 24, 6, 7]) (by kernel_rfl) hm)))
    rw [ha]
    exact hQ w _ _ _ _ _ _ _ _ _ _ _ _ _ _ h.below ⟨B6, F6⟩ ⟨B7, F7⟩ d6_7 l6 l7
def add_reg3_ops : Array Oper := #[
  { dst := some 28, op := .load 34 (.tmp 6), type := 34, pos := "frac.go:49", after := #[], guard := none },
  { dst := some 29, op := .load 34 (.tmp 8), type := 34, pos := "frac.go:49", after := #[], guard := none },
  { dst := some 30, op := .call { callee := .value (.func 70), args := #[.tmp 28, .tmp 29], argTypes := #[34, 34] }, type := 34, pos := "frac.go:49", after := #[⟨0, .data⟩, ⟨1, .data⟩], guard := none },
  { dst := some 31, op := .load 34 (.tmp 7), type := 34, pos := "frac.go:49", after := #[], guard := none },
  { dst := some 32, op := .load 34 (.tmp 8), type := 34, pos := "frac.go:49", after := #[], guard := none },
  { dst := some 33, op := .call { callee := .value (.func 70), args := #[.tmp 31, .tmp 32], argTypes := #[34, 34] }, type := 34, pos := "frac.go:49", after := #[⟨3, .data⟩, ⟨4, .data⟩, ⟨2, .chain⟩], guard := none },
  { dst := some 9, op := .alloc 34, type := 0, pos := "frac.go:49", after := #[], guard := none },
  { dst := some 10, op := .alloc 34, type := 0, pos := "frac.go:49", after := #[], guard := none },
  { dst := none, op := .store 34 (.tmp 9) (.tmp 30), type := 0, pos := "frac.go:49", after := #[⟨6, .data⟩, ⟨2, .data⟩, ⟨5, .chain⟩, ⟨0, .phase⟩, ⟨1, .phase⟩, ⟨2, .phase⟩, ⟨3, .textOnly .lateStores⟩, ⟨4, .textOnly .lateStores⟩, ⟨5, .textOnly .lateStoresUnsure⟩, ⟨6, .phase⟩, ⟨7, .phase⟩], guard := none },
  { dst := none, op := .store 34 (.tmp 10) (.tmp 33), type := 0, pos := "frac.go:49", after := #[⟨7, .data⟩, ⟨5, .data⟩, ⟨8, .chain⟩, ⟨0, .phase⟩, ⟨1, .phase⟩, ⟨2, .phase⟩, ⟨3, .phase⟩, ⟨4, .phase⟩, ⟨5, .phase⟩, ⟨6, .phase⟩, ⟨7, .phase⟩, ⟨8, .phase⟩], guard := none }]
set_option maxRecDepth 100000 in
set_option maxHeartbeats 1000000 in
theorem add_reg3 {Q : Exit → Act → World → Prop} {a0 : Act} {w0 : World} {p1 p2 p3 : Nat} {x y d : Int} {d1 d2 d3 : Bool} {A1 A2 A3 : Option Addr} {n1 c1 n2 c2 n3 c3 : Nat} (hN : a0.tmps.size = 83) (t1 : a0.tmps[6]? = some (.pointer (some ⟨p1, 0, none⟩))) (t2 : a0.tmps[7]? = some (.pointer (some ⟨p2, 0, none⟩))) (t3 : a0.tmps[8]? = some (.pointer (some ⟨p3, 0, none⟩))) (Hx : HoldI w0 p1 x d1 A1 n1 c1) (Hy : HoldI w0 p2 y d2 A2 n2 c2) (Hd : HoldI w0 p3 d d3 A3 n3 c3) (bx : (x.natAbs : Int) < lim) (by_ : (y.natAbs : Int) < lim) (bd : (d.natAbs : Int) < lim) (hd0 : d ≠ 0)
    (hQ : ∀ (w : World) (v28 v29 v30 v31 v32 v33 : Value) (g9 g10 : Nat) (e9 : Bool) (A9 : Option Addr) (n9 c9 : Nat) (e10 : Bool) (A10 : Option Addr) (n10 c10 : Nat), Below w0.heap.size w0 w → HoldI w g9 (x / d) e9 A9 n9 c9 → HoldI w g10 (y / d) e10 A10 n10 c10 → g9 ≠ g10 → w0.heap.size ≤ g9 → w0.heap.size ≤ g10 → Q .normal ⟨([(28, v28), (29, v29), (30, v30), (31, v31), (32, v32), (33, v33), (9, .pointer (some ⟨g9, 0, none⟩)), (10, .pointer (some ⟨g10, 0, none⟩))] : List (Nat × Value)).foldl (fun ts p => ts.setIfInBounds p.1 p.2) a0.tmps, a0.defers⟩ w) :
    (Code.region 3 add_reg3_ops true).wp Tryz.prog Q a0 w0 := by
  refine wp_region_boxes' (ty := 34) (cl := [.val 28 (Is (.agg #[.bool d1, .slice A1 n1 c1])), .val 29 (Is (.agg #[.bool d3, .slice A3 n3 c3])), .val 30 (IsI (x / d)), .val 31 (Is (.agg #[.bool d2, .slice A2 n2 c2])), .val 32 (Is (.agg #[.bool d3, .slice A3 n3 c3])), .val 33 (IsI (y / d)), .new 9, .new 10, .put 9 (IsI (x / d)), .put 10 (IsI (y / d))]) 83 (by kernel_rfl) hN (by kernel_rfl) ?_ ?_ ?_
  · exact ⟨Is.stb _ _, Is.stb _ _, IsI.stb _ _, Is.stb _ _, Is.stb _ _, IsI.stb _ _, trivial, trivial, IsI.stb _ _, IsI.stb _ _, trivial⟩
  · refine ⟨?_, ?_, ?_, ?_, ?_, ?_, ?_, ?_, ?_, ?_, trivial⟩
    · intro l ac w h hd K hK
      exact op_load2 rfl ((h.same 6 (not_dst (by kernel_rfl))).trans t1) (Hx.below h.below).c0 (Hx.below h.below).c1 (hK _ _ rfl (Below.refl _ _))
    · intro l ac w h hd K hK
      exact op_load2 rfl ((h.same 8 (not_dst (by kernel_rfl))).trans t3) (Hd.below h.below).c0 (Hd.below h.below).c1 (hK _ _ rfl (Below.refl _ _))
    · intro l ac w h hd K hK
      obtain ⟨v, hv, rfl⟩ := h.fact 0 _ rfl (dep hd 0 (by kernel_rfl))
      obtain ⟨v', hv', rfl⟩ := h.fact 1 _ rfl (dep hd 1 (by kernel_rfl))
      exact op_call2 rfl hv hv' (enters_of Tryz.func70 (by kernel_rfl) rfl) ((quotient_any x d _ _ _ (Hx.below h.below).2 (Hd.below h.below).2 bx bd hd0).mono fun e w' ⟨v, he, h1, h2⟩ => ⟨v, he, hK _ _ h1 h2⟩)
    · intro l ac w h hd K hK
      exact op_load2 rfl ((h.same 7 (not_dst (by kernel_rfl))).trans t2) (Hy.below h.below).c0 (Hy.below h.below).c1 (hK _ _ rfl (Below.refl _ _))
    · intro l ac w h hd K hK
      exact op_load2 rfl ((h.same 8 (not_dst (by kernel_rfl))).trans t3) (Hd.below h.below).c0 (Hd.below h.below).c1 (hK _ _ rfl (Below.refl _ _))
    · intro l ac w h hd K hK
      obtain ⟨v, hv, rfl⟩ := h.fact 3 _ rfl (dep hd 3 (by kernel_rfl))
      obtain ⟨v', hv', rfl⟩ := h.fact 4 _ rfl (dep hd 4 (by kernel_rfl))
      exact op_call2 rfl hv hv' (enters_of Tryz.func70 (by kernel_rfl) rfl) ((quotient_any y d _ _ _ (Hy.below h.below).2 (Hd.below h.below).2 by_ bd hd0).mono fun e w' ⟨v, he, h1, h2⟩ => ⟨v, he, hK _ _ h1 h2⟩)
    · intro ac w K hK
      exact op_new rfl hK
    · intro ac w K hK
      exact op_new rfl hK
    · refine ⟨⟨6, rfl⟩, fun l ac w h hd => ?_⟩
      obtain ⟨g, hg, hlt, e, A, n, c, hB⟩ := h.fact 6 _ rfl (dep hd 6 (by kernel_rfl))
      obtain ⟨v, hv, hF⟩ := h.fact 2 _ rfl (dep hd 2 (by kernel_rfl))
      obtain ⟨e', A', n', c', rfl⟩ := RepI.shape hF
      exact ⟨g, e', A', n', c', e, A, n, c, hg, hlt, hB, hF, fun K hK => op_store2 rfl hg hv hB hK⟩
    · refine ⟨⟨7, rfl⟩, fun l ac w h hd => ?_⟩
      obtain ⟨g, hg, hlt, e, A, n, c, hB⟩ := h.fact 7 _ rfl (dep hd 7 (by kernel_rfl))
      obtain ⟨v, hv, hF⟩ := h.fact 5 _ rfl (dep hd 5 (by kernel_rfl))
      obtain ⟨e', A', n', c', rfl⟩ := RepI.shape hF
      exact ⟨g, e', A', n', c', e, A, n, c, hg, hlt, hB, hF, fun K hK => op_store2 rfl hg hv hB hK⟩
  · intro l ac w h hall
    obtain ⟨v28, q28, _⟩ := h.fact 0 _ rfl (hall 0 (of_decide_eq_true (by kernel_rfl)))
    obtain ⟨v29, q29, _⟩ := h.fact 1 _ rfl (hall 1 (of_decide_eq_true (by kernel_rfl)))
    obtain ⟨v30, q30, _⟩ := h.fact 2 _ rfl (hall 2 (of_decide_eq_true (by kernel_rfl)))
    obtain ⟨v31, q31, _⟩ := h.fact 3 _ rfl (hall 3 (of_decide_eq_true (by kernel_rfl)))
    obtain ⟨v32, q32, _⟩ := h.fact 4 _ rfl (hall 4 (of_decide_eq_true (by kernel_rfl)))
    obtain ⟨v33, q33, _⟩ := h.fact 5 _ rfl (hall 5 (of_decide_eq_true (by kernel_rfl)))
    obtain ⟨g9, q9, l9, e9, A9, n9, c9, B9, F9⟩ := h.fact 8 _ rfl (hall 8 (of_decide_eq_true (by kernel_rfl)))
    obtain ⟨g10, q10, l10, e10, A10, n10, c10, B10, F10⟩ := h.fact 9 _ rfl (hall 9 (of_decide_eq_true (by kernel_rfl)))
    have d9_10 : g9 ≠ g10 := fun e => h.apart 6 7 9 10 g9 (by decide) rfl rfl (hall 6 (of_decide_eq_true (by kernel_rfl))) (hall 7 (of_decide_eq_true (by kernel_rfl))) q9 (e ▸ q10)
    have ha := act_of [(28, v28), (29, v29), (30, v30), (31, v31), (32, v32), (33, v33), (9, .pointer (some ⟨g9, 0, none⟩)), (10, .pointer (some ⟨g10, 0, none⟩))] h.defers h.size (List.forall_mem_cons.2 ⟨q28, List.forall_mem_cons.2 ⟨q29, List.forall_mem_cons.2 ⟨q30, List.forall_mem_cons.2 ⟨q31, List.forall_mem_cons.2 ⟨q32, List.forall_mem_cons.2 ⟨q33, List.forall_mem_cons.2 ⟨q9, List.forall_mem_cons.2 ⟨q10, fun _ h => by cases h⟩⟩⟩⟩⟩⟩⟩⟩) (fun t ht => h.same t (fun hm => ht (in_dst (F := [28, 29, 30, 31, 32, 33, 9, 10]) (by kernel_rfl) hm)))
    rw [ha]
    exact hQ w _ _ _ _ _ _ _ _ _ _ _ _ _ _ _ _ h.below ⟨B9, F9⟩ ⟨B10, F10⟩ d9_10 l9 l10
end Go.Proofs.YtocooajlfpngdaaGreatDoor
