/- A region that draws its order, boxes of four cells: as InvF; a slot that the region writes may be read ahead of the write. · Contracts of the reference of frac: Add, Sub. · The operations of both sides at fractions in range. -/
import Derived.Test.YtocooajlfpngdaaGreatDoorB45
import Derived.Deep.LoopGhost
namespace Go.Proofs.YtocooajlfpngdaaGreatDoor
open Go.RowKit
set_option linter.unusedVariables false

/-- the state of such a region -/
structure StI5 (ops : Array Oper) (ty : TypeId) (cl : List Cls4) (a0 : Act) (w0 : World) (l : Array Bool) (a : Act) (w : World) : Prop where
  len : l.size = cl.length
  defers : a.defers = a0.defers
  size : a.tmps.size = a0.tmps.size
  same : ∀ t, some t ∉ cl.map Cls4.dst → a.tmps[t]? = a0.tmps[t]?
  below : Below w0.heap.size w0 w
  fact : ∀ k c, cl[k]? = some c → l.getD k false = true → Fact4 ty w0 a w c
  pend : ∀ (k : Nat) (c : Cls4) (d : Tmp), cl[k]? = some c → c.dst = some d → l.getD k false = false → a.tmps[d]? = a0.tmps[d]?
  clo : ∀ (k : Nat) (o : Oper), ops[k]? = some o → l.getD k false = true → ∀ e ∈ o.after, Region.binds .any e = true → l.getD e.on false = true
  apart : ∀ (k k' : Nat) (s s' : Tmp) (g : Nat), k ≠ k' → cl[k]? = some (.new s) → cl[k']? = some (.new s') → l.getD k false = true → l.getD k' false = true → a.tmps[s]? = some (.pointer (some ⟨g, 0, none⟩)) → a.tmps[s']? = some (.pointer (some ⟨g, 0, none⟩)) → False
/-- what is owed for one operation -/
def Owed5 (P : Program) (ops : Array Oper) (Q : Exit → Act → World → Prop) (ty : TypeId) (cl : List Cls4) (a0 : Act) (w0 : World) (k : Nat) : Cls4 → Prop
  | .val d F => ∀ (l : Array Bool) (a : Act) (w : World), StI5 ops ty cl a0 w0 l a w → l.getD k false = false → (∀ o, ops[k]? = some o → ∀ e ∈ o.after, Region.binds .any e = true → l.getD e.on false = true) → ∀ K : Act → World → Prop, (∀ v w', F v w' → Below w.heap.size w w' → K (a.put (some d) v) w') → wpOp P ops Q k K a w
  | .new d => ∀ (a : Act) (w : World) (K : Act → World → Prop), K (a.put (some d) (.pointer (some ⟨w.heap.size, 0, none⟩))) (w.alloc (.cells #[.bool false, .slice none 0 0, .bool false, .slice none 0 0] ty)) → wpOp P ops Q k K a w
  | .put s F => (∃ k' : Nat, cl[k']? = some (.new s)) ∧ ∀ (l : Array Bool) (a : Act) (w : World), StI5 ops ty cl a0 w0 l a w → l.getD k false = false → (∀ o, ops[k]? = some o → ∀ e ∈ o.after, Region.binds .any e = true → l.getD e.on false = true) →
      ∃ g e A n c e' A' n' c' e0 A0 n0 c0 e1 A1 n1 c1, a.tmps[s]? = some (.pointer (some ⟨g, 0, none⟩)) ∧ w0.heap.size ≤ g ∧ Blk4 w g ty (.bool e0) (.slice A0 n0 c0) (.bool e1) (.slice A1 n1 c1) ∧ F (.agg #[.bool e, .slice A n c, .bool e', .slice A' n' c']) w ∧
        ∀ K : Act → World → Prop, K a (set4 w g (.bool e) (.slice A n c) (.bool e') (.slice A' n' c')) → wpOp P ops Q k K a w
theorem getD_set_false {l : Array Bool} {i j : Nat} (h : (l.setIfInBounds i true).getD j false = false) : l.getD j false = false := by
  by_cases e : j = i
  · subst e
    by_cases hs : j < l.size
    · simp [Array.getD, hs] at h
    · simp [Array.getD, hs]
  · simp only [Array.getD_eq_getD_getElem?] at h ⊢
    rwa [Array.getElem?_setIfInBounds_ne (Ne.symm e)] at h
theorem wp_region_boxes5 {P : Program} {id : Nat} {ops : Array Oper} {Q : Exit → Act → World → Prop} {ty : TypeId} {cl : List Cls4} {a0 : Act} {w0 : World} (hm : P.follows .mixedOrders = true)
    (hsz : ops.size = cl.length) (hfit : ∀ c ∈ cl, ∀ d, c.dst = some d → d < a0.tmps.size) (hdst : ∀ (k k' : Nat) (c c' : Cls4) (d : Tmp), cl[k]? = some c → cl[k']? = some c' → c.dst = some d → c'.dst = some d → k = k')
    (hbox : ∀ (k k' : Nat) (c c' : Cls4) (s : Tmp), cl[k]? = some c → cl[k']? = some c' → c.box = some s → c'.box = some s → k = k')
    (hput : ∀ (k k' : Nat) (c c' : Cls4) (s : Tmp), cl[k]? = some c → cl[k']? = some c' → c.box = some s → c'.dst = some s → ∃ o, ops[k]? = some o ∧ ∃ e ∈ o.after, e.on = k' ∧ Region.binds .any e = true)
    (hback : ∀ (k : Nat) (o : Oper), ops[k]? = some o → ∀ e ∈ o.after, Region.binds .any e = true → e.on < k)
    (hstb : ∀ c ∈ cl, c.stb ty) (howed : ∀ k c, cl[k]? = some c → Owed5 P ops Q ty cl a0 w0 k c)
    (hQ : ∀ (l : Array Bool) (a : Act) (w : World), StI5 ops ty cl a0 w0 l a w → (∀ k < cl.length, l.getD k false = true) → Q .normal a w) : (Code.region id ops true).wp P Q a0 w0 := by
  refine wp_region_any hm (wpAny_inv (I := fun l a w => StI5 ops ty cl a0 w0 l a w ∧ ∀ k k' c c' s, cl[k]? = some c → cl[k']? = some c' → c.box = some s → c'.dst = some s → l.getD k false = true → l.getD k' false = true) ?_ ?_ ops.size _ _ _ ⟨?_, ?_⟩ ?_)
  · rintro l a w i ⟨h, hbd⟩ hi
    obtain ⟨h0, o, ho, hdep⟩ := mem_ready.1 hi
    have hil : i < cl.length := hsz ▸ (Array.getElem?_eq_some_iff.1 ho).1
    obtain ⟨c, hc⟩ : ∃ c, cl[i]? = some c := ⟨cl[i], List.getElem?_eq_getElem hil⟩
    have hl0 : ∀ {k : Nat}, l.getD k false = true → k ≠ i := by
      rintro k hk rfl
      have h2 : k < l.size := by rw [h.len]; exact hil
      simp [Array.getD, h2] at hk h0
      rw [h0] at hk
      cases hk
    have hli : (l.setIfInBounds i true).getD i false = true := by
      have h2 : i < l.size := by rw [h.len]; exact hil
      simp [Array.getD, h2]
    have hbd' : ∀ k k' c c' s, cl[k]? = some c → cl[k']? = some c' → c.box = some s → c'.dst = some s → (l.setIfInBounds i true).getD k false = true → (l.setIfInBounds i true).getD k' false = true := by
      intro k k' c c' s h1 h2 h3 h4 h5
      have keep : l.getD k' false = true → (l.setIfInBounds i true).getD k' false = true := fun h6 => by
        by_cases e : k' = i
        · rw [e]; exact hli
        · simp only [Array.getD_eq_getD_getElem?] at h6 ⊢
          rwa [Array.getElem?_setIfInBounds_ne (Ne.symm e)]
      rcases getD_set_true h5 with rfl | h6
      · obtain ⟨o', ho', e, he, hk, hb⟩ := hput k k' c c' s h1 h2 h3 h4
        have h7 : o' = o := by rw [ho] at ho'; exact (Option.some.inj ho').symm
        subst h7
        exact keep (hk ▸ hdep e he hb)
      · exact keep (hbd k k' c c' s h1 h2 h3 h4 h6)
    have how := howed i c hc
    have hi0 : l.getD i false = false := by
      have h2 : i < l.size := by rw [h.len]; exact hil
      simp [Array.getD, h2] at h0 ⊢
      exact h0
    have keep' : ∀ k', l.getD k' false = true → (l.setIfInBounds i true).getD k' false = true := fun k' h6 => by
      by_cases e : k' = i
      · rw [e]; exact hli
      · simp only [Array.getD_eq_getD_getElem?] at h6 ⊢
        rwa [Array.getElem?_setIfInBounds_ne (Ne.symm e)]
    have hclo : ∀ (k : Nat) (o : Oper), ops[k]? = some o → (l.setIfInBounds i true).getD k false = true → ∀ e ∈ o.after, Region.binds .any e = true → (l.setIfInBounds i true).getD e.on false = true := by
      intro k o' ho' hk e he hb
      rcases getD_set_true hk with rfl | h6
      · have h7 : o' = o := by rw [ho] at ho'; exact (Option.some.inj ho').symm
        subst h7
        exact keep' _ (hdep e he hb)
      · exact keep' _ (h.clo k o' ho' h6 e he hb)
    have hpd : ∀ (d : Tmp) (v : Value), c.dst = some d → ∀ (k : Nat) (c' : Cls4) (d' : Tmp), cl[k]? = some c' → c'.dst = some d' → (l.setIfInBounds i true).getD k false = false → (a.put (some d) v).tmps[d']? = a0.tmps[d']? := by
      intro d v hcd k c' d' hk hd hl
      have q1 : k ≠ i := fun e => by rw [e, hli] at hl; cases hl
      have d1 : d ≠ d' := fun e => q1 (hdst k i _ _ d' hk hc hd (e ▸ hcd))
      rw [put_get, if_neg (fun x => d1 x.1), if_neg d1]
      exact h.pend k c' d' hk hd (getD_set_false hl)
    have hdep' : ∀ o', ops[i]? = some o' → ∀ e ∈ o'.after, Region.binds .any e = true → l.getD e.on false = true := fun o' ho' => by
      have h7 : o' = o := by rw [ho] at ho'; exact (Option.some.inj ho').symm
      subst h7
      exact hdep
    cases c with
    | val d F =>
      refine how l a w h hi0 hdep' _ fun v w' hF hb => ⟨⟨by rw [Array.size_setIfInBounds]; exact h.len, h.defers, ?_, ?_, bstep h.below hb, ?_, hpd d v rfl, hclo, ?_⟩, hbd'⟩
      · show (a.tmps.setIfInBounds d v).size = _
        rw [Array.size_setIfInBounds]
        exact h.size
      · intro t ht
        have h1 : d ≠ t := fun e => ht (e ▸ mem_dst4 hc rfl)
        rw [put_get, if_neg (fun x => h1 x.1), if_neg h1]
        exact h.same t ht
      · intro k c' hk hl
        rcases getD_set_true hl with rfl | h6
        · rw [hc] at hk
          cases hk
          refine ⟨v, ?_, hF⟩
          rw [put_get, if_pos ⟨rfl, by rw [h.size]; exact hfit _ (List.mem_of_getElem? hc) d rfl⟩]
        · refine (h.fact k c' hk h6).put (hstb _ (List.mem_of_getElem? hk)) hb (fun e => ?_) (fun e => ?_)
          · exact hl0 h6 (hdst k i c' _ d hk hc e rfl)
          · exact hl0 (hbd k i c' _ d hk hc e rfl h6) rfl
      · intro k k' s s' g hne hk hk' hl hl' e1 e2
        have q1 : k ≠ i := fun e => by subst e; rw [hc] at hk; cases hk
        have q2 : k' ≠ i := fun e => by subst e; rw [hc] at hk'; cases hk'
        have d1 : d ≠ s := fun e => q1 (hdst k i _ _ d hk hc (by rw [e]; rfl) rfl)
        have d2 : d ≠ s' := fun e => q2 (hdst k' i _ _ d hk' hc (by rw [e]; rfl) rfl)
        rw [put_get, if_neg (fun x => d1 x.1), if_neg d1] at e1
        rw [put_get, if_neg (fun x => d2 x.1), if_neg d2] at e2
        exact h.apart k k' s s' g hne hk hk' ((getD_set_true hl).resolve_left q1) ((getD_set_true hl').resolve_left q2) e1 e2
    | new d =>
      have hb := al_below w (.cells #[.bool false, .slice none 0 0, .bool false, .slice none 0 0] ty)
      refine how a w _ ⟨⟨by rw [Array.size_setIfInBounds]; exact h.len, h.defers, ?_, ?_, bal h.below _, ?_, hpd d _ rfl, hclo, ?_⟩, hbd'⟩
      · show (a.tmps.setIfInBounds d _).size = _
        rw [Array.size_setIfInBounds]
        exact h.size
      · intro t ht
        have h1 : d ≠ t := fun e => ht (e ▸ mem_dst4 hc rfl)
        rw [put_get, if_neg (fun x => h1 x.1), if_neg h1]
        exact h.same t ht
      · intro k c' hk hl
        rcases getD_set_true hl with rfl | h6
        · rw [hc] at hk
          cases hk
          refine ⟨w.heap.size, ?_, h.below.size, _, _, _, _, _, _, _, _, Blk4.new _ _ _ _ _ _⟩
          rw [put_get, if_pos ⟨rfl, by rw [h.size]; exact hfit _ (List.mem_of_getElem? hc) d rfl⟩]
        · refine (h.fact k c' hk h6).put (hstb _ (List.mem_of_getElem? hk)) hb (fun e => ?_) (fun e => ?_)
          · exact hl0 h6 (hdst k i c' _ d hk hc e rfl)
          · exact hl0 (hbd k i c' _ d hk hc e rfl h6) rfl
      · intro k k' s s' g hne hk hk' hl hl' e1 e2
        have hds : d < a.tmps.size := by rw [h.size]; exact hfit _ (List.mem_of_getElem? hc) d rfl
        by_cases q1 : k = i
        · subst q1
          rw [hc] at hk
          cases hk
          have q2 : k' ≠ k := fun e => hne e.symm
          have d2 : d ≠ s' := fun e => q2 (hdst k' k _ _ d hk' hc (by rw [e]; rfl) rfl)
          rw [put_get, if_pos ⟨rfl, hds⟩] at e1
          rw [put_get, if_neg (fun x => d2 x.1), if_neg d2] at e2
          have h3 := fact_lt4 (h.fact k' _ hk' ((getD_set_true hl').resolve_left q2)) e2
          cases e1
          exact absurd h3 (Nat.lt_irrefl _)
        · have d1 : d ≠ s := fun e => q1 (hdst k i _ _ d hk hc (by rw [e]; rfl) rfl)
          rw [put_get, if_neg (fun x => d1 x.1), if_neg d1] at e1
          have f1 := (getD_set_true hl).resolve_left q1
          by_cases q2 : k' = i
          · subst q2
            rw [hc] at hk'
            cases hk'
            rw [put_get, if_pos ⟨rfl, hds⟩] at e2
            have h3 := fact_lt4 (h.fact k _ hk f1) e1
            cases e2
            exact absurd h3 (Nat.lt_irrefl _)
          · have d2 : d ≠ s' := fun e => q2 (hdst k' i _ _ d hk' hc (by rw [e]; rfl) rfl)
            rw [put_get, if_neg (fun x => d2 x.1), if_neg d2] at e2
            exact h.apart k k' s s' g hne hk hk' f1 ((getD_set_true hl').resolve_left q2) e1 e2
    | put s F =>
      obtain ⟨⟨kn, hkn⟩, hrun⟩ := how
      obtain ⟨g, e, A, n, c, e2, A2, n2, c2, e0, A0, n0, c0, e1, A1, n1, c1, hg, hlt, hB, hF, hgo⟩ := hrun l a w h hi0 hdep'
      have ln : l.getD kn false = true := by
        obtain ⟨o', ho', e, he, hk, hb⟩ := hput i kn _ _ s hc hkn rfl rfl
        exact hk ▸ hdep' o' ho' e he hb
      refine hgo _ ⟨⟨by rw [Array.size_setIfInBounds]; exact h.len, h.defers, h.size, h.same, set4_below h.below hlt _ _ _ _, ?_, fun k c' d' hk hd hl => h.pend k c' d' hk hd (getD_set_false hl), hclo, ?_⟩, hbd'⟩
      · intro k c' hk hl
        rcases getD_set_true hl with rfl | h6
        · rw [hc] at hk
          cases hk
          exact ⟨g, hg, hlt, e, A, n, c, e2, A2, n2, c2, set4_blk hB _ _ _ _, (hstb _ (List.mem_of_getElem? hc)).2 _ _ _ _ _ _ _ _ _ _ _ _ _ _ _ hF hB⟩
        · have hst := hstb _ (List.mem_of_getElem? hk)
          have hf := h.fact k c' hk h6
          cases c' with
          | val e' F' =>
            obtain ⟨u, hu, hF'⟩ := hf
            exact ⟨u, hu, hst.2 _ _ _ _ _ _ _ _ _ _ _ _ _ _ _ hF' hB⟩
          | new e' =>
            obtain ⟨g', hg', h3, x, A', n', c', x3, A3, n3, c3, h4⟩ := hf
            by_cases hgg : g' = g
            · subst hgg
              exact ⟨g', hg', h3, _, _, _, _, _, _, _, _, set4_blk hB _ _ _ _⟩
            · exact ⟨g', hg', h3, x, A', n', c', x3, A3, n3, c3, (set4_heap _ _ _ _ _ _ _ hgg).trans h4⟩
          | put s' F' =>
            obtain ⟨g', hg', h3, x, A', n', c', x3, A3, n3, c3, h4, h5⟩ := hf
            have hss : s ≠ s' := fun x => hl0 h6 (hbox k i _ _ s hk hc (by rw [x]; rfl) rfl)
            have hgg : g' ≠ g := by
              rintro rfl
              -- both boxes are new
              obtain ⟨⟨kn', hkn'⟩, _⟩ := howed k _ hk
              have ln' := hbd k kn' _ _ s' hk hkn' rfl rfl h6
              exact h.apart kn kn' s s' g' (fun x => by subst x; rw [hkn] at hkn'; cases hkn'; exact hss rfl) hkn hkn' ln ln' hg hg'
            exact ⟨g', hg', h3, x, A', n', c', x3, A3, n3, c3, (set4_heap _ _ _ _ _ _ _ hgg).trans h4, hst.2 _ _ _ _ _ _ _ _ _ _ _ _ _ _ _ h5 hB⟩
      · intro k k' s1 s2 g' hne hk hk' hl hl' e1 e2
        have q1 : k ≠ i := fun e => by subst e; rw [hc] at hk; cases hk
        have q2 : k' ≠ i := fun e => by subst e; rw [hc] at hk'; cases hk'
        exact h.apart k k' s1 s2 g' hne hk hk' ((getD_set_true hl).resolve_left q1) ((getD_set_true hl').resolve_left q2) e1 e2
  · rintro l a w ⟨h, _⟩ hr
    refine hQ l a w h ?_
    intro k
    induction k using Nat.strongRecOn with
    | _ k ih =>
      intro hk
      by_cases e : l.getD k false = true
      · exact e
      · exfalso
        have hko : k < ops.size := hsz ▸ hk
        have hkl : k < l.size := by rw [h.len]; exact hk
        have : k ∈ Region.ready .any ops l := by
          refine mem_ready.2 ⟨?_, ops[k], Array.getElem?_eq_getElem hko, fun e' he hb => ?_⟩
          · simp [Array.getD, hkl] at e ⊢
            exact e
          · have := hback k _ (Array.getElem?_eq_getElem hko) e' he hb
            exact ih _ this (by omega)
        rw [hr] at this
        cases this
  · refine ⟨by simp [hsz], rfl, rfl, fun _ _ => rfl, ?_, ?_, fun _ _ _ _ _ _ => rfl, fun k o _ hl => by simp [Array.getD] at hl, ?_⟩
    · exact below_drew (Below.refl _ _)
    · intro k c hk hl
      exfalso
      simp [Array.getD] at hl
    · intro k k' s s' g _ _ _ hl
      simp [Array.getD] at hl
  · intro k k' c c' s _ _ _ _ hl
    simp [Array.getD] at hl
  · simp
def OwedAll5 (P : Program) (ops : Array Oper) (Q : Exit → Act → World → Prop) (ty : TypeId) (cl : List Cls4) (a0 : Act) (w0 : World) : Nat → List Cls4 → Prop
  | _, [] => True
  | k, c :: r => Owed5 P ops Q ty cl a0 w0 k c ∧ OwedAll5 P ops Q ty cl a0 w0 (k + 1) r
theorem OwedAll5.get {P : Program} {ops : Array Oper} {Q : Exit → Act → World → Prop} {ty : TypeId} {cl : List Cls4} {a0 : Act} {w0 : World} : ∀ {L : List Cls4} {j : Nat}, OwedAll5 P ops Q ty cl a0 w0 j L → ∀ k c, L[k]? = some c → Owed5 P ops Q ty cl a0 w0 (j + k) c
  | [], _, _, k, c, h => by simp at h
  | x :: r, j, h, k, c, hc => by
    cases k with
    | zero =>
      simp at hc
      subst hc
      exact h.1
    | succ k =>
      have := OwedAll5.get h.2 k c (by simpa using hc)
      rwa [show j + 1 + k = j + (k + 1) by omega] at this
theorem wp_region_boxes5' {P : Program} {id : Nat} {ops : Array Oper} {Q : Exit → Act → World → Prop} {ty : TypeId} {cl : List Cls4} {a0 : Act} {w0 : World} (N : Nat) (hm : P.follows .mixedOrders = true)
    (hN : a0.tmps.size = N) (hok : okB ops (cl.map Cls4.dst) (cl.map Cls4.box) N = true) (hstb : StbAll4 ty cl) (howed : OwedAll5 P ops Q ty cl a0 w0 0 cl)
    (hQ : ∀ (l : Array Bool) (a : Act) (w : World), StI5 ops ty cl a0 w0 l a w → (∀ k < cl.length, l.getD k false = true) → Q .normal a w) : (Code.region id ops true).wp P Q a0 w0 := by
  unfold okB at hok
  simp only [Bool.and_eq_true, List.length_map] at hok
  obtain ⟨⟨⟨⟨⟨⟨h1, h2⟩, h3⟩, h4⟩, h5⟩, h6⟩, h7⟩ := hok
  have len : ∀ {k : Nat} {c : Cls4}, cl[k]? = some c → k ∈ List.range cl.length := fun h => List.mem_range.2 (List.getElem?_eq_some_iff.1 h).1
  refine wp_region_boxes5 hm (by simpa using h1) ?_ ?_ ?_ ?_ ?_ hstb.get (fun k c hc => ?_) hQ
  · intro c hc d hd
    have := List.all_eq_true.1 h3 _ (List.mem_map_of_mem hc)
    rw [hd] at this
    rw [hN]
    simpa using this
  · intro k k' c c' d hc hc' hd hd'
    have := List.all_eq_true.1 (List.all_eq_true.1 h4 k (len hc)) k' (len hc')
    rw [join_map4 hc, join_map4 hc', hd, hd'] at this
    simpa using this
  · intro k k' c c' d hc hc' hd hd'
    have := List.all_eq_true.1 (List.all_eq_true.1 h5 k (len hc)) k' (len hc')
    rw [join_map4 hc, join_map4 hc', hd, hd'] at this
    simpa using this
  · intro k k' c c' d hc hc' hd hd'
    have := List.all_eq_true.1 (List.all_eq_true.1 h6 k (len hc)) k' (len hc')
    rw [join_map4 hc, join_map4 hc', hd, hd'] at this
    cases ho : ops[k]? with
    | none => rw [ho] at this; simp at this
    | some o =>
      rw [ho] at this
      have h8 : o.after.any (fun e => e.on == k' && Region.binds .any e) = true := by simpa using this
      obtain ⟨i, hi, he⟩ := Array.any_eq_true.1 h8
      have he' : o.after[i].on = k' ∧ Region.binds .any o.after[i] = true := by simpa using he
      exact ⟨o, rfl, o.after[i], Array.getElem_mem hi, he'⟩
  · intro k o ho e he hbd
    have hk : k ∈ List.range cl.length := by
      have h9 := (Array.getElem?_eq_some_iff.1 ho).1
      have h10 : ops.size = cl.length := by simpa using h1
      exact List.mem_range.2 (h10 ▸ h9)
    have := List.all_eq_true.1 h7 k hk
    rw [ho] at this
    have h8 : o.after.all (fun e => !Region.binds .any e || decide (e.on < k)) = true := by simpa using this
    have h9 := Array.all_eq_true_iff_forall_mem.1 h8 e he
    rw [hbd] at h9
    simpa using h9
  · have := howed.get k c hc
    rwa [Nat.zero_add] at this
/-- a slot that the operation j writes, read by the operation k ahead of it -/
theorem StI5.old {ops : Array Oper} {ty : TypeId} {cl : List Cls4} {a0 : Act} {w0 : World} {l : Array Bool} {a : Act} {w : World} {k j : Nat} {d : Tmp} (h : StI5 ops ty cl a0 w0 l a w) (h0 : l.getD k false = false) (hd : (cl[j]?.bind Cls4.dst) = some d)
    (hj : ops[j]?.any (fun o => o.after.any (fun e => e.on == k && Region.binds .any e)) = true) : a.tmps[d]? = a0.tmps[d]? := by
  cases hc : cl[j]? with
  | none => rw [hc] at hd; cases hd
  | some c =>
    rw [hc] at hd
    refine h.pend j c d hc hd ?_
    cases hl : l.getD j false with
    | false => rfl
    | true =>
      exfalso
      cases ho : ops[j]? with
      | none => rw [ho] at hj; cases hj
      | some o =>
        rw [ho] at hj
        obtain ⟨i, hi, he⟩ := Array.any_eq_true.1 (show o.after.any (fun e => e.on == k && Region.binds .any e) = true by simpa using hj)
        have he' : o.after[i].on = k ∧ Region.binds .any o.after[i] = true := by simpa using he
        have := h.clo j o ho hl _ (Array.getElem_mem hi) he'.2
        rw [he'.1, h0] at this
        cases this
end Go.Proofs.YtocooajlfpngdaaGreatDoor
namespace Go.Proofs.YtocooajlfpngdaaGreatDoor
open Go.RowKit
set_option linter.unusedVariables false

def gadd_r4_ops : Array Oper := #[
  { dst := some 33, op := .fieldAddr 42 (.tmp 2) 0, type := 0, pos := "ref.go:51", after := #[], guard := none },
  { dst := some 34, op := .load 24 (.tmp 33), type := 24, pos := "ref.go:51", after := #[⟨0, .data⟩], guard := none },
  { dst := some 35, op := .load 24 (.tmp 7), type := 24, pos := "ref.go:51", after := #[], guard := none },
  { dst := some 36, op := .call { callee := .value (.func 13), args := #[.tmp 34, .tmp 35], argTypes := #[24, 24] }, type := 24, pos := "ref.go:51", after := #[⟨1, .data⟩, ⟨2, .data⟩], guard := none },
  { dst := some 37, op := .fieldAddr 42 (.tmp 3) 0, type := 0, pos := "ref.go:51", after := #[], guard := none },
  { dst := some 38, op := .load 24 (.tmp 37), type := 24, pos := "ref.go:51", after := #[⟨4, .data⟩], guard := none },
  { dst := some 39, op := .load 24 (.tmp 9), type := 24, pos := "ref.go:51", after := #[], guard := none },
  { dst := some 40, op := .call { callee := .value (.func 13), args := #[.tmp 38, .tmp 39], argTypes := #[24, 24] }, type := 24, pos := "ref.go:51", after := #[⟨5, .data⟩, ⟨6, .data⟩, ⟨3, .chain⟩], guard := none },
  { dst := some 41, op := .load 24 (.tmp 9), type := 24, pos := "ref.go:51", after := #[], guard := none },
  { dst := some 42, op := .fieldAddr 42 (.tmp 3) 1, type := 0, pos := "ref.go:51", after := #[], guard := none },
  { dst := some 43, op := .load 24 (.tmp 42), type := 24, pos := "ref.go:51", after := #[⟨9, .data⟩], guard := none },
  { dst := some 44, op := .call { callee := .value (.func 13), args := #[.tmp 41, .tmp 43], argTypes := #[24, 24] }, type := 24, pos := "ref.go:51", after := #[⟨8, .data⟩, ⟨10, .data⟩, ⟨7, .chain⟩], guard := none },
  { dst := some 45, op := .buildSlice 30 3 #[(0, .tmp 36), (1, .tmp 40), (2, .tmp 44)], type := 30, pos := "ref.go:51", after := #[⟨3, .data⟩, ⟨7, .data⟩, ⟨11, .data⟩], guard := none },
  { dst := some 11, op := .assign (.tmp 45), type := 30, pos := "ref.go:51", after := #[⟨12, .data⟩, ⟨11, .chain⟩, ⟨0, .phase⟩, ⟨1, .phase⟩, ⟨2, .phase⟩, ⟨3, .phase⟩, ⟨4, .phase⟩, ⟨5, .phase⟩, ⟨6, .phase⟩, ⟨7, .phase⟩, ⟨8, .phase⟩, ⟨9, .phase⟩, ⟨10, .phase⟩, ⟨11, .phase⟩, ⟨12, .phase⟩], guard := none }]
set_option maxRecDepth 100000 in
set_option maxHeartbeats 2000000 in
theorem gadd_r4 {Q : Exit → Act → World → Prop} {a0 : Act} {w0 : World} {a b : Rat} {s q : Int} {p2 : Nat} {d2 : Bool} {A2 : Option Addr} {n2 c2 : Nat} {e2 : Bool} {E2 : Option Addr} {m2 f2 : Nat} {p3 : Nat} {d3 : Bool} {A3 : Option Addr} {n3 c3 : Nat} {e3 : Bool} {E3 : Option Addr} {m3 f3 : Nat} {p7 : Nat} {d7 : Bool} {A7 : Option Addr} {n7 c7 : Nat} {p9 : Nat} {d9 : Bool} {A9 : Option Addr} {n9 c9 : Nat} (hN : a0.tmps.size = 77) (t2 : a0.tmps[2]? = some (.pointer (some ⟨p2, 0, none⟩))) (H2 : HoldG w0 p2 a d2 A2 n2 c2 e2 E2 m2 f2) (t3 : a0.tmps[3]? = some (.pointer (some ⟨p3, 0, none⟩))) (H3 : HoldG w0 p3 b d3 A3 n3 c3 e3 E3 m3 f3) (t7 : a0.tmps[7]? = some (.pointer (some ⟨p7, 0, none⟩))) (H7 : HoldN w0 p7 s d7 A7 n7 c7) (t9 : a0.tmps[9]? = some (.pointer (some ⟨p9, 0, none⟩))) (H9 : HoldN w0 p9 q d9 A9 n9 c9) (ia : InF a) (ib : InF b) (ls : InL s) (lq : InL q)
    (hQ : ∀ (w : World) (v33 v34 v35 v36 v37 v38 v39 v40 v41 v42 v43 v44 v45 v11 : Value) , Below w0.heap.size w0 w → (IsRowN ([a.num * s, b.num * q, q * (b.den : Int)]) 3) v11 w → Q .normal ⟨([(33, v33), (34, v34), (35, v35), (36, v36), (37, v37), (38, v38), (39, v39), (40, v40), (41, v41), (42, v42), (43, v43), (44, v44), (45, v45), (11, v11)] : List (Nat × Value)).foldl (fun ts p => ts.setIfInBounds p.1 p.2) a0.tmps, a0.defers⟩ w) :
    (Code.region 4 gadd_r4_ops true).wp Tryz.prog Q a0 w0 := by
  refine wp_region_boxes4' (ty := 0) (cl := [.val 33 (Is (.pointer (some ⟨p2, 0, none⟩))), .val 34 (IsN (a.num)), .val 35 (IsN (s)), .val 36 (IsN (a.num * s)), .val 37 (Is (.pointer (some ⟨p3, 0, none⟩))), .val 38 (IsN (b.num)), .val 39 (IsN (q)), .val 40 (IsN (b.num * q)), .val 41 (IsN (q)), .val 42 (Is (.pointer (some ⟨p3, 2, none⟩))), .val 43 (IsN ((b.den : Int))), .val 44 (IsN (q * (b.den : Int))), .val 45 (IsRowN ([a.num * s, b.num * q, q * (b.den : Int)]) 3), .val 11 (IsRowN ([a.num * s, b.num * q, q * (b.den : Int)]) 3)]) 77 (by kernel_rfl) hN (by kernel_rfl) ?_ ?_ ?_
  · exact ⟨Is.stb4 _ _, IsN.stb4 _ _, IsN.stb4 _ _, IsN.stb4 _ _, Is.stb4 _ _, IsN.stb4 _ _, IsN.stb4 _ _, IsN.stb4 _ _, IsN.stb4 _ _, Is.stb4 _ _, IsN.stb4 _ _, IsN.stb4 _ _, IsRowN.stb4 _ _ _, IsRowN.stb4 _ _ _, trivial⟩
  · refine ⟨?_, ?_, ?_, ?_, ?_, ?_, ?_, ?_, ?_, ?_, ?_, ?_, ?_, ?_, trivial⟩
    · intro l ac w h hd K hK
      exact o_fieldG0 rfl GdOk.none (ev_t ((h.same 2 (not_dst (by kernel_rfl))).trans t2)) (hK _ _ rfl (Below.refl _ _))
    · intro l ac w h hd K hK
      obtain ⟨v0, hv0, rfl⟩ := h.fact 0 _ rfl (dep hd 0 (by kernel_rfl))
      exact o_loadN rfl GdOk.none (ev_t hv0) (H2.below h.below).c0 (H2.below h.below).c1 (hK _ _ (H2.below h.below).2.num (Below.refl _ _))
    · intro l ac w h hd K hK
      exact o_loadN rfl GdOk.none (ev_t ((h.same 7 (not_dst (by kernel_rfl))).trans t7)) (H7.below h.below).c0 (H7.below h.below).c1 (hK _ _ (H7.below h.below).2 (Below.refl _ _))
    · intro l ac w h hd K hK
      obtain ⟨v1, hv1, hF1⟩ := h.fact 1 _ rfl (dep hd 1 (by kernel_rfl))
      obtain ⟨v2, hv2, hF2⟩ := h.fact 2 _ rfl (dep hd 2 (by kernel_rfl))
      exact o_call2 rfl GdOk.none (ev_t hv1) (ev_t hv2) (enters_of Tryz.func13 (by kernel_rfl) rfl) ((mul_any _ _ _ _ _ hF1 hF2 ((fit_bits ia.1).mono (by omega)) ((fit_bits ls).mono (by omega))).mono fun e w' ⟨v, he, h1, h2⟩ => ⟨_, he, hK _ _ h1 h2⟩)
    · intro l ac w h hd K hK
      exact o_fieldG0 rfl GdOk.none (ev_t ((h.same 3 (not_dst (by kernel_rfl))).trans t3)) (hK _ _ rfl (Below.refl _ _))
    · intro l ac w h hd K hK
      obtain ⟨v4, hv4, rfl⟩ := h.fact 4 _ rfl (dep hd 4 (by kernel_rfl))
      exact o_loadN rfl GdOk.none (ev_t hv4) (H3.below h.below).c0 (H3.below h.below).c1 (hK _ _ (H3.below h.below).2.num (Below.refl _ _))
    · intro l ac w h hd K hK
      exact o_loadN rfl GdOk.none (ev_t ((h.same 9 (not_dst (by kernel_rfl))).trans t9)) (H9.below h.below).c0 (H9.below h.below).c1 (hK _ _ (H9.below h.below).2 (Below.refl _ _))
    · intro l ac w h hd K hK
      obtain ⟨v5, hv5, hF5⟩ := h.fact 5 _ rfl (dep hd 5 (by kernel_rfl))
      obtain ⟨v6, hv6, hF6⟩ := h.fact 6 _ rfl (dep hd 6 (by kernel_rfl))
      exact o_call2 rfl GdOk.none (ev_t hv5) (ev_t hv6) (enters_of Tryz.func13 (by kernel_rfl) rfl) ((mul_any _ _ _ _ _ hF5 hF6 ((fit_bits ib.1).mono (by omega)) ((fit_bits lq).mono (by omega))).mono fun e w' ⟨v, he, h1, h2⟩ => ⟨_, he, hK _ _ h1 h2⟩)
    · intro l ac w h hd K hK
      exact o_loadN rfl GdOk.none (ev_t ((h.same 9 (not_dst (by kernel_rfl))).trans t9)) (H9.below h.below).c0 (H9.below h.below).c1 (hK _ _ (H9.below h.below).2 (Below.refl _ _))
    · intro l ac w h hd K hK
      exact o_fieldG1 rfl GdOk.none (ev_t ((h.same 3 (not_dst (by kernel_rfl))).trans t3)) (hK _ _ rfl (Below.refl _ _))
    · intro l ac w h hd K hK
      obtain ⟨v9, hv9, rfl⟩ := h.fact 9 _ rfl (dep hd 9 (by kernel_rfl))
      exact o_loadN rfl GdOk.none (ev_t hv9) (H3.below h.below).c2 (H3.below h.below).c3 (hK _ _ (H3.below h.below).2.den (Below.refl _ _))
    · intro l ac w h hd K hK
      obtain ⟨v8, hv8, hF8⟩ := h.fact 8 _ rfl (dep hd 8 (by kernel_rfl))
      obtain ⟨v10, hv10, hF10⟩ := h.fact 10 _ rfl (dep hd 10 (by kernel_rfl))
      exact o_call2 rfl GdOk.none (ev_t hv8) (ev_t hv10) (enters_of Tryz.func13 (by kernel_rfl) rfl) ((mul_any _ _ _ _ _ hF8 hF10 ((fit_bits lq).mono (by omega)) ((fit_bits (den_lim ib)).mono (by omega))).mono fun e w' ⟨v, he, h1, h2⟩ => ⟨_, he, hK _ _ h1 h2⟩)
    · intro l ac w h hd K hK
      obtain ⟨v3, hv3, hF3⟩ := h.fact 3 _ rfl (dep hd 3 (by kernel_rfl))
      obtain ⟨v7, hv7, hF7⟩ := h.fact 7 _ rfl (dep hd 7 (by kernel_rfl))
      obtain ⟨v11, hv11, hF11⟩ := h.fact 11 _ rfl (dep hd 11 (by kernel_rfl))
      obtain ⟨d3, A3, n3, c3, rfl⟩ := RepN.shape' hF3
      obtain ⟨d7, A7, n7, c7, rfl⟩ := RepN.shape' hF7
      obtain ⟨d11, A11, n11, c11, rfl⟩ := RepN.shape' hF11
      exact o_build3N rfl GdOk.none (ev_t hv3) (ev_t hv7) (ev_t hv11) hF3 hF7 hF11 hK
    · intro l ac w h hd K hK
      obtain ⟨v12, hv12, hF12⟩ := h.fact 12 _ rfl (dep hd 12 (by kernel_rfl))
      exact o_assign rfl GdOk.none (ev_t hv12) (hK _ _ hF12 (Below.refl _ _))
  · intro l ac w h hall
    obtain ⟨v33, q33, r33⟩ := h.fact 0 _ rfl (hall 0 (of_decide_eq_true (by kernel_rfl)))
    obtain ⟨v34, q34, r34⟩ := h.fact 1 _ rfl (hall 1 (of_decide_eq_true (by kernel_rfl)))
    obtain ⟨v35, q35, r35⟩ := h.fact 2 _ rfl (hall 2 (of_decide_eq_true (by kernel_rfl)))
    obtain ⟨v36, q36, r36⟩ := h.fact 3 _ rfl (hall 3 (of_decide_eq_true (by kernel_rfl)))
    obtain ⟨v37, q37, r37⟩ := h.fact 4 _ rfl (hall 4 (of_decide_eq_true (by kernel_rfl)))
    obtain ⟨v38, q38, r38⟩ := h.fact 5 _ rfl (hall 5 (of_decide_eq_true (by kernel_rfl)))
    obtain ⟨v39, q39, r39⟩ := h.fact 6 _ rfl (hall 6 (of_decide_eq_true (by kernel_rfl)))
    obtain ⟨v40, q40, r40⟩ := h.fact 7 _ rfl (hall 7 (of_decide_eq_true (by kernel_rfl)))
    obtain ⟨v41, q41, r41⟩ := h.fact 8 _ rfl (hall 8 (of_decide_eq_true (by kernel_rfl)))
    obtain ⟨v42, q42, r42⟩ := h.fact 9 _ rfl (hall 9 (of_decide_eq_true (by kernel_rfl)))
    obtain ⟨v43, q43, r43⟩ := h.fact 10 _ rfl (hall 10 (of_decide_eq_true (by kernel_rfl)))
    obtain ⟨v44, q44, r44⟩ := h.fact 11 _ rfl (hall 11 (of_decide_eq_true (by kernel_rfl)))
    obtain ⟨v45, q45, r45⟩ := h.fact 12 _ rfl (hall 12 (of_decide_eq_true (by kernel_rfl)))
    obtain ⟨v11, q11, r11⟩ := h.fact 13 _ rfl (hall 13 (of_decide_eq_true (by kernel_rfl)))
    have ha := act_of [(33, v33), (34, v34), (35, v35), (36, v36), (37, v37), (38, v38), (39, v39), (40, v40), (41, v41), (42, v42), (43, v43), (44, v44), (45, v45), (11, v11)] h.defers h.size (List.forall_mem_cons.2 ⟨q33, List.forall_mem_cons.2 ⟨q34, List.forall_mem_cons.2 ⟨q35, List.forall_mem_cons.2 ⟨q36, List.forall_mem_cons.2 ⟨q37, List.forall_mem_cons.2 ⟨q38, List.forall_mem_cons.2 ⟨q39, List.forall_mem_cons.2 ⟨q40, List.forall_mem_cons.2 ⟨q41, List.forall_mem_cons.2 ⟨q42, List.forall_mem_cons.2 ⟨q43, List.forall_mem_cons.2 ⟨q44, List.forall_mem_cons.2 ⟨q45, List.forall_mem_cons.2 ⟨q11, fun _ h => by cases h⟩⟩⟩⟩⟩⟩⟩⟩⟩⟩⟩⟩⟩⟩) (fun t ht => h.same t (fun hm => ht (in_dst (F := [33, 34, 35, 36, 37, 38, 39, 40, 41, 42, 43, 44, 45, 11]) (by kernel_rfl) hm)))
    rw [ha]
    exact hQ w _ _ _ _ _ _ _ _ _ _ _ _ _ _ h.below   r11
def gadd_r5_ops : Array Oper := #[
  { dst := some 46, op := .move (.tmp 11), type := 30, pos := "ref.go:52", after := #[], guard := none },
  { dst := some 47, op := .move (.tmp 11), type := 30, pos := "ref.go:52", after := #[], guard := none },
  { dst := some 48, op := .indexAddr 30 (.tmp 47) (.const (.int .i64 0)), type := 0, pos := "ref.go:52", after := #[⟨1, .data⟩], guard := none },
  { dst := some 49, op := .load 24 (.tmp 48), type := 24, pos := "ref.go:52", after := #[⟨2, .data⟩], guard := none },
  { dst := some 50, op := .move (.tmp 11), type := 30, pos := "ref.go:52", after := #[], guard := none },
  { dst := some 51, op := .indexAddr 30 (.tmp 50) (.const (.int .i64 1)), type := 0, pos := "ref.go:52", after := #[⟨4, .data⟩], guard := none },
  { dst := some 52, op := .load 24 (.tmp 51), type := 24, pos := "ref.go:52", after := #[⟨5, .data⟩], guard := none },
  { dst := some 53, op := .call { callee := .value (.func 59), args := #[.tmp 49, .tmp 52], argTypes := #[24, 24] }, type := 24, pos := "ref.go:52", after := #[⟨3, .data⟩, ⟨6, .data⟩], guard := none },
  { dst := some 54, op := .buildSlice 30 1 #[(0, .tmp 53)], type := 30, pos := "ref.go:52", after := #[⟨7, .data⟩], guard := none },
  { dst := some 55, op := .call { callee := .builtin .append, args := #[.tmp 46, .tmp 54], argTypes := #[30, 30] }, type := 30, pos := "ref.go:52", after := #[⟨0, .data⟩, ⟨8, .data⟩, ⟨7, .chain⟩], guard := none },
  { dst := some 11, op := .assign (.tmp 55), type := 30, pos := "ref.go:52", after := #[⟨9, .data⟩, ⟨9, .chain⟩, ⟨0, .phase⟩, ⟨1, .phase⟩, ⟨2, .phase⟩, ⟨3, .phase⟩, ⟨4, .phase⟩, ⟨5, .phase⟩, ⟨6, .phase⟩, ⟨7, .phase⟩, ⟨8, .phase⟩, ⟨9, .phase⟩], guard := none }]
set_option maxRecDepth 100000 in
set_option maxHeartbeats 2000000 in
theorem gadd_r5 {Q : Exit → Act → World → Prop} {a0 : Act} {w0 : World} {z0 z1 z2 : Int} {p11 : Nat} {dE0 : Bool} {AE0 : Option Addr} {nE0 cE0 : Nat} {dE1 : Bool} {AE1 : Option Addr} {nE1 cE1 : Nat} {dE2 : Bool} {AE2 : Option Addr} {nE2 cE2 : Nat} (hN : a0.tmps.size = 77) (t11 : a0.tmps[11]? = some (.slice (some ⟨p11, 0, none⟩) 3 3)) (E0 : HoldE w0 p11 0 z0 dE0 AE0 nE0 cE0) (E1 : HoldE w0 p11 1 z1 dE1 AE1 nE1 cE1) (E2 : HoldE w0 p11 2 z2 dE2 AE2 nE2 cE2) (m0 : Bits 120000 z0) (m1 : Bits 120000 z1)
    (hQ : ∀ (w : World) (v46 v47 v48 v49 v50 v51 v52 v53 v54 v55 v11 : Value) , Below w0.heap.size w0 w → (IsRowA [z0, z1, z2, z0 + z1] 4) v11 w → Q .normal ⟨([(46, v46), (47, v47), (48, v48), (49, v49), (50, v50), (51, v51), (52, v52), (53, v53), (54, v54), (55, v55), (11, v11)] : List (Nat × Value)).foldl (fun ts p => ts.setIfInBounds p.1 p.2) a0.tmps, a0.defers⟩ w) :
    (Code.region 5 gadd_r5_ops true).wp Tryz.prog Q a0 w0 := by
  refine wp_region_boxes5' (ty := 0) (cl := [.val 46 (Is (.slice (some ⟨p11, 0, none⟩) 3 3)), .val 47 (Is (.slice (some ⟨p11, 0, none⟩) 3 3)), .val 48 (Is (.pointer (some ⟨p11, 0 * 2, none⟩))), .val 49 (IsN (z0)), .val 50 (Is (.slice (some ⟨p11, 0, none⟩) 3 3)), .val 51 (Is (.pointer (some ⟨p11, 1 * 2, none⟩))), .val 52 (IsN (z1)), .val 53 (IsN (z0 + z1)), .val 54 (IsRowN ([z0 + z1]) 1), .val 55 (IsRowA [z0, z1, z2, z0 + z1] 4), .val 11 (IsRowA [z0, z1, z2, z0 + z1] 4)]) 77 (by kernel_rfl) hN (by kernel_rfl) ?_ ?_ ?_
  · exact ⟨Is.stb4 _ _, Is.stb4 _ _, Is.stb4 _ _, IsN.stb4 _ _, Is.stb4 _ _, Is.stb4 _ _, IsN.stb4 _ _, IsN.stb4 _ _, IsRowN.stb4 _ _ _, IsRowA.stb4 _ _ _, IsRowA.stb4 _ _ _, trivial⟩
  · refine ⟨?_, ?_, ?_, ?_, ?_, ?_, ?_, ?_, ?_, ?_, ?_, trivial⟩
    · intro l ac w h h0 hd K hK
      exact o_move rfl GdOk.none (ev_t ((h.old (j := 10) (d := 11) h0 rfl (by kernel_rfl)).trans t11)) (hK _ _ rfl (Below.refl _ _))
    · intro l ac w h h0 hd K hK
      exact o_move rfl GdOk.none (ev_t ((h.old (j := 10) (d := 11) h0 rfl (by kernel_rfl)).trans t11)) (hK _ _ rfl (Below.refl _ _))
    · intro l ac w h h0 hd K hK
      obtain ⟨v1, hv1, rfl⟩ := h.fact 1 _ rfl (dep hd 1 (by kernel_rfl))
      exact o_indexN (i := 0) rfl GdOk.none (ev_t hv1) rfl (by omega) (hK _ _ rfl (Below.refl _ _))
    · intro l ac w h h0 hd K hK
      obtain ⟨v2, hv2, rfl⟩ := h.fact 2 _ rfl (dep hd 2 (by kernel_rfl))
      exact o_loadN rfl GdOk.none (ev_t hv2) (E0.below h.below).c0 (E0.below h.below).c1 (hK _ _ (E0.below h.below).rep (Below.refl _ _))
    · intro l ac w h h0 hd K hK
      exact o_move rfl GdOk.none (ev_t ((h.old (j := 10) (d := 11) h0 rfl (by kernel_rfl)).trans t11)) (hK _ _ rfl (Below.refl _ _))
    · intro l ac w h h0 hd K hK
      obtain ⟨v4, hv4, rfl⟩ := h.fact 4 _ rfl (dep hd 4 (by kernel_rfl))
      exact o_indexN (i := 1) rfl GdOk.none (ev_t hv4) rfl (by omega) (hK _ _ rfl (Below.refl _ _))
    · intro l ac w h h0 hd K hK
      obtain ⟨v5, hv5, rfl⟩ := h.fact 5 _ rfl (dep hd 5 (by kernel_rfl))
      exact o_loadN rfl GdOk.none (ev_t hv5) (E1.below h.below).c0 (E1.below h.below).c1 (hK _ _ (E1.below h.below).rep (Below.refl _ _))
    · intro l ac w h h0 hd K hK
      obtain ⟨v3, hv3, hF3⟩ := h.fact 3 _ rfl (dep hd 3 (by kernel_rfl))
      obtain ⟨v6, hv6, hF6⟩ := h.fact 6 _ rfl (dep hd 6 (by kernel_rfl))
      exact o_call2 rfl GdOk.none (ev_t hv3) (ev_t hv6) (enters_of Tryz.func59 (by kernel_rfl) rfl) ((add_any _ _ _ _ _ hF3 hF6 ((m0).mono (by omega)) ((m1).mono (by omega))).mono fun e w' ⟨v, he, h1, h2⟩ => ⟨_, he, hK _ _ h1 h2⟩)
    · intro l ac w h h0 hd K hK
      obtain ⟨v7, hv7, hF7⟩ := h.fact 7 _ rfl (dep hd 7 (by kernel_rfl))
      obtain ⟨d7, A7, n7, c7, rfl⟩ := RepN.shape' hF7
      exact o_build1N rfl GdOk.none (ev_t hv7) hF7 hK
    · intro l ac w h h0 hd K hK
      obtain ⟨v0, hv0, rfl⟩ := h.fact 0 _ rfl (dep hd 0 (by kernel_rfl))
      obtain ⟨v8, hv8, hF8⟩ := h.fact 8 _ rfl (dep hd 8 (by kernel_rfl))
      obtain ⟨gN, csN, tN, rfl, -, -, hR⟩ := hF8
      obtain ⟨dN, AN, nN, cN, HN⟩ := hR.get 0 (show 0 < 1 by omega)
      exact o_app3N rfl GdOk.none (ev_t hv0) (ev_t hv8) (E0.below h.below) (E1.below h.below) (E2.below h.below) HN hK
    · intro l ac w h h0 hd K hK
      obtain ⟨v9, hv9, hF9⟩ := h.fact 9 _ rfl (dep hd 9 (by kernel_rfl))
      exact o_assign rfl GdOk.none (ev_t hv9) (hK _ _ hF9 (Below.refl _ _))
  · intro l ac w h hall
    obtain ⟨v46, q46, r46⟩ := h.fact 0 _ rfl (hall 0 (of_decide_eq_true (by kernel_rfl)))
    obtain ⟨v47, q47, r47⟩ := h.fact 1 _ rfl (hall 1 (of_decide_eq_true (by kernel_rfl)))
    obtain ⟨v48, q48, r48⟩ := h.fact 2 _ rfl (hall 2 (of_decide_eq_true (by kernel_rfl)))
    obtain ⟨v49, q49, r49⟩ := h.fact 3 _ rfl (hall 3 (of_decide_eq_true (by kernel_rfl)))
    obtain ⟨v50, q50, r50⟩ := h.fact 4 _ rfl (hall 4 (of_decide_eq_true (by kernel_rfl)))
    obtain ⟨v51, q51, r51⟩ := h.fact 5 _ rfl (hall 5 (of_decide_eq_true (by kernel_rfl)))
    obtain ⟨v52, q52, r52⟩ := h.fact 6 _ rfl (hall 6 (of_decide_eq_true (by kernel_rfl)))
    obtain ⟨v53, q53, r53⟩ := h.fact 7 _ rfl (hall 7 (of_decide_eq_true (by kernel_rfl)))
    obtain ⟨v54, q54, r54⟩ := h.fact 8 _ rfl (hall 8 (of_decide_eq_true (by kernel_rfl)))
    obtain ⟨v55, q55, r55⟩ := h.fact 9 _ rfl (hall 9 (of_decide_eq_true (by kernel_rfl)))
    obtain ⟨v11, q11, r11⟩ := h.fact 10 _ rfl (hall 10 (of_decide_eq_true (by kernel_rfl)))
    have ha := act_of [(46, v46), (47, v47), (48, v48), (49, v49), (50, v50), (51, v51), (52, v52), (53, v53), (54, v54), (55, v55), (11, v11)] h.defers h.size (List.forall_mem_cons.2 ⟨q46, List.forall_mem_cons.2 ⟨q47, List.forall_mem_cons.2 ⟨q48, List.forall_mem_cons.2 ⟨q49, List.forall_mem_cons.2 ⟨q50, List.forall_mem_cons.2 ⟨q51, List.forall_mem_cons.2 ⟨q52, List.forall_mem_cons.2 ⟨q53, List.forall_mem_cons.2 ⟨q54, List.forall_mem_cons.2 ⟨q55, List.forall_mem_cons.2 ⟨q11, fun _ h => by cases h⟩⟩⟩⟩⟩⟩⟩⟩⟩⟩⟩) (fun t ht => h.same t (fun hm => ht (in_dst (F := [46, 47, 48, 49, 50, 51, 52, 53, 54, 55, 11]) (by kernel_rfl) hm)))
    rw [ha]
    exact hQ w _ _ _ _ _ _ _ _ _ _ _ h.below   r11
theorem all4 {P : Int → Prop} {a b c d : Int} (ha : P a) (hb : P b) (hc : P c) (hd : P d) (i : Nat) (hi : i < 4) : P ([a, b, c, d][i]?.getD 0) := all_four ha hb hc hd i hi
set_option maxRecDepth 100000 in
set_option maxHeartbeats 8000000 in
theorem gadd_gen (a b : Rat) (u v : Value) (w : World) (ha : RepG w w.heap.size a u) (hb : RepG w w.heap.size b v) (ia : InF a) (ib : InF b) (d l r : Int) (hg : (Nat.gcd (a.den : Int).natAbs (b.den : Int).natAbs : Int) = d) (hl : (a.den : Int) / d = l) (hr : (b.den : Int) / d = r) (ll : InL l) (lr : InL r) (ld : InL d) (d0 : d ≠ 0) (hp : l * (b.den : Int) ≠ 0) (X : Rat) (er : Int) (hOK : (∀ j < 4, InL ([a.num * r, b.num * l, l * (b.den : Int), a.num * r + b.num * l][j]?.getD 0)) → Rat.divInt (a.num * r + b.num * l) (l * (b.den : Int)) = X ∧ er = 0) (hBAD : ∀ j < 4, ¬ InL ([a.num * r, b.num * l, l * (b.den : Int), a.num * r + b.num * l][j]?.getD 0) → X = 0 ∧ er = 4) :
    Calls Tryz.prog 29 #[u, v] w (NewGE X er w) := by
  have E1 := Lib.hid hOK
  have E2 := Lib.hid hBAD
  have HG := Lib.hid hg
  have HL := Lib.hid hl
  have HR_ := Lib.hid hr
  have LL := Lib.hid ll
  have LR := Lib.hid lr
  have LD := Lib.hid ld
  have D0 := Lib.hid d0
  have HP := Lib.hid hp
  clear hOK hBAD hg hl hr ll lr ld d0 hp
  have HB := Lib.hid (Below.refl w.heap.size w)
  obtain ⟨da, Aa, na, ca, ea, Ea, ma, fa, rfl⟩ := ha.shape
  have Va := Lib.hid ha
  clear ha
  obtain ⟨db, Ab, nb, cb, eb, Eb, mb, fb, rfl⟩ := hb.shape
  have Vb := Lib.hid hb
  clear hb
  replace ia := Lib.hid ia
  replace ib := Lib.hid ib
  go_enter Tryz.func29, Tryz.ntmps29
  have h := HoldG.new Va.out
  have b := al_below w (.cells #[.bool da, .slice Aa na ca, .bool ea, .slice Ea ma fa] 42)
  replace HB := Lib.hid (bstep HB.out b)
  replace Vb := Lib.hid (Vb.out.step b)
  clear b
  have Ha := Lib.hid h
  clear h Va
  have h := HoldG.new Vb.out
  simp only [World.size_alloc] at h
  have b := al_below (w.alloc (.cells #[.bool da, .slice Aa na ca, .bool ea, .slice Ea ma fa] 42)) (.cells #[.bool db, .slice Ab nb cb, .bool eb, .slice Eb mb fb] 42)
  replace HB := Lib.hid (bstep HB.out b)
  replace Ha := Lib.hid (Ha.out.below b)
  clear b
  have Hb := Lib.hid h
  clear h Vb
  have h := Blk4.new ((w.alloc (.cells #[.bool da, .slice Aa na ca, .bool ea, .slice Ea ma fa] 42)).alloc (.cells #[.bool db, .slice Ab nb cb, .bool eb, .slice Eb mb fb] 42)) 42 (.bool false) (.slice none 0 0) (.bool false) (.slice none 0 0)
  simp only [World.size_alloc] at h
  have b := al_below ((w.alloc (.cells #[.bool da, .slice Aa na ca, .bool ea, .slice Ea ma fa] 42)).alloc (.cells #[.bool db, .slice Ab nb cb, .bool eb, .slice Eb mb fb] 42)) (.cells #[.bool false, .slice none 0 0, .bool false, .slice none 0 0] 42)
  replace HB := Lib.hid (bstep HB.out b)
  replace Ha := Lib.hid (Ha.out.below b)
  replace Hb := Lib.hid (Hb.out.below b)
  clear b
  have R0 := Lib.hid (show Blk4 _ (w.heap.size + 1 + 1) 42 (.bool false) (.slice none 0 0) (.bool false) (.slice none 0 0) from h)
  clear h
  have gHa0 := Ha.out.c0
  have gHa1 := Ha.out.c1
  have gHa2 := Ha.out.c2
  have gHa3 := Ha.out.c3
  have gHb0 := Hb.out.c0
  have gHb1 := Hb.out.c1
  have gHb2 := Hb.out.c2
  have gHb3 := Hb.out.c3
  go_wp2_with fail
  refine (HG.out ▸ gcd_any (a.den : Int) (b.den : Int) _ _ _ Ha.out.2.den Hb.out.2.den (fit_bits (den_lim ia.out)) (fit_bits (den_lim ib.out))).mono ?_
  rintro e w51 ⟨v, rfl, h, b⟩
  obtain ⟨d51, A51, n51, c51, rfl⟩ := h.shape'
  clear gHa0 gHa1 gHa2 gHa3 gHb0 gHb1 gHb2 gHb3
  have z51 := b.size
  simp only [World.size_alloc] at z51
  replace z51 := Lib.hid z51
  replace HB := Lib.hid (bstep HB.out b)
  replace Ha := Lib.hid (Ha.out.below b)
  replace Hb := Lib.hid (Hb.out.below b)
  replace R0 := Lib.hid (R0.out.below b)
  have V51 := Lib.hid h
  clear h b
  have h := HoldN.new V51.out
  have b := al_below w51 (.cells #[.bool d51, .slice A51 n51 c51] 24)
  replace HB := Lib.hid (bstep HB.out b)
  replace Ha := Lib.hid (Ha.out.below b)
  replace Hb := Lib.hid (Hb.out.below b)
  replace R0 := Lib.hid (R0.out.below b)
  clear b
  have H51 := Lib.hid h
  clear h V51
  have gHb0 := Hb.out.c0
  have gHb1 := Hb.out.c1
  have gHb2 := Hb.out.c2
  have gHb3 := Hb.out.c3
  have gH510 := H51.out.c0
  have gH511 := H51.out.c1
  go_wp2_with fail
  refine (HR_.out ▸ div_any (b.den : Int) d _ _ _ Hb.out.2.den H51.out.2 (fit_bits (den_lim ib.out)) (fit_bits LD.out) D0.out).mono ?_
  rintro e w52 ⟨u, v, rfl, h, h', b⟩
  obtain ⟨d52, A52, n52, c52, rfl⟩ := h.shape'
  obtain ⟨d53, A53, n53, c53, rfl⟩ := h'.shape'
  clear gHb0 gHb1 gHb2 gHb3 gH510 gH511
  have z52 := b.size
  simp only [World.size_alloc] at z52
  replace z52 := Lib.hid z52
  replace HB := Lib.hid (bstep HB.out b)
  replace Ha := Lib.hid (Ha.out.below b)
  replace Hb := Lib.hid (Hb.out.below b)
  replace R0 := Lib.hid (R0.out.below b)
  replace H51 := Lib.hid (H51.out.below b)
  have V52 := Lib.hid h
  have V53 := Lib.hid h'
  clear h h' b
  have h := HoldN.new V52.out
  have b := al_below w52 (.cells #[.bool d52, .slice A52 n52 c52] 24)
  replace HB := Lib.hid (bstep HB.out b)
  replace Ha := Lib.hid (Ha.out.below b)
  replace Hb := Lib.hid (Hb.out.below b)
  replace R0 := Lib.hid (R0.out.below b)
  replace H51 := Lib.hid (H51.out.below b)
  replace V53 := Lib.hid (V53.out.step b)
  clear b
  have H52 := Lib.hid h
  clear h V52
  have h := HoldN.new V53.out
  simp only [World.size_alloc] at h
  have b := al_below (w52.alloc (.cells #[.bool d52, .slice A52 n52 c52] 24)) (.cells #[.bool d53, .slice A53 n53 c53] 24)
  replace HB := Lib.hid (bstep HB.out b)
  replace Ha := Lib.hid (Ha.out.below b)
  replace Hb := Lib.hid (Hb.out.below b)
  replace R0 := Lib.hid (R0.out.below b)
  replace H51 := Lib.hid (H51.out.below b)
  replace H52 := Lib.hid (H52.out.below b)
  clear b
  have H53 := Lib.hid h
  clear h V53
  clear H53
  have gHa0 := Ha.out.c0
  have gHa1 := Ha.out.c1
  have gHa2 := Ha.out.c2
  have gHa3 := Ha.out.c3
  have gH510 := H51.out.c0
  have gH511 := H51.out.c1
  go_wp2_with fail
  refine (HL.out ▸ div_any (a.den : Int) d _ _ _ Ha.out.2.den H51.out.2 (fit_bits (den_lim ia.out)) (fit_bits LD.out) D0.out).mono ?_
  rintro e w54 ⟨u, v, rfl, h, h', b⟩
  obtain ⟨d54, A54, n54, c54, rfl⟩ := h.shape'
  obtain ⟨d55, A55, n55, c55, rfl⟩ := h'.shape'
  clear gHa0 gHa1 gHa2 gHa3 gH510 gH511
  have z54 := b.size
  simp only [World.size_alloc] at z54
  replace z54 := Lib.hid z54
  replace HB := Lib.hid (bstep HB.out b)
  replace Ha := Lib.hid (Ha.out.below b)
  replace Hb := Lib.hid (Hb.out.below b)
  replace R0 := Lib.hid (R0.out.below b)
  replace H51 := Lib.hid (H51.out.below b)
  replace H52 := Lib.hid (H52.out.below b)
  have V54 := Lib.hid h
  have V55 := Lib.hid h'
  clear h h' b
  have h := HoldN.new V54.out
  have b := al_below w54 (.cells #[.bool d54, .slice A54 n54 c54] 24)
  replace HB := Lib.hid (bstep HB.out b)
  replace Ha := Lib.hid (Ha.out.below b)
  replace Hb := Lib.hid (Hb.out.below b)
  replace R0 := Lib.hid (R0.out.below b)
  replace H51 := Lib.hid (H51.out.below b)
  replace H52 := Lib.hid (H52.out.below b)
  replace V55 := Lib.hid (V55.out.step b)
  clear b
  have H54 := Lib.hid h
  clear h V54
  have h := HoldN.new V55.out
  simp only [World.size_alloc] at h
  have b := al_below (w54.alloc (.cells #[.bool d54, .slice A54 n54 c54] 24)) (.cells #[.bool d55, .slice A55 n55 c55] 24)
  replace HB := Lib.hid (bstep HB.out b)
  replace Ha := Lib.hid (Ha.out.below b)
  replace Hb := Lib.hid (Hb.out.below b)
  replace R0 := Lib.hid (R0.out.below b)
  replace H51 := Lib.hid (H51.out.below b)
  replace H52 := Lib.hid (H52.out.below b)
  replace H54 := Lib.hid (H54.out.below b)
  clear b
  have H55 := Lib.hid h
  clear h V55
  clear H55
  clear H51
  go_wp2_with fail
  refine gadd_r4 rfl rfl Ha.out rfl Hb.out rfl H52.out rfl H54.out ia.out ib.out LR.out LL.out ?_
  intro w56 u33 u34 u35 u36 u37 u38 u39 u40 u41 u42 u43 u44 u45 u11   b   o11
  simp only [List.foldl_cons, List.foldl_nil, List.setIfInBounds_toArray, List.set_cons_zero, List.set_cons_succ]
  have z56 := b.size
  simp only [World.size_alloc] at z56
  replace z56 := Lib.hid z56
  replace HB := Lib.hid (bstep HB.out b)
  replace Ha := Lib.hid (Ha.out.below b)
  replace Hb := Lib.hid (Hb.out.below b)
  replace R0 := Lib.hid (R0.out.below b)
  replace H52 := Lib.hid (H52.out.below b)
  replace H54 := Lib.hid (H54.out.below b)
  clear b
  clear Ha
  clear Hb
  clear H52
  clear H54
  obtain ⟨g11, cs, tt, rfl, -, -, hR⟩ := o11
  obtain ⟨dE0, AE0, nE0, cE0, e0⟩ := hR.get 0 (show 0 < 3 by omega)
  obtain ⟨dE1, AE1, nE1, cE1, e1⟩ := hR.get 1 (show 1 < 3 by omega)
  obtain ⟨dE2, AE2, nE2, cE2, e2⟩ := hR.get 2 (show 2 < 3 by omega)
  replace e0 := Lib.hid (show HoldE _ g11 0 (a.num * r) dE0 AE0 nE0 cE0 from e0)
  replace e1 := Lib.hid (show HoldE _ g11 1 (b.num * l) dE1 AE1 nE1 cE1 from e1)
  replace e2 := Lib.hid (show HoldE _ g11 2 (l * (b.den : Int)) dE2 AE2 nE2 cE2 from e2)
  clear hR
  go_wp2_with fail
  refine gadd_r5 rfl rfl e0.out e1.out e2.out (((fit_bits ia.out.1).mul (fit_bits LR.out)).mono (by omega)) (((fit_bits ib.out.1).mul (fit_bits LL.out)).mono (by omega)) ?_
  intro w57 u46 u47 u48 u49 u50 u51 u52 u53 u54 u55 u11   b   o11
  simp only [List.foldl_cons, List.foldl_nil, List.setIfInBounds_toArray, List.set_cons_zero, List.set_cons_succ]
  have z57 := b.size
  replace z57 := Lib.hid z57
  replace HB := Lib.hid (bstep HB.out b)
  replace R0 := Lib.hid (R0.out.below b)
  clear b
  clear e0 e1 e2
  obtain ⟨g11', c11, cs', tt', rfl, hh, hs, hR⟩ := o11
  have NE := Lib.hid (blk_ne hh hs R0.out)
  clear hh hs
  change ArrN _ g11' [a.num * r, b.num * l, l * (b.den : Int), a.num * r + b.num * l] at hR
  have HR := Lib.hid hR
  clear hR
  have HBI := Lib.hid (show ∀ i < 4, Bits 130000 ([a.num * r, b.num * l, l * (b.den : Int), a.num * r + b.num * l][i]?.getD 0) from fun i hi => all4 (P := Bits 130000) (((fit_bits ia.out.1).mul (fit_bits LR.out)).mono (by omega)) (((fit_bits ib.out.1).mul (fit_bits LL.out)).mono (by omega)) (((fit_bits LL.out).mul (fit_bits (den_lim ib.out))).mono (by omega)) ((Bits.add ((fit_bits ia.out.1).mul (fit_bits LR.out)) ((fit_bits ib.out.1).mul (fit_bits LL.out))).mono (by omega)) i hi)
  obtain ⟨L2, hL2⟩ : ∃ z, l * (b.den : Int) = z := ⟨_, rfl⟩
  obtain ⟨L3, hL3⟩ : ∃ z, a.num * r + b.num * l = z := ⟨_, rfl⟩
  obtain ⟨L, hL⟩ : ∃ L, L = [a.num * r, b.num * l, l * (b.den : Int), a.num * r + b.num * l] := ⟨_, rfl⟩
  have hLL : L.length = 4 := by rw [hL]; rfl
  have K3 := Lib.hid (show L[3]?.getD 0 = L3 by rw [hL, ← hL3]; rfl)
  have K2 := Lib.hid (show L[2]?.getD 0 = L2 by rw [hL, ← hL2]; rfl)
  rw [hL2] at HP E1
  rw [hL3] at E1
  have E1' := Lib.hid (show (∀ j < 4, InL (L[j]?.getD 0)) → Rat.divInt L3 L2 = X ∧ er = 0 from fun h => E1.out (by intro j hj; have := h j hj; rw [hL, hL2, hL3] at this; exact this))
  have E2' := Lib.hid (show ∀ j < 4, ¬ InL (L[j]?.getD 0) → X = 0 ∧ er = 4 from fun j hj h => E2.out j hj (by rw [hL] at h; exact h))
  rw [← hL] at HR HBI
  have HLL := Lib.hid hLL
  clear E1 E2 hL hLL hL2 hL3 HG HL HR_ LL LR LD D0 ia ib
  have E1 := E1'
  have E2 := E2'
  clear E1' E2'
  clear z51 z52 z54 z56 z57
  go_wp2_with fail
  go_loopg [12] 4 (fun gk iv wr => ∃ i : Nat, gk + i = 4 ∧ iv = .int .i64 i ∧ Hid (ArrN wr g11' L) ∧ Hid (∀ j < i, InL (L[j]?.getD 0)) ∧ Hid (Blk4 wr (w.heap.size + 1 + 1) 42 (.bool false) (.slice none 0 0) (.bool false) (.slice none 0 0)) ∧ Hid (Below w.heap.size w wr))
  case atStart => exact ⟨0, by omega, rfl, HR, Lib.hid (fun j hj => absurd hj (Nat.not_lt_zero _)), R0, HB⟩
  case round =>
    clear HR R0 HB
    obtain ⟨i, hgi, rfl, HR, HF_, R0, HB⟩ := hrel
    by_cases hlt : (i : Int) < 4
    · have ei : IntKind.i64.wrap ((i : Int) + 1) = (i : Int) + 1 := IntWalk.i64_in _ (by omega)
      obtain ⟨dE, AE, nE, cE, h⟩ := HR.out.get i (by rw [HLL.out]; omega)
      have ZB := HBI.out i (by omega)
      obtain ⟨z, hz⟩ : ∃ z, L[i]?.getD 0 = z := ⟨_, rfl⟩
      rw [hz] at h ZB
      replace ZB := Lib.hid ZB
      have HE := Lib.hid h
      clear h
      by_cases hin : InL z
      · have HIN := Lib.hid hin
        have HZ := Lib.hid hz
        clear hin hz
        have gE0 := HE.out.c0
        have gE1 := HE.out.c1
        go_wp2_with fail
        have FT := fits_any z _ _ HE.out.rep (Bits.mono ZB.out (by omega))
        rw [decide_eq_true (show ((z.natAbs : Int) < lim) from HIN.out)] at FT
        refine (FT).mono ?_
        rintro e w58 ⟨rfl, b⟩
        clear gE0 gE1
        have z58 := b.size
        replace z58 := Lib.hid z58
        replace HR := Lib.hid (HR.out.below b)
        replace R0 := Lib.hid (R0.out.below b)
        replace HB := Lib.hid (bstep HB.out b)
        replace HE := Lib.hid (HE.out.below b)
        clear b
        clear FT
        clear HE
        clear ZB
        go_wp2_with fail
        clear z58
        go_roundg (gk - 1)
        case measure => omega
        case rel =>
          refine ⟨i + 1, by omega, by go_num, HR, Lib.hid (fun j hj => ?_), R0, HB⟩
          rcases Nat.lt_or_ge j i with h | h
          · exact HF_.out j h
          · obtain rfl : j = i := by omega
            rw [HZ.out]
            exact HIN.out
      · have HIN := Lib.hid hin
        have HZ := Lib.hid hz
        clear hin hz
        obtain ⟨hX, hE⟩ := E2.out i (by omega) (by rw [HZ.out]; exact HIN.out)
        subst hX
        subst hE
        have gE0 := HE.out.c0
        have gE1 := HE.out.c1
        go_wp2_with fail
        have FT := fits_any z _ _ HE.out.rep (Bits.mono ZB.out (by omega))
        rw [decide_eq_false (show ¬ ((z.natAbs : Int) < lim) from HIN.out)] at FT
        refine (FT).mono ?_
        rintro e w59 ⟨rfl, b⟩
        clear gE0 gE1
        have z59 := b.size
        replace z59 := Lib.hid z59
        replace HR := Lib.hid (HR.out.below b)
        replace R0 := Lib.hid (R0.out.below b)
        replace HB := Lib.hid (bstep HB.out b)
        replace HE := Lib.hid (HE.out.below b)
        clear b
        clear FT
        clear HE
        clear HR
        go_wp2_with fail
        refine (gof_zero _).mono ?_
        rintro e w60 ⟨v, rfl, h, b⟩
        obtain ⟨d60, A60, n60, c60, e60, E60, m60, f60, rfl⟩ := h.shape
        have z60 := b.size
        replace z60 := Lib.hid z60
        replace R0 := Lib.hid (R0.out.below b)
        replace HB := Lib.hid (bstep HB.out b)
        have V60 := Lib.hid h
        clear h b
        have gR00 := R0.out.c0
        have yR00 := R0.out.f0
        have gR01 := R0.out.c1
        have yR01 := R0.out.f1
        have gR02 := R0.out.c2
        have yR02 := R0.out.f2
        have gR03 := R0.out.c3
        have yR03 := R0.out.f3
        have HF := Lib.hid (retG (V60.out) R0.out HB.out (by omega))
        clear R0 HB V60
        clear E1 E2 HP HLL HBI K2 K3 HIN HZ ZB HF_ NE
        go_wp2_with fail
        exact bodyPost_ret (v := .tuple #[.agg #[.bool d60, .slice A60 n60 c60, .bool e60, .slice E60 m60 f60], .int .i64 4]) (by simp [results, Tryz.results29, go_sem, gR00, gR01, gR02, gR03]) rfl ⟨_, rfl, HF.out.1, HF.out.2.1⟩
    · obtain rfl : i = 4 := by omega
      obtain ⟨hX, rfl⟩ := E1.out HF_.out
      have HX := Lib.hid hX
      clear hX
      obtain ⟨dE3, AE3, nE3, cE3, e3⟩ := HR.out.get 3 (by rw [HLL.out]; omega)
      obtain ⟨dE2, AE2, nE2, cE2, e2⟩ := HR.out.get 2 (by rw [HLL.out]; omega)
      have f3 := HF_.out 3 (by omega)
      have f2 := HF_.out 2 (by omega)
      rw [K3.out] at e3 f3
      rw [K2.out] at e2 f2
      have HE3 := Lib.hid e3
      have HE2 := Lib.hid e2
      have F3 := Lib.hid f3
      have F2 := Lib.hid f2
      clear e3 e2 f3 f2 HBI HF_ E2 E1 K2 K3 HLL HR
      have ne := NE.out
      go_wp2_with fail
      have qE30 := HE3.out.c0
      have qE31 := HE3.out.c1
      have qE20 := HE2.out.c0
      have qE21 := HE2.out.c1
      go_region_held3 (fun w' => w'.cell? ⟨g11', 6, none⟩ = some (.bool dE3) ∧ w'.cell? ⟨g11', 7, none⟩ = some (.slice AE3 nE3 cE3) ∧ w'.cell? ⟨g11', 4, none⟩ = some (.bool dE2) ∧ w'.cell? ⟨g11', 5, none⟩ = some (.slice AE2 nE2 cE2))
        (exact ⟨by first | with_reducible assumption | (simp only [World.cell?_drew]; with_reducible assumption) | (try simp only [World.cell?_drew]); repeat' (first | with_reducible assumption | with_reducible refine cell_set2 ?_ (by omega) | with_reducible refine cell_set4 ?_ (by omega)), by first | with_reducible assumption | (simp only [World.cell?_drew]; with_reducible assumption) | (try simp only [World.cell?_drew]); repeat' (first | with_reducible assumption | with_reducible refine cell_set2 ?_ (by omega) | with_reducible refine cell_set4 ?_ (by omega)), by first | with_reducible assumption | (simp only [World.cell?_drew]; with_reducible assumption) | (try simp only [World.cell?_drew]); repeat' (first | with_reducible assumption | with_reducible refine cell_set2 ?_ (by omega) | with_reducible refine cell_set4 ?_ (by omega)), by first | with_reducible assumption | (simp only [World.cell?_drew]; with_reducible assumption) | (try simp only [World.cell?_drew]); repeat' (first | with_reducible assumption | with_reducible refine cell_set2 ?_ (by omega) | with_reducible refine cell_set4 ?_ (by omega))⟩)
        (first
          | (go_at_call 19
             refine (HX.out ▸ (make_nz HP.out) ▸ gmake_any L3 L2 _ _ _ (HE3.out.rep.step (by repeat' (first | with_reducible exact Below.refl _ _ | with_reducible assumption | with_reducible refine below_drew ?_))) (HE2.out.rep.step (by repeat' (first | with_reducible exact Below.refl _ _ | with_reducible assumption | with_reducible refine below_drew ?_))) (fit_bits F3.out) (fit_bits F2.out)).mono ?_
             rintro e w61 ⟨v61, rfl, h61, b61⟩
             obtain ⟨d61, A61, n61, c61, e61, E61, m61, f61, rfl⟩ := h61.shape
             have hb61 : Below wr.heap.size wr w61 := bstep (by repeat' (first | with_reducible exact Below.refl _ _ | with_reducible assumption | with_reducible refine below_drew ?_)) b61
             have V61 := Lib.hid h61
             clear h61
             replace qE30 := cell_below (HE3.out.c0) hb61
             replace qE31 := cell_below (HE3.out.c1) hb61
             replace qE20 := cell_below (HE2.out.c0) hb61
             replace qE21 := cell_below (HE2.out.c1) hb61
             replace R0 := Lib.hid (R0.out.below hb61)
             replace HB := Lib.hid (bstep HB.out hb61)
             replace HE3 := Lib.hid (HE3.out.below hb61)
             replace HE2 := Lib.hid (HE2.out.below hb61)
             clear b61 hb61
             have gR00 := R0.out.c0
             have yR00 := R0.out.f0
             have gR01 := R0.out.c1
             have yR01 := R0.out.f1
             have gR02 := R0.out.c2
             have yR02 := R0.out.f2
             have gR03 := R0.out.c3
             have yR03 := R0.out.f3
             have HF := Lib.hid (retG (V61.out) R0.out HB.out (by omega))))
      clear qE30 qE31 qE20 qE21
      clear R0 HB HE3 HE2 V61
      clear F3 F2 HX HP NE ne
      go_wp2_with fail
      exact bodyPost_ret (v := .tuple #[.agg #[.bool d61, .slice A61 n61 c61, .bool e61, .slice E61 m61 f61], .int .i64 0]) (by simp [results, Tryz.results29, go_sem, gR00, gR01, gR02, gR03]) rfl ⟨_, rfl, HF.out.1, HF.out.2.1⟩
theorem gadd_any (a b : Rat) (u v : Value) (w : World) (ha : RepG w w.heap.size a u) (hb : RepG w w.heap.size b v) (ia : InF a) (ib : InF b) : Calls Tryz.prog 29 #[u, v] w (NewGE (addQ a b) (addR a b) w) := by
  obtain ⟨d, left, right, hg, gp, hl, hr, pl, pr, el, er, _, _, e7⟩ := rat_add a b
  have e1 : gcdQ a b = d := hg.symm
  have e2 : leftQ a b = left := by unfold leftQ; rw [e1]; exact hl.symm
  have e3 : rightQ a b = right := by unfold rightQ; rw [e1]; exact hr.symm
  have hg' : (Nat.gcd (a.den : Int).natAbs (b.den : Int).natAbs : Int) = d := by rw [Int.natAbs_natCast, Int.natAbs_natCast]; exact hg.symm
  have lg : (d.natAbs : Int) < lim := hg' ▸ gcd_ltl (den_lim ia) (den_lim ib)
  have bp : (0 : Int) < b.den := Int.natCast_pos.2 b.den_pos
  refine gadd_gen a b u v w ha hb ia ib d left right hg' hl.symm hr.symm (hl ▸ ediv_ltl (den_lim ia) _) (hr ▸ ediv_ltl (den_lim ib) _) lg (by omega) (Int.ne_of_gt (Int.mul_pos pl bp)) _ _ ?_ ?_
  · intro h
    have h' : AddIn a b := by
      unfold AddIn
      rw [e2, e3]
      exact ⟨h 0 (by omega), h 1 (by omega), h 3 (by omega), h 2 (by omega)⟩
    exact ⟨e7.trans (addQ_in h').1.symm, (addQ_in h').2⟩
  · intro j hj h
    refine addQ_out (fun h' => h ?_)
    unfold AddIn at h'
    rw [e2, e3] at h'
    exact all4 (P := InL) h'.1 h'.2.1 h'.2.2.2 h'.2.2.1 j hj
set_option maxRecDepth 100000 in
set_option maxHeartbeats 4000000 in
theorem gsub_any (a b : Rat) (u v : Value) (w : World) (ha : RepG w w.heap.size a u) (hb : RepG w w.heap.size b v) (ia : InF a) (ib : InF b) :
    Calls Tryz.prog 31 #[u, v] w (NewGE (addQ a (-b)) (addR a (-b)) w) := by
  obtain ⟨ER, hER⟩ : ∃ ER, addR a (-b) = ER := ⟨_, rfl⟩
  obtain ⟨X, hX⟩ : ∃ X, addQ a (-b) = X := ⟨_, rfl⟩
  rw [hER, hX]
  have HER := Lib.hid hER
  have HX := Lib.hid hX
  clear hER hX
  replace ia := Lib.hid ia
  replace ib := Lib.hid ib
  have HB := Lib.hid (Below.refl w.heap.size w)
  obtain ⟨da, Aa, na, ca, ea, Ea, ma, fa, rfl⟩ := ha.shape
  have Va := Lib.hid ha
  clear ha
  obtain ⟨db, Ab, nb, cb, eb, Eb, mb, fb, rfl⟩ := hb.shape
  have Vb := Lib.hid hb
  clear hb
  go_enter Tryz.func31, Tryz.ntmps31
  have h := HoldG.new Va.out
  have b := al_below w (.cells #[.bool da, .slice Aa na ca, .bool ea, .slice Ea ma fa] 42)
  replace HB := Lib.hid (bstep HB.out b)
  replace Vb := Lib.hid (Vb.out.step b)
  clear b
  have Ha := Lib.hid h
  clear h Va
  have h := HoldG.new Vb.out
  simp only [World.size_alloc] at h
  have b := al_below (w.alloc (.cells #[.bool da, .slice Aa na ca, .bool ea, .slice Ea ma fa] 42)) (.cells #[.bool db, .slice Ab nb cb, .bool eb, .slice Eb mb fb] 42)
  replace HB := Lib.hid (bstep HB.out b)
  replace Ha := Lib.hid (Ha.out.below b)
  clear b
  have Hb := Lib.hid h
  clear h Vb
  have h := Blk4.new ((w.alloc (.cells #[.bool da, .slice Aa na ca, .bool ea, .slice Ea ma fa] 42)).alloc (.cells #[.bool db, .slice Ab nb cb, .bool eb, .slice Eb mb fb] 42)) 42 (.bool false) (.slice none 0 0) (.bool false) (.slice none 0 0)
  simp only [World.size_alloc] at h
  have b := al_below ((w.alloc (.cells #[.bool da, .slice Aa na ca, .bool ea, .slice Ea ma fa] 42)).alloc (.cells #[.bool db, .slice Ab nb cb, .bool eb, .slice Eb mb fb] 42)) (.cells #[.bool false, .slice none 0 0, .bool false, .slice none 0 0] 42)
  replace HB := Lib.hid (bstep HB.out b)
  replace Ha := Lib.hid (Ha.out.below b)
  replace Hb := Lib.hid (Hb.out.below b)
  clear b
  have R0 := Lib.hid (show Blk4 _ (w.heap.size + 1 + 1) 42 (.bool false) (.slice none 0 0) (.bool false) (.slice none 0 0) from h)
  clear h
  obtain ⟨W51, hW⟩ : ∃ W, W = (((w.alloc (.cells #[.bool da, .slice Aa na ca, .bool ea, .slice Ea ma fa] 42)).alloc (.cells #[.bool db, .slice Ab nb cb, .bool eb, .slice Eb mb fb] 42)).alloc (.cells #[.bool false, .slice none 0 0, .bool false, .slice none 0 0] 42)) := ⟨_, rfl⟩
  have HW := Lib.hid hW
  rw [← hW] at HB
  rw [← hW] at Ha
  rw [← hW] at Hb
  rw [← hW] at R0
  clear hW
  go_wp2_with fail
  rw [← HW.out]
  clear HW
  have qHa0 := Ha.out.c0
  have qHa1 := Ha.out.c1
  have qHa2 := Ha.out.c2
  have qHa3 := Ha.out.c3
  have qHb0 := Hb.out.c0
  have qHb1 := Hb.out.c1
  have qHb2 := Hb.out.c2
  have qHb3 := Hb.out.c3
  go_region_held3 (fun w' => w'.cell? ⟨w.heap.size, 0, none⟩ = some (.bool da) ∧ w'.cell? ⟨w.heap.size, 1, none⟩ = some (.slice Aa na ca) ∧ w'.cell? ⟨w.heap.size, 2, none⟩ = some (.bool ea) ∧ w'.cell? ⟨w.heap.size, 3, none⟩ = some (.slice Ea ma fa) ∧ w'.cell? ⟨w.heap.size + 1, 0, none⟩ = some (.bool db) ∧ w'.cell? ⟨w.heap.size + 1, 1, none⟩ = some (.slice Ab nb cb) ∧ w'.cell? ⟨w.heap.size + 1, 2, none⟩ = some (.bool eb) ∧ w'.cell? ⟨w.heap.size + 1, 3, none⟩ = some (.slice Eb mb fb))
    (exact ⟨by first | with_reducible assumption | (simp only [World.cell?_drew]; with_reducible assumption) | (try simp only [World.cell?_drew]); repeat' (first | with_reducible assumption | with_reducible refine cell_set2 ?_ (by omega) | with_reducible refine cell_set4 ?_ (by omega)), by first | with_reducible assumption | (simp only [World.cell?_drew]; with_reducible assumption) | (try simp only [World.cell?_drew]); repeat' (first | with_reducible assumption | with_reducible refine cell_set2 ?_ (by omega) | with_reducible refine cell_set4 ?_ (by omega)), by first | with_reducible assumption | (simp only [World.cell?_drew]; with_reducible assumption) | (try simp only [World.cell?_drew]); repeat' (first | with_reducible assumption | with_reducible refine cell_set2 ?_ (by omega) | with_reducible refine cell_set4 ?_ (by omega)), by first | with_reducible assumption | (simp only [World.cell?_drew]; with_reducible assumption) | (try simp only [World.cell?_drew]); repeat' (first | with_reducible assumption | with_reducible refine cell_set2 ?_ (by omega) | with_reducible refine cell_set4 ?_ (by omega)), by first | with_reducible assumption | (simp only [World.cell?_drew]; with_reducible assumption) | (try simp only [World.cell?_drew]); repeat' (first | with_reducible assumption | with_reducible refine cell_set2 ?_ (by omega) | with_reducible refine cell_set4 ?_ (by omega)), by first | with_reducible assumption | (simp only [World.cell?_drew]; with_reducible assumption) | (try simp only [World.cell?_drew]); repeat' (first | with_reducible assumption | with_reducible refine cell_set2 ?_ (by omega) | with_reducible refine cell_set4 ?_ (by omega)), by first | with_reducible assumption | (simp only [World.cell?_drew]; with_reducible assumption) | (try simp only [World.cell?_drew]); repeat' (first | with_reducible assumption | with_reducible refine cell_set2 ?_ (by omega) | with_reducible refine cell_set4 ?_ (by omega)), by first | with_reducible assumption | (simp only [World.cell?_drew]; with_reducible assumption) | (try simp only [World.cell?_drew]); repeat' (first | with_reducible assumption | with_reducible refine cell_set2 ?_ (by omega) | with_reducible refine cell_set4 ?_ (by omega))⟩)
    (first
      | (go_at_call 26
         refine (gneg_any b _ _ (Hb.out.2.step (by repeat' (first | with_reducible exact Below.refl _ _ | with_reducible assumption | with_reducible refine below_drew ?_)))).mono ?_
         rintro e w52 ⟨v52, rfl, h52, b52⟩
         obtain ⟨d52, A52, n52, c52, e52, E52, m52, f52, rfl⟩ := h52.shape
         have hb52 : Below W51.heap.size W51 w52 := bstep (by repeat' (first | with_reducible exact Below.refl _ _ | with_reducible assumption | with_reducible refine below_drew ?_)) b52
         have V52 := Lib.hid h52
         clear h52
         replace qHa0 := cell_below (Ha.out.c0) hb52
         replace qHa1 := cell_below (Ha.out.c1) hb52
         replace qHa2 := cell_below (Ha.out.c2) hb52
         replace qHa3 := cell_below (Ha.out.c3) hb52
         replace qHb0 := cell_below (Hb.out.c0) hb52
         replace qHb1 := cell_below (Hb.out.c1) hb52
         replace qHb2 := cell_below (Hb.out.c2) hb52
         replace qHb3 := cell_below (Hb.out.c3) hb52)
      | (go_at_call 29
         refine (HX.out ▸ HER.out ▸ gadd_any a (-b) _ _ _ (Ha.out.2.step (by repeat' (first | with_reducible exact Below.refl _ _ | with_reducible assumption | with_reducible refine below_drew ?_))) (V52.out.step (by repeat' (first | with_reducible exact Below.refl _ _ | with_reducible assumption | with_reducible refine below_drew ?_))) ia.out (InF.neg ib.out)).mono ?_
         rintro e w53 ⟨v53, rfl, h53, b53⟩
         obtain ⟨d53, A53, n53, c53, e53, E53, m53, f53, rfl⟩ := h53.shape
         have hb53 : Below W51.heap.size W51 w53 := bstep (by repeat' (first | with_reducible exact Below.refl _ _ | with_reducible assumption | with_reducible refine below_drew ?_)) b53
         replace V52 := Lib.hid (V52.out.step (by first | exact b53 | exact undrew b53 | exact undrew (undrew b53)))
         have V53 := Lib.hid h53
         clear h53
         replace qHa0 := cell_below (Ha.out.c0) hb53
         replace qHa1 := cell_below (Ha.out.c1) hb53
         replace qHa2 := cell_below (Ha.out.c2) hb53
         replace qHa3 := cell_below (Ha.out.c3) hb53
         replace qHb0 := cell_below (Hb.out.c0) hb53
         replace qHb1 := cell_below (Hb.out.c1) hb53
         replace qHb2 := cell_below (Hb.out.c2) hb53
         replace qHb3 := cell_below (Hb.out.c3) hb53
         replace HB := Lib.hid (bstep HB.out hb53)
         replace Ha := Lib.hid (Ha.out.below hb53)
         replace Hb := Lib.hid (Hb.out.below hb53)
         replace R0 := Lib.hid (R0.out.below hb53)
         clear b52 hb52 b53 hb53
         have gR00 := R0.out.c0
         have yR00 := R0.out.f0
         have gR01 := R0.out.c1
         have yR01 := R0.out.f1
         have gR02 := R0.out.c2
         have yR02 := R0.out.f2
         have gR03 := R0.out.c3
         have yR03 := R0.out.f3
         have HF := Lib.hid (retG (V53.out) R0.out HB.out (by omega))))
  clear qHa0 qHa1 qHa2 qHa3 qHb0 qHb1 qHb2 qHb3
  clear HB Ha Hb R0 V52 V53
  clear HER HX ia ib
  go_wp2_with fail
  exact bodyPost_ret (v := .tuple #[.agg #[.bool d53, .slice A53 n53 c53, .bool e53, .slice E53 m53 f53], .int .i64 ER]) (by simp [results, Tryz.results31, go_sem, gR00, gR01, gR02, gR03]) rfl ⟨_, rfl, HF.out.1, HF.out.2.1⟩
end Go.Proofs.YtocooajlfpngdaaGreatDoor
namespace Go.Proofs.YtocooajlfpngdaaGreatDoor
open Go.RowKit
set_option linter.unusedVariables false

theorem bits20 {z : Int} (h : (z.natAbs : Int) < lim) : Bits 20000 z := (bits_lim (Int.le_of_lt h)).mono (by omega)
theorem in_zero : InF 0 := in_0
theorem addQ_bd (a b : Rat) : InF (addQ a b) := by
  by_cases h : AddIn a b
  · rw [(addQ_in h).1]
    obtain ⟨d, left, right, hg, gp, hl, hr, pl, pr, el, er, _, _, e7⟩ := rat_add a b
    have e1 : gcdQ a b = d := hg.symm
    have e2 : leftQ a b = left := by unfold leftQ; rw [e1]; exact hl.symm
    have e3 : rightQ a b = right := by unfold rightQ; rw [e1]; exact hr.symm
    unfold AddIn at h
    rw [e2, e3] at h
    rw [← e7]
    exact quo_in h.2.2.1 h.2.2.2
  · rw [(addQ_out h).1]
    exact in_zero
theorem fitQ_bd (a : Rat) : InF (fitQ a) := by
  by_cases h : InF a
  · rw [(fitQ_in h).1]; exact h
  · rw [(fitQ_out h).1]; exact in_zero
def divQ (a b : Rat) : Rat := if b.num = 0 then 0 else fitQ (a * b⁻¹)
def divR (a b : Rat) : Int := if b.num = 0 then 1 else fitR (a * b⁻¹)
theorem divQ_bd (a b : Rat) : InF (divQ a b) := by
  unfold divQ
  split
  · exact in_zero
  · exact fitQ_bd _
section
variable {a b : Rat} {u v : Value} {w : World}
theorem fdiv_all (ha : RepF w w.heap.size a u) (hb : RepF w w.heap.size b v) (ia : InF a) (ib : InF b) : Calls Tryz.prog 34 #[u, v] w (NewFE (divQ a b) (divR a b) w) := by
  by_cases h : b.num = 0
  · unfold divQ divR
    rw [if_pos h, if_pos h]
    exact div_z a b u v w ha hb ia ib h
  · unfold divQ divR
    rw [if_neg h, if_neg h]
    exact div_n a b u v w ha hb ia ib h
theorem gdiv_all (ha : RepG w w.heap.size a u) (hb : RepG w w.heap.size b v) (ia : InF a) (ib : InF b) : Calls Tryz.prog 35 #[u, v] w (NewGE (divQ a b) (divR a b) w) := by
  by_cases h : b.num = 0
  · unfold divQ divR
    rw [if_pos h, if_pos h]
    exact gdiv_zero a b u v w ha hb (bits20 ia.1) (bits20 (den_lim ia)) (bits20 ib.1) (bits20 (den_lim ib)) h
  · unfold divQ divR
    rw [if_neg h, if_neg h]
    exact gdiv_any a b u v w ha hb (bits20 ia.1) (bits20 (den_lim ia)) (bits20 ib.1) (bits20 (den_lim ib)) h
theorem gmul_in (ha : RepG w w.heap.size a u) (hb : RepG w w.heap.size b v) (ia : InF a) (ib : InF b) : Calls Tryz.prog 33 #[u, v] w (NewGE (fitQ (a * b)) (fitR (a * b)) w) :=
  gmul_any a b u v w ha hb (bits20 ia.1) (bits20 (den_lim ia)) (bits20 ib.1) (bits20 (den_lim ib))
def sgnF (a : Rat) : Int := cmpI' a.num 0
theorem gsgn_in (ha : RepG w w.heap.size a u) : Calls Tryz.prog 43 #[u] w fun e w' => e = .returned (.int .i64 (sgnF a)) ∧ Below w.heap.size w w' := by
  rcases Int.lt_trichotomy a.num 0 with h | h | h
  · have e : sgnF a = -1 := by unfold sgnF cmpI'; (repeat' split) <;> omega
    rw [e]
    exact gsign_m a u w ha h
  · have e : sgnF a = 0 := by unfold sgnF cmpI'; (repeat' split) <;> omega
    rw [e]
    exact gsign_0 a u w ha h
  · have e : sgnF a = 1 := by unfold sgnF cmpI'; (repeat' split) <;> omega
    rw [e]
    exact gsign_p a u w ha h
end
theorem allq4 {P : Rat → Prop} {a b c d : Rat} (ha : P a) (hb : P b) (hc : P c) (hd : P d) (i : Nat) (hi : i < 4) : P ([a, b, c, d][i]?.getD 0) := by
  have : i = 0 ∨ i = 1 ∨ i = 2 ∨ i = 3 := by omega
  rcases this with rfl | rfl | rfl | rfl
  · exact ha
  · exact hb
  · exact hc
  · exact hd
end Go.Proofs.YtocooajlfpngdaaGreatDoor
