/- A range over an iterator that never ends by itself: the loop's body says when it is over. The iterator's word, and the law of the statement. -/
import Derived.RangeFuncNested
import Derived.RangeFuncBound
import Derived.RangeFuncCalls
import Derived.RangeFuncLeaves
import Derived.RangeFuncBox
namespace Go.Proofs.YtgfhniiidejmoaaGreatDoor
open Go Go.RowKit
set_option linter.unusedVariables false

/-- AN ITERATOR WITHOUT AN END: G k x W: x is its k-th value, as it lies in W. Whoever takes its values says that it never takes N of them (J k only for k < N): then the call returns, and the round that said 'no more' has left Jx. -/
def SeqOn {α : Type} (F : Fence) (n : Nat) (P : Program) (g : Nat) (lb : Array Value) (encs : α → Array Value) (G : Nat → α → World → Prop) (Kp : World → World → Prop) (N : Nat) (w : World) : Prop :=
  ∀ (l : Nat) (J : Nat → World → Prop) (Jx : World → Prop) (A : World), Below w.heap.size w A →
    (∀ k X Y, J k X → Below X.heap.size X Y → J k Y) → (∀ k X, J k X → k < N) →
    (∀ k x X, J k X → G k x X → YieldAt F (n - 1) P l (encs x) X fun e Y =>
      (e = .returned (.bool true) ∧ J (k + 1) Y ∧ Kp X Y) ∨ (e = .returned (.bool false) ∧ Jx Y)) →
    J 0 A → CallsIn F n P g (#[.func (.yield l) #[] #[]] ++ lb) A fun e Y => (∃ v, e = .returned v) ∧ Jx Y

/-- A box abides the turn of a block that holds no cells. -/
theorem boxOn {B0 : Nat} {X Y : World} {row : Option Nat} {B : Nat} {t : TypeId} {v : Value} (h : Boxed X B t v) (hg : X.grownBy Y row) (hr : ∀ r, row = some r → B0 ≤ r ∧ ∃ o : Obj, X.heap[r]? = some o ∧ o.isCells = false) : Boxed Y B t v :=
  h.kept hg (fun e => by
    obtain ⟨_, o, ho, hc⟩ := hr B e.symm
    rw [show X.heap[B]? = _ from h] at ho; cases ho; cases hc)
theorem belowOn {B0 n₀ : Nat} {w X Y : World} {row : Option Nat} (h : Below n₀ w X) (hg : X.grownBy Y row) (hr : ∀ r, row = some r → B0 ≤ r ∧ ∃ o : Obj, X.heap[r]? = some o ∧ o.isCells = false) (h1 : n₀ ≤ w.heap.size) (h2 : n₀ ≤ B0) : Below n₀ w Y :=
  h.grown hg (Nat.le_trans h1 h.size) (fun k e => Nat.le_trans h2 (hr k e).1)
/-- A box in a world that has only grown. -/
theorem boxBelow {B n₀ : Nat} {X Y : World} {t : TypeId} {v : Value} (h : Boxed X B t v) (hb : Below n₀ X Y) (hB : B < n₀) : Boxed Y B t v := (hb.block B hB).trans h

/-- What the body of a round must achieve. -/
def onPost (B : Nat) (Kp : World → World → Prop) (I : Nat → World → Prop) (Ix : Code → World → Prop) (k : Nat) (W : World) : Exit → Act → World → Prop
  | .normal, _, Y => KeepsFrom B W Y ∧ Kp W Y ∧ I (k + 1) Y
  | .ret, _, Y => KeepsFrom B W Y ∧ Ix .ret Y
  | .exit id, _, Y => KeepsFrom B W Y ∧ Ix (.exit id) Y
  | _, _, _ => False

theorem belowKeeps {X Y : World} (h : Below X.heap.size X Y) (B : Nat) : KeepsFrom B X Y :=
  ⟨h.size, fun k o _ hk _ => (h.block k (Array.getElem?_eq_some_iff.1 hk).1).trans hk⟩
theorem onBelow {β : Type} {B : Nat} {I : β → World → Prop} (h : OwnFrom B I) {s : β} {X Y : World} (hs : I s X) (hb : Below X.heap.size X Y) : I s Y :=
  h s X Y none hs ⟨hb.os, hb.tape, hb.output, hb.size, fun k hk _ => hb.block k hk⟩ (fun r e => by cases e)

variable {F : Fence} {n : Nat} {P : Program}

/-- THE STATEMENT: 'for .. = range seq { .. }', seq without an end. -/
theorem range_on {α : Type} {g : Operand} {ps : Array Tmp} {assign body : Code} {Q : Exit → Act → World → Prop} {a : Act} {w : World}
    (hro : F.round = none) (h1 : 1 ≤ n) {gf : Nat} {lb : Array Value} (hg : a.eval g = .func (.func gf) #[] lb) (hFg : F.fn gf) (eg : ∀ args w, (callFunc gf args).run P w = .ok (.enter gf args) w)
    {encs : α → Array Value} {G : Nat → α → World → Prop} {Kp : World → World → Prop} {N : Nat} {w0 : World} (hseq : SeqOn F (n - 1) P gf lb encs G Kp N w0) (hb0 : Below w0.heap.size w0 w)
    (hKt : ∀ {X Y Z : World}, Kp X Y → Kp Y Z → Kp X Z) (hKb : ∀ (W : World) (l : Nat) (o o' : Obj), w.heap.size ≤ l → W.heap[l]? = some o → o.isCells = false → o.isWalk = false → Kp W (W.putObj l o')) (hps : ∀ x, (encs x).size = ps.size)
    (I : Nat → World → Prop) (Ix : Code → World → Prop) (hI : OwnFrom w.heap.size I) (hIx : OwnFrom w.heap.size Ix) (hN : ∀ k W, I k W → k < N) (h0 : I 0 w)
    (Ax : Nat × α × Act → World → Prop) (hAx : OwnFrom w.heap.size Ax)
    (hassign : ∀ (l k : Nat) (x : α) (W : World) (K : Act → World → Prop), I k W → G k x W → (∀ a' Y, KeepsFrom w.heap.size W Y → Kp W Y → Ax (k, x, a') Y → K a' Y) →
      assign.wpIn (F.inRound l) (n - 1 - 1) P (Exit.then K (fun _ _ _ => False)) { tmps := (ps.zip (encs x)).foldl (fun t (p, v) => t.setIfInBounds p v) a.tmps, defers := [] } W)
    (hbody : ∀ (l k : Nat) (x : α) (a' : Act) (W : World), Ax (k, x, a') W → body.wpIn (F.inRound l) (n - 1 - 1) P (onPost w.heap.size Kp I Ix k W) a' W)
    (hstop : ∀ (D : Nat) (c : Code) (W : World), w.heap.size ≤ D → Ix c W → W.heap[D]? = some (.deferred (some [])) → c.wpIn F n P Q { a with defers := { target := .collected D, args := #[] } :: a.defers } W) :
    (Code.rangeFunc g ps assign body).wpIn F n P Q a w := by
  refine wpIn_rangeFunc fun fn hfn => ?_
  rw [hro]
  -- the two blocks of the statement's own: D, the deferred calls; D + 1, the record
  obtain ⟨D, hD⟩ : ∃ D, D = w.heap.size := ⟨_, rfl⟩
  obtain ⟨rc, hrc⟩ : ∃ rc : LoopState → Option Code → Loop, rc = fun st pe => { state := st, pending := pe, fn := fn, tmps := a.tmps, params := ps, assign := assign, body := body, defers := D } := ⟨_, rfl⟩
  obtain ⟨Bk, hBk⟩ : ∃ Bk : LoopState → Option Code → World → Prop, Bk = fun st pe W => W.heap[D + 1]? = some (.loop (rc st pe)) ∧ W.heap[D]? = some (.deferred (some [])) := ⟨_, rfl⟩
  have bkeep : ∀ {st pe X Y}, Bk st pe X → KeepsFrom D X Y → Bk st pe Y := fun {st pe X Y} h hk => by
    rw [hBk] at h ⊢
    exact ⟨hk.same _ _ (by omega) h.1 rfl, hk.same _ _ (Nat.le_refl _) h.2 rfl⟩
  have bput : ∀ {st pe X} (st' : LoopState) (pe' : Option Code), Bk st pe X → Bk st' pe' (X.putObj (D + 1) (.loop (rc st' pe'))) := fun {st pe X} st' pe' h => by
    rw [hBk] at h ⊢
    exact ⟨World.putObj_heap_same (Array.getElem?_eq_some_iff.1 h.1).1, (World.putObj_heap_other (by omega)).trans h.2⟩
  have bat : ∀ {st pe X}, Bk st pe X → X.heap[D + 1]? = some (.loop (rc st pe)) := fun {st pe X} h => by rw [hBk] at h; exact h.1
  have bdef : ∀ {st pe X}, Bk st pe X → X.heap[D]? = some (.deferred (some [])) := fun {st pe X} h => by rw [hBk] at h; exact h.2
  obtain ⟨W1, hW1⟩ : ∃ W1, W1 = (w.alloc (.deferred (some []))).alloc (.loop (rc .ready none)) := ⟨_, rfl⟩
  have hB1 : Below w.heap.size w W1 := by rw [hW1]; exact ((Below.refl _ w).alloc (Nat.le_refl _) _).alloc (by simp) _
  have hk1 : Bk .ready none W1 := by
    rw [hBk, hW1, hD]
    refine ⟨?_, (Below.heap_alloc _ _ _ (by simp)).trans (World.alloc_heap_new w _)⟩
    have := World.alloc_heap_new (w.alloc (.deferred (some []))) (.loop (rc .ready none))
    rwa [World.size_alloc] at this
  subst hD
  refine ⟨w.heap.size + 1, [{ target := .collected w.heap.size, args := #[] }], W1, { target := .fn (.func gf) lb, args := #[.func (.yield (w.heap.size + 1)) #[] #[]] }, W1, gf, #[.func (.yield (w.heap.size + 1)) #[] #[]] ++ lb, W1, ?_, ?_, ?_, ?_, fun _ => h1, ?_⟩
  · rw [hW1, hrc]; exact run_enterLoop_outer _ _ _ _ _
  · simp only [resolve, hg]; simp [go_sem]
  · intro f' hf'; simp [Target.leads] at hf'; subst hf'; exact hFg
  · simp [invoke, go_sem, eg]
  refine (hseq (w.heap.size + 1) (fun k W => I k W ∧ Bk .ready none W) (fun W => ∃ c, Ix c W ∧ Bk .done (some c) W) W1 (hb0.trans (hB1.mono hb0.size))
    (fun k X Y hs hb => ⟨onBelow hI hs.1 hb, bkeep hs.2 (belowKeeps hb _)⟩) (fun k X hs => hN k X hs.1) ?_ ⟨onBelow hI h0 hB1, hk1⟩).mono ?_
  · -- a round
    rintro k x X ⟨hi, hb⟩ hx
    have hy := run_yield (P := P) (args := encs x) (bat hb) (by rw [hrc]; exact hps x)
    have hfn' : (rc .ready none).fn = fn := by rw [hrc]
    refine ⟨_, _, _, _, hy, roundIn_of_wpIn (by rw [hfn']; exact hfn) ?_⟩
    have h2 := hassign (w.heap.size + 1) k x X
    rw [hrc]
    refine h2 _ hi hx fun a' Y hk hp ha => ?_
    have hbY := bkeep hb hk
    have hst : (rc .ready none).state = .ready := by rw [hrc]
    have hbr := run_beginRound (P := P) (bat hbY) hst
    have hbz := bput .busy none hbY
    have hbusy : { rc .ready none with state := .busy } = rc .busy none := by rw [hrc]
    rw [hbusy] at hbr
    refine ⟨_, hbr, wpIn_mono (hbody _ k x a' _ (hAx.putObj _ ha (by omega) (bat hbY) rfl)) ?_⟩
    have hp1 : Kp X (Y.putObj (w.heap.size + 1) (.loop (rc .busy none))) := hKt hp (hKb _ _ _ _ (by omega) (bat hbY) rfl rfl)
    have fin : ∀ (j : Option Code) (Z : World), Bk .busy none Z → (Instr.endRound (w.heap.size + 1) j).run P Z = .ok (.bool j.isNone) (Z.putObj (w.heap.size + 1) (.loop (rc (if j.isNone then .ready else .done) j))) := fun j Z hz => by
      have := run_endRound (P := P) j (bat hz)
      rw [hrc] at this ⊢
      exact this
    rintro e a3 Z hpost
    cases e with
    | normal =>
      obtain ⟨hk3, hp3, hi3⟩ := hpost
      have hz := bkeep hbz hk3
      exact ⟨_, _, fin none Z hz, .inl ⟨rfl, ⟨hI.putObj _ hi3 (by omega) (bat hz) rfl, bput .ready none hz⟩, hKt (hKt hp1 hp3) (hKb _ _ _ _ (by omega) (bat hz) rfl rfl)⟩⟩
    | ret =>
      obtain ⟨hk3, hi3⟩ := hpost
      have hz := bkeep hbz hk3
      exact ⟨_, _, fin (some .ret) Z hz, .inr ⟨rfl, .ret, hIx.putObj _ hi3 (by omega) (bat hz) rfl, bput .done _ hz⟩⟩
    | exit id =>
      obtain ⟨hk3, hi3⟩ := hpost
      have hz := bkeep hbz hk3
      exact ⟨_, _, fin (some (.exit id)) Z hz, .inr ⟨rfl, .exit id, hIx.putObj _ hi3 (by omega) (bat hz) rfl, bput .done _ hz⟩⟩
    | goto t => exact hpost.elim
    | panic ch => exact hpost.elim
    | outgrown => exact hpost.elim
  · -- behind the iterator
    rintro e Y ⟨⟨v, rfl⟩, c, hi, hb⟩
    have hst : (rc .done (some c)).state ≠ .busy := by rw [hrc]; simp
    have he := run_endLoop (P := P) (bat hb) hst
    refine ⟨some c, _, by have h3 : (rc .done (some c)).pending = some c := by rw [hrc]
                          rw [h3] at he; exact he, ?_⟩
    exact hstop _ c _ (Nat.le_refl _) (hIx.putObj _ hi (by omega) (bat hb) rfl) ((World.putObj_heap_other (by omega)).trans (bdef hb))
end Go.Proofs.YtgfhniiidejmoaaGreatDoor
