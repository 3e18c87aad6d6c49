/- Contracts of the reference of wide: Neg, Compare, Add, Sub. -/
import Derived.Test.YtgfhniiidejmoaaGreatDoorB16
import Derived.Test.YtgfhniiidejmoaaGreatDoorB14
import Derived.Deep.RegionHeld3
import Derived.Deep.DeepMust
namespace Go.Proofs.YtgfhniiidejmoaaGreatDoor
open Go.RowKit
set_option linter.unusedVariables false

/-- a new integer of the reference -/
def NewN (z : Int) (w : World) (e : Ending) (w' : World) : Prop := ∃ v, e = .returned v ∧ RepN w' w'.heap.size z v ∧ Below w.heap.size w w'
/-- an integer of the reference, taken apart -/
theorem RepN.parts {w : World} {B : Nat} {z : Int} {v : Value} (h : RepN w B z v) {k m : Nat} (hz : Bits k z) (hk : k ≤ 13 * m) :
    ∃ A n c zs, v = .agg #[.bool (decide (z < 0)), .slice A n c] ∧ Sl .i64 w B A n zs ∧ n ≤ c ∧ c ≤ maxLen ∧ (A = none → c = 0) ∧ Dig 10000 zs ∧ Top zs ∧ dv 10000 zs = (z.natAbs : Int) ∧ n ≤ m := by
  obtain ⟨A, n, c, zs, h1, h2, h3, h4, h5, h6, h7, h8⟩ := h
  exact ⟨A, n, c, zs, h1, h2, h3, h4, h5, h6, h7, h8, by rw [← h2.len]; exact Bits.len4 h6 h7 h8 hz hk⟩


/-- numbers do not lie in a block of a sign and a slice -/
theorem Sl.off_blk {k : IntKind} {w w' : World} {B n R : Nat} {A : Option Addr} {zs : List Int} {b0 : Bool} {A0 : Option Addr} {n0 k0 : Nat} {t : TypeId} (h : Sl k w B A n zs)
    (hk : Blk2 w R t (.bool b0) (.slice A0 n0 k0)) (hw : ∀ g, g ≠ R → w'.heap[g]? = w.heap[g]?) : Sl k w' B A n zs := by
  refine ⟨h.1, ?_⟩
  rcases h.2 with h0 | ⟨b, off, rfl, hlt, hc⟩
  · exact .inl h0
  · refine .inr ⟨b, off, rfl, hlt, fun j hj => ?_⟩
    have hne : b ≠ R := by
      rintro rfl
      have h1 := hc j hj
      unfold Blk2 at hk
      simp only [World.cell?, hk] at h1
      rcases Nat.lt_or_ge (off + j) 2 with h2 | h2
      · rcases (show off + j = 0 ∨ off + j = 1 by omega) with h3 | h3 <;> rw [h3] at h1 <;> simp at h1
      · simp at h1
        rw [List.getElem?_eq_none (by simpa using h2)] at h1
        cases h1
    exact (World.cell?_of_block (w := w) (a := ⟨b, off + j, none⟩) (hw b hne)).trans (hc j hj)
theorem set2_heap (w : World) (R : Nat) (u v : Value) : ∀ g, g ≠ R → ((w.setCell ⟨R, 0, none⟩ u).setCell ⟨R, 1, none⟩ v).heap[g]? = w.heap[g]? := fun g hg =>
  (Below.heap_setCell _ ⟨R, 1, none⟩ v g hg).trans (Below.heap_setCell _ ⟨R, 0, none⟩ u g hg)
theorem RepN.shape {w : World} {B : Nat} {z : Int} {v : Value} (h : RepN w B z v) : ∃ d A n c, v = .agg #[.bool d, .slice A n c] := by
  obtain ⟨A, n, c, zs, rfl, _⟩ := h
  exact ⟨_, A, n, c, rfl⟩
theorem RepN.stored {w : World} {B R : Nat} {z : Int} {v u u' : Value} {b0 : Bool} {A0 : Option Addr} {n0 k0 : Nat} {t : TypeId} (h : RepN w B z v) (hk : Blk2 w R t (.bool b0) (.slice A0 n0 k0)) :
    RepN ((w.setCell ⟨R, 0, none⟩ u).setCell ⟨R, 1, none⟩ u') B z v := by
  obtain ⟨A, n, c, zs, h1, h2, h3⟩ := h
  exact ⟨A, n, c, zs, h1, h2.off_blk hk (set2_heap _ _ _ _), h3⟩
theorem newN_ret {w w1 : World} {z : Int} {R : Nat} {t : TypeId} {b0 : Bool} {A0 : Option Addr} {n0 k0 : Nat} {A : Option Addr} {n c : Nat} {d : Bool}
    (h : RepN w1 w1.heap.size z (.agg #[.bool d, .slice A n c])) (hk : Blk2 w1 R t (.bool b0) (.slice A0 n0 k0)) (hb : Below w.heap.size w w1) (hR : w.heap.size ≤ R) :
    NewN z w (.returned (.agg #[.bool d, .slice A n c])) ((w1.setCell ⟨R, 0, none⟩ (.bool d)).setCell ⟨R, 1, none⟩ (.slice A n c)) :=
  ⟨_, rfl, by have := h.stored (u := .bool d) (u' := .slice A n c) hk; simpa [World.setCell] using this, (hb.setCell (p := ⟨R, 0, none⟩) hR _).setCell (p := ⟨R, 1, none⟩) hR _⟩

/-- new digits of the reference -/
def NewD (x : Int) (mx : Nat) (w : World) (e : Ending) (w' : World) : Prop :=
  ∃ A c l, e = .returned (.slice A l.length c) ∧ Sl .i64 w' w'.heap.size A l.length l ∧ l.length ≤ c ∧ c ≤ maxLen ∧ (A = none → c = 0) ∧ Below w.heap.size w w' ∧ Dig 10000 l ∧ dv 10000 l = x ∧ l.length ≤ mx ∧ ∀ ad, A = some ad → w.heap.size ≤ ad.block
theorem NewD.of_own {x : Int} {mx : Nat} {w w' : World} {e : Ending} (h : OwnD w x e w' mx) : NewD x mx w e w' := by
  obtain ⟨v, l, rfl, ho, hb, hd, hv, hl⟩ := h
  obtain ⟨A, c, rfl, h1, h2, h3⟩ := Sl.of_own ho
  refine ⟨A, c, l, rfl, h3, h1, h2, ?_, hb, hd, hv, hl, ?_⟩
  · rintro rfl
    rcases ho.2 with ⟨h4, _⟩ | ⟨g, cap, cur, h4, _⟩
    · injection h4
    · injection h4 with h4; cases h4
  · rintro ad rfl
    exact (ho.lt ad.block rfl).1
/-- what a sum of the reference holds while it is made -/
def AddS (w0 : World) (A E : Option Addr) (n m R : Nat) (zs ys : List Int) (w : World) : Prop :=
  Sl .i64 w w.heap.size A n zs ∧ Sl .i64 w w.heap.size E m ys ∧ Below w0.heap.size w0 w ∧ Blk2 w R 26 (.bool false) (.slice none 0 0)
theorem AddS.drew {w0 : World} {A E : Option Addr} {n m R : Nat} {zs ys : List Int} {w : World} (h : AddS w0 A E n m R zs ys w) : AddS w0 A E n m R zs ys w.drew := ⟨h.1, h.2.1, h.2.2.1.drew, h.2.2.2⟩
theorem AddS.drewN {w0 : World} {A E : Option Addr} {n m R : Nat} {zs ys : List Int} {w : World} (h : AddS w0 A E n m R zs ys w) (q : Nat) : AddS w0 A E n m R zs ys (w.drewN q) := ⟨h.1, h.2.1, below_drewN h.2.2.1 q, h.2.2.2⟩
theorem AddS.below {w0 : World} {A E : Option Addr} {n m R : Nat} {zs ys : List Int} {w w' : World} (h : AddS w0 A E n m R zs ys w) (hb : Below w.heap.size w w') : AddS w0 A E n m R zs ys w' :=
  ⟨(h.1.below hb).more hb.size, (h.2.1.below hb).more hb.size, h.2.2.1.trans (hb.mono h.2.2.1.size), h.2.2.2.below hb⟩
theorem AddS.sl1 {w0 : World} {A E : Option Addr} {n m R : Nat} {zs ys : List Int} {w : World} (h : AddS w0 A E n m R zs ys w) : Sl .i64 w w.heap.size A n zs := h.1
theorem AddS.sl2 {w0 : World} {A E : Option Addr} {n m R : Nat} {zs ys : List Int} {w : World} (h : AddS w0 A E n m R zs ys w) : Sl .i64 w w.heap.size E m ys := h.2.1
theorem AddS.blk {w0 : World} {A E : Option Addr} {n m R : Nat} {zs ys : List Int} {w : World} (h : AddS w0 A E n m R zs ys w) : Blk2 w R 26 (.bool false) (.slice none 0 0) := h.2.2.2
theorem AddS.bel {w0 : World} {A E : Option Addr} {n m R : Nat} {zs ys : List Int} {w : World} (h : AddS w0 A E n m R zs ys w) : Below w0.heap.size w0 w := h.2.2.1
theorem below_undrew {B : Nat} {w w' : World} (h : Below B w.drew w') : Below B w w' := ⟨h.os, h.tape, h.output, h.size, h.block⟩
theorem cell_set2 {w : World} {b o R : Nat} {v u u' : Value} (h : w.cell? ⟨b, o, none⟩ = some v) (hne : b ≠ R) : ((w.setCell ⟨R, 0, none⟩ u).setCell ⟨R, 1, none⟩ u').cell? ⟨b, o, none⟩ = some v :=
  (World.cell?_of_block (w := w) (a := ⟨b, o, none⟩) (set2_heap w R u u' b hne)).trans h
theorem cell_lt {w : World} {b o : Nat} {v : Value} (h : w.cell? ⟨b, o, none⟩ = some v) : b < w.heap.size := by
  rcases Nat.lt_or_ge b w.heap.size with hlt | hge
  · exact hlt
  · simp [World.cell?, Array.getElem?_eq_none hge] at h
theorem cell_below {w w' : World} {b o : Nat} {v : Value} (h : w.cell? ⟨b, o, none⟩ = some v) (hb : Below w.heap.size w w') : w'.cell? ⟨b, o, none⟩ = some v := (hb.cell (p := ⟨b, o, none⟩) (cell_lt h)).trans h

set_option maxHeartbeats 1000000 in
theorem add_same (x y : Int) (u v : Value) (w : World) (hx : RepN w w.heap.size x u) (hy : RepN w w.heap.size y v) (bx : Bits 200000 x) (by_ : Bits 200000 y) (hxy : decide (x < 0) = decide (y < 0)) :
    Calls Tryz.prog 21 #[u, v] w (NewN (x + y) w) := by
  obtain ⟨A, n, c, zs, rfl, hs, hn, hc, hA, hd, ht, hv, hl⟩ := hx.parts (m := 20000) bx (by omega)
  obtain ⟨E, m, f, ys, rfl, ks, km, kf, kE, kd, kt, kv, kl⟩ := hy.parts (m := 20000) by_ (by omega)
  have HZ : Hid ((if decide (x < 0) = true then -(dv 10000 zs + dv 10000 ys) else dv 10000 zs + dv 10000 ys) = x + y) := by
    rw [hv, kv]
    show (if decide (x < 0) = true then -((x.natAbs : Int) + (y.natAbs : Int)) else (x.natAbs : Int) + (y.natAbs : Int)) = x + y
    have h2 : x < 0 ↔ y < 0 := by simpa using hxy
    by_cases h : x < 0 <;> simp [h] <;> omega
  obtain ⟨b, hb⟩ : ∃ b, b = decide (x < 0) := ⟨_, rfl⟩
  rw [← hxy, ← hb]
  rw [← hb] at HZ
  have hal : ∀ o1 o2 o3 : Obj, Below w.heap.size w (((w.alloc o1).alloc o2).alloc o3) := fun o1 o2 o3 => (((Below.refl _ _).alloc (Nat.le_refl _) _).alloc (by simp) _).alloc (by simp; omega) _
  obtain ⟨W1, hW1⟩ : ∃ W1, W1 = (w.alloc (.cells #[.bool b, .slice A n c] 26)).alloc (.cells #[.bool b, .slice E m f] 26) := ⟨_, rfl⟩
  have e1 : W1.heap.size = w.heap.size + 1 + 1 := by rw [hW1, World.size_alloc, World.size_alloc]
  have p1 : Blk2 W1 w.heap.size 26 (.bool b) (.slice A n c) := by rw [hW1]; exact (Blk2.new w _ _ _).below ((Below.refl _ _).alloc (Nat.le_refl _) _)
  have p2 : Blk2 W1 (w.heap.size + 1) 26 (.bool b) (.slice E m f) := by rw [hW1]; have := Blk2.new (w.alloc (.cells #[.bool b, .slice A n c] 26)) 26 (.bool b) (.slice E m f); rwa [World.size_alloc] at this
  have hW2 : W1.alloc (.cells #[.bool false, .slice none 0 0] 26) = ((w.alloc (.cells #[.bool b, .slice A n c] 26)).alloc (.cells #[.bool b, .slice E m f] 26)).alloc (.cells #[.bool false, .slice none 0 0] 26) := by rw [hW1]
  have b2 := hal (.cells #[.bool b, .slice A n c] 26) (.cells #[.bool b, .slice E m f] 26) (.cells #[.bool false, .slice none 0 0] 26)
  rw [← hW2] at b2
  have b3 : Below W1.heap.size W1 (W1.alloc (.cells #[.bool false, .slice none 0 0] 26)) := (Below.refl _ _).alloc (Nat.le_refl _) _
  have p3 := Blk2.new W1 26 (.bool false) (.slice none 0 0)
  have q1 := p1.below b3
  have q2 := p2.below b3
  obtain ⟨W2, hW2'⟩ : ∃ W2, W2 = W1.alloc (.cells #[.bool false, .slice none 0 0] 26) := ⟨_, rfl⟩
  rw [← hW2'] at hW2 b2 p3 q1 q2
  rw [e1] at p3
  have H0 := Lib.hid (show AddS w A E n m (w.heap.size + 1 + 1) zs ys W2 from ⟨(hs.below b2).more b2.size, (ks.below b2).more b2.size, b2, p3⟩)
  have HW := Lib.hid hW2
  have HC1 := Lib.hid q1.c0
  have HC2 := Lib.hid q1.c1
  have HC3 := Lib.hid q2.c1
  have HD := Lib.hid hd
  have KD := Lib.hid kd
  clear hb hs ks hd kd hv kv hA kE hal hxy bx by_ hx hy b2 p3 q1 q2 hW2 hW2' p1 p2 e1 hW1 b3
  go_enter Tryz.func21, Tryz.ntmps21
  go_wp2_with fail
  rw [← HW.out]
  have g1 := HC1.out
  have g2 := HC2.out
  have g3 := HC3.out
  have hH := H0.out
  clear HW HC1 HC2 HC3 H0
  go_region_held3 (fun w' => w'.cell? ⟨w.heap.size, 0, none⟩ = some (.bool b) ∧ w'.cell? ⟨w.heap.size, 1, none⟩ = some (.slice A n c) ∧ w'.cell? ⟨w.heap.size + 1, 1, none⟩ = some (.slice E m f))
    (exact ⟨by first | assumption | (simp only [World.cell?_drew]; assumption) | exact cell_set2 (by assumption) (by omega), by first | assumption | (simp only [World.cell?_drew]; assumption) | exact cell_set2 (by assumption) (by omega), by first | assumption | (simp only [World.cell?_drew]; assumption) | exact cell_set2 (by assumption) (by omega)⟩)
    (first
      | (go_at_call 44
         refine ((plus_any A E n c m f zs ys _ (by first | exact hH.sl1 | exact hH.drew.sl1) (by first | exact hH.sl2 | exact hH.drew.sl2) (by omega) (by omega) HD.out KD.out).mono (fun _ _ h => NewD.of_own h)).mono ?_
         rintro e w3 ⟨A3, c3, l3, rfl, s3, n3, m3, a3, b3, d3, v3, l3'⟩
         have S3 := Lib.hid s3
         have V3 := Lib.hid v3
         have A3' := Lib.hid a3
         have b3 : Below W2.heap.size W2 w3 := by first | exact b3 | exact below_undrew b3
         have hH3 : AddS w A E n m (w.heap.size + 1 + 1) zs ys w3 := hH.below b3
         have k1 : w3.cell? ⟨w.heap.size, 0, none⟩ = some (.bool b) := cell_below g1 b3
         have k2 : w3.cell? ⟨w.heap.size, 1, none⟩ = some (.slice A n c) := cell_below g2 b3
         have k3 : w3.cell? ⟨w.heap.size + 1, 1, none⟩ = some (.slice E m f) := cell_below g3 b3
         clear s3 v3 a3 b3)
      | (go_at_call 22
         refine (normal_any b A3 l3.length c3 w3.heap.size l3 _ (by exact S3.out) (Nat.le_refl _) n3 m3 A3'.out d3).mono ?_
         rintro e w4 h4
         obtain ⟨v4, rfl, hr, b4⟩ := h4
         obtain ⟨d4, A4, n4, q4, rfl⟩ := hr.shape
         have b4 : Below w3.heap.size w3 w4 := by first | exact b4 | exact below_undrew b4
         have hH4 : AddS w A E n m (w.heap.size + 1 + 1) zs ys w4 := hH3.below b4
         have j1 : w4.cell? ⟨w.heap.size, 0, none⟩ = some (.bool b) := cell_below k1 b4
         have j2 : w4.cell? ⟨w.heap.size, 1, none⟩ = some (.slice A n c) := cell_below k2 b4
         have j3 : w4.cell? ⟨w.heap.size + 1, 1, none⟩ = some (.slice E m f) := cell_below k3 b4
         have c0 := hH4.blk.c0
         have c1 := hH4.blk.c1
         have f0 := hH4.blk.f0
         have f1 := hH4.blk.f1
         have HF := Lib.hid (newN_ret (hr.more b4.size) hH4.blk hH4.bel (by omega))
         clear hr b4))
  go_wp2_with fail
  exact bodyPost_ret (v := .agg #[.bool d4, .slice A4 n4 q4]) (by simp [results, Tryz.results21, go_sem, c0, c1]) rfl (by have h := HF.out; rw [V3.out, HZ.out] at h; exact h)
set_option maxHeartbeats 1000000 in
theorem add_lt (x y : Int) (u v : Value) (w : World) (hx : RepN w w.heap.size x u) (hy : RepN w w.heap.size y v) (bx : Bits 200000 x) (by_ : Bits 200000 y) (hxy : decide (x < 0) = !decide (y < 0)) (hlt : (x.natAbs : Int) < (y.natAbs : Int)) :
    Calls Tryz.prog 21 #[u, v] w (NewN (x + y) w) := by
  obtain ⟨A, n, c, zs, rfl, hs, hn, hc, hA, hd, ht, hv, hl⟩ := hx.parts (m := 20000) bx (by omega)
  obtain ⟨E, m, f, ys, rfl, ks, km, kf, kE, kd, kt, kv, kl⟩ := hy.parts (m := 20000) by_ (by omega)
  have HZ : Hid ((if decide (y < 0) = true then -(dv 10000 ys - dv 10000 zs) else dv 10000 ys - dv 10000 zs) = x + y) := by
    rw [hv, kv]
    show (if decide (y < 0) = true then -((y.natAbs : Int) - (x.natAbs : Int)) else (y.natAbs : Int) - (x.natAbs : Int)) = x + y
    by_cases h : y < 0
    · have h3 : ¬ x < 0 := by rw [decide_eq_true h] at hxy; simpa using hxy
      simp [h]; omega
    · have h3 : x < 0 := by rw [decide_eq_false h] at hxy; simpa using hxy
      simp [h]; omega
  have HT : Hid (cmpI (dv 10000 zs) (dv 10000 ys) = -1) := by
    rw [hv, kv]
    exact if_pos hlt
  have HLE : Hid (dv 10000 zs ≤ dv 10000 ys) := by
    show dv 10000 zs ≤ dv 10000 ys
    rw [hv, kv]; omega
  have hmn : n ≤ m := by
    rcases Nat.lt_or_ge m n with h1 | h1
    · have := len_lt (show (1 : Int) < 10000 by omega) kd hd ht (by rw [hs.len, ks.len]; exact h1)
      rw [hv, kv] at this
      omega
    · exact h1
  obtain ⟨b, hb⟩ : ∃ b, b = decide (y < 0) := ⟨_, rfl⟩
  rw [hxy, ← hb]
  rw [← hb] at HZ
  have hal : ∀ o1 o2 o3 : Obj, Below w.heap.size w (((w.alloc o1).alloc o2).alloc o3) := fun o1 o2 o3 => (((Below.refl _ _).alloc (Nat.le_refl _) _).alloc (by simp) _).alloc (by simp; omega) _
  obtain ⟨W1, hW1⟩ : ∃ W1, W1 = (w.alloc (.cells #[.bool (!b), .slice A n c] 26)).alloc (.cells #[.bool b, .slice E m f] 26) := ⟨_, rfl⟩
  have e1 : W1.heap.size = w.heap.size + 1 + 1 := by rw [hW1, World.size_alloc, World.size_alloc]
  have p1 : Blk2 W1 w.heap.size 26 (.bool (!b)) (.slice A n c) := by rw [hW1]; exact (Blk2.new w _ _ _).below ((Below.refl _ _).alloc (Nat.le_refl _) _)
  have p2 : Blk2 W1 (w.heap.size + 1) 26 (.bool b) (.slice E m f) := by rw [hW1]; have := Blk2.new (w.alloc (.cells #[.bool (!b), .slice A n c] 26)) 26 (.bool b) (.slice E m f); rwa [World.size_alloc] at this
  have hW2 : W1.alloc (.cells #[.bool false, .slice none 0 0] 26) = ((w.alloc (.cells #[.bool (!b), .slice A n c] 26)).alloc (.cells #[.bool b, .slice E m f] 26)).alloc (.cells #[.bool false, .slice none 0 0] 26) := by rw [hW1]
  have b2 := hal (.cells #[.bool (!b), .slice A n c] 26) (.cells #[.bool b, .slice E m f] 26) (.cells #[.bool false, .slice none 0 0] 26)
  rw [← hW2] at b2
  have b3 : Below W1.heap.size W1 (W1.alloc (.cells #[.bool false, .slice none 0 0] 26)) := (Below.refl _ _).alloc (Nat.le_refl _) _
  have p3 := Blk2.new W1 26 (.bool false) (.slice none 0 0)
  have q1 := p1.below b3
  have q2 := p2.below b3
  obtain ⟨W2, hW2'⟩ : ∃ W2, W2 = W1.alloc (.cells #[.bool false, .slice none 0 0] 26) := ⟨_, rfl⟩
  rw [← hW2'] at hW2 b2 p3 q1 q2
  rw [e1] at p3
  have H0 := Lib.hid (show AddS w A E n m (w.heap.size + 1 + 1) zs ys W2 from ⟨(hs.below b2).more b2.size, (ks.below b2).more b2.size, b2, p3⟩)
  have HW := Lib.hid hW2
  have HC1 := Lib.hid q1.c0
  have HC2 := Lib.hid q1.c1
  have HC3 := Lib.hid q2.c1
  have HC4 := Lib.hid q2.c0
  have HD := Lib.hid hd
  have KD := Lib.hid kd
  clear hb hs ks hd kd hv kv hA kE hal hxy bx by_ hx hy b2 p3 q1 q2 hW2 hW2' p1 p2 e1 hW1 b3
  have HCMP := Lib.hid (fun (q : Nat) => compared_any A E n c m f zs ys W2 H0.out.sl1 H0.out.sl2 (by omega) (by omega) HD.out KD.out ht kt)
  obtain ⟨C, hC⟩ : ∃ C, C = cmpI (dv 10000 zs) (dv 10000 ys) := ⟨_, rfl⟩
  rw [← hC] at HCMP HT
  have hT := HT.out
  clear hC ht kt
  go_enter Tryz.func21, Tryz.ntmps21
  go_wp2_with fail
  rw [← HW.out]
  refine (HCMP.out 0).mono ?_
  rintro e w3 ⟨rfl, q, rfl⟩
  go_wp2_with fail
  obtain ⟨W5, hW5⟩ : ∃ W5, W5 = W2.drewN q := ⟨_, rfl⟩
  rw [← hW5]
  have hH : AddS w A E n m (w.heap.size + 1 + 1) zs ys W5 := by rw [hW5]; exact H0.out.drewN q
  have g0 : W5.cell? ⟨w.heap.size + 1, 0, none⟩ = some (.bool b) := by rw [hW5]; exact HC4.out
  have g1 : W5.cell? ⟨w.heap.size + 1, 1, none⟩ = some (.slice E m f) := by rw [hW5]; exact HC3.out
  have g2 : W5.cell? ⟨w.heap.size, 1, none⟩ = some (.slice A n c) := by rw [hW5]; exact HC2.out
  clear hW5 HW HC1 HC2 HC3 HC4 H0 HCMP HT
  go_region_held3 (fun w' => w'.cell? ⟨w.heap.size + 1, 0, none⟩ = some (.bool b) ∧ w'.cell? ⟨w.heap.size + 1, 1, none⟩ = some (.slice E m f) ∧ w'.cell? ⟨w.heap.size, 1, none⟩ = some (.slice A n c))
    (exact ⟨by first | assumption | (simp only [World.cell?_drew]; assumption) | exact cell_set2 (by assumption) (by omega), by first | assumption | (simp only [World.cell?_drew]; assumption) | exact cell_set2 (by assumption) (by omega), by first | assumption | (simp only [World.cell?_drew]; assumption) | exact cell_set2 (by assumption) (by omega)⟩)
    (first
      | (go_at_call 46
         refine ((minus_any E A m f n c ys zs _ (by first | exact hH.sl2 | exact hH.drew.sl2) (by first | exact hH.sl1 | exact hH.drew.sl1) (by omega) (by omega) KD.out HD.out HLE.out).mono (fun _ _ h => NewD.of_own h)).mono ?_
         rintro e w3 ⟨A3, c3, l3, rfl, s3, n3, m3, a3, b3, d3, v3, l3'⟩
         have S3 := Lib.hid s3
         have V3 := Lib.hid v3
         have A3' := Lib.hid a3
         have b3 : Below W5.heap.size W5 w3 := by first | exact b3 | exact below_undrew b3
         have hH3 : AddS w A E n m (w.heap.size + 1 + 1) zs ys w3 := hH.below b3
         have k0 : w3.cell? ⟨w.heap.size + 1, 0, none⟩ = some (.bool b) := cell_below g0 b3
         have k1 : w3.cell? ⟨w.heap.size + 1, 1, none⟩ = some (.slice E m f) := cell_below g1 b3
         have k2 : w3.cell? ⟨w.heap.size, 1, none⟩ = some (.slice A n c) := cell_below g2 b3
         clear s3 v3 a3 b3)
      | (go_at_call 22
         refine (normal_any b A3 l3.length c3 w3.heap.size l3 _ (by exact S3.out) (Nat.le_refl _) n3 m3 A3'.out d3).mono ?_
         rintro e w4 h4
         obtain ⟨v4, rfl, hr, b4⟩ := h4
         obtain ⟨d4, A4, n4, q4, rfl⟩ := hr.shape
         have b4 : Below w3.heap.size w3 w4 := by first | exact b4 | exact below_undrew b4
         have hH4 : AddS w A E n m (w.heap.size + 1 + 1) zs ys w4 := hH3.below b4
         have j0 : w4.cell? ⟨w.heap.size + 1, 0, none⟩ = some (.bool b) := cell_below k0 b4
         have j1 : w4.cell? ⟨w.heap.size + 1, 1, none⟩ = some (.slice E m f) := cell_below k1 b4
         have j2 : w4.cell? ⟨w.heap.size, 1, none⟩ = some (.slice A n c) := cell_below k2 b4
         have c0 := hH4.blk.c0
         have c1 := hH4.blk.c1
         have f0 := hH4.blk.f0
         have f1 := hH4.blk.f1
         have HF := Lib.hid (newN_ret (hr.more b4.size) hH4.blk hH4.bel (by omega))
         clear hr b4))
  go_wp2_with fail
  exact bodyPost_ret (v := .agg #[.bool d4, .slice A4 n4 q4]) (by simp [results, Tryz.results21, go_sem, c0, c1]) rfl (by have h := HF.out; rw [V3.out, HZ.out] at h; exact h)

set_option maxHeartbeats 1000000 in
theorem add_ge (x y : Int) (u v : Value) (w : World) (hx : RepN w w.heap.size x u) (hy : RepN w w.heap.size y v) (bx : Bits 200000 x) (by_ : Bits 200000 y) (hxy : decide (y < 0) = !decide (x < 0)) (hlt : ¬ (x.natAbs : Int) < (y.natAbs : Int)) :
    Calls Tryz.prog 21 #[u, v] w (NewN (x + y) w) := by
  obtain ⟨A, n, c, zs, rfl, hs, hn, hc, hA, hd, ht, hv, hl⟩ := hx.parts (m := 20000) bx (by omega)
  obtain ⟨E, m, f, ys, rfl, ks, km, kf, kE, kd, kt, kv, kl⟩ := hy.parts (m := 20000) by_ (by omega)
  have HZ : Hid ((if decide (x < 0) = true then -(dv 10000 zs - dv 10000 ys) else dv 10000 zs - dv 10000 ys) = x + y) := by
    rw [hv, kv]
    show (if decide (x < 0) = true then -((x.natAbs : Int) - (y.natAbs : Int)) else (x.natAbs : Int) - (y.natAbs : Int)) = x + y
    by_cases h : x < 0
    · have h3 : ¬ y < 0 := by rw [decide_eq_true h] at hxy; simpa using hxy.symm
      simp [h]; omega
    · have h3 : y < 0 := by rw [decide_eq_false h] at hxy; simpa using hxy.symm
      simp [h]; omega
  have HT : Hid (cmpI (dv 10000 zs) (dv 10000 ys) ≠ -1) := by
    rw [hv, kv]
    show cmpI _ _ ≠ -1; unfold cmpI; rw [if_neg hlt]; split <;> omega
  have HLE : Hid (dv 10000 ys ≤ dv 10000 zs) := by
    show dv 10000 ys ≤ dv 10000 zs
    rw [hv, kv]; omega
  have hmn : m ≤ n := by
    rcases Nat.lt_or_ge n m with h1 | h1
    · have := len_lt (show (1 : Int) < 10000 by omega) hd kd kt (by rw [hs.len, ks.len]; exact h1)
      rw [hv, kv] at this
      omega
    · exact h1
  obtain ⟨b, hb⟩ : ∃ b, b = decide (x < 0) := ⟨_, rfl⟩
  rw [hxy, ← hb]
  rw [← hb] at HZ
  have hal : ∀ o1 o2 o3 : Obj, Below w.heap.size w (((w.alloc o1).alloc o2).alloc o3) := fun o1 o2 o3 => (((Below.refl _ _).alloc (Nat.le_refl _) _).alloc (by simp) _).alloc (by simp; omega) _
  obtain ⟨W1, hW1⟩ : ∃ W1, W1 = (w.alloc (.cells #[.bool b, .slice A n c] 26)).alloc (.cells #[.bool (!b), .slice E m f] 26) := ⟨_, rfl⟩
  have e1 : W1.heap.size = w.heap.size + 1 + 1 := by rw [hW1, World.size_alloc, World.size_alloc]
  have p1 : Blk2 W1 w.heap.size 26 (.bool b) (.slice A n c) := by rw [hW1]; exact (Blk2.new w _ _ _).below ((Below.refl _ _).alloc (Nat.le_refl _) _)
  have p2 : Blk2 W1 (w.heap.size + 1) 26 (.bool (!b)) (.slice E m f) := by rw [hW1]; have := Blk2.new (w.alloc (.cells #[.bool b, .slice A n c] 26)) 26 (.bool (!b)) (.slice E m f); rwa [World.size_alloc] at this
  have hW2 : W1.alloc (.cells #[.bool false, .slice none 0 0] 26) = ((w.alloc (.cells #[.bool b, .slice A n c] 26)).alloc (.cells #[.bool (!b), .slice E m f] 26)).alloc (.cells #[.bool false, .slice none 0 0] 26) := by rw [hW1]
  have b2 := hal (.cells #[.bool b, .slice A n c] 26) (.cells #[.bool (!b), .slice E m f] 26) (.cells #[.bool false, .slice none 0 0] 26)
  rw [← hW2] at b2
  have b3 : Below W1.heap.size W1 (W1.alloc (.cells #[.bool false, .slice none 0 0] 26)) := (Below.refl _ _).alloc (Nat.le_refl _) _
  have p3 := Blk2.new W1 26 (.bool false) (.slice none 0 0)
  have q1 := p1.below b3
  have q2 := p2.below b3
  obtain ⟨W2, hW2'⟩ : ∃ W2, W2 = W1.alloc (.cells #[.bool false, .slice none 0 0] 26) := ⟨_, rfl⟩
  rw [← hW2'] at hW2 b2 p3 q1 q2
  rw [e1] at p3
  have H0 := Lib.hid (show AddS w A E n m (w.heap.size + 1 + 1) zs ys W2 from ⟨(hs.below b2).more b2.size, (ks.below b2).more b2.size, b2, p3⟩)
  have HW := Lib.hid hW2
  have HC1 := Lib.hid q1.c0
  have HC2 := Lib.hid q1.c1
  have HC3 := Lib.hid q2.c1
  have HC4 := Lib.hid q2.c0
  have HD := Lib.hid hd
  have KD := Lib.hid kd
  clear hb hs ks hd kd hv kv hA kE hal hxy bx by_ hx hy b2 p3 q1 q2 hW2 hW2' p1 p2 e1 hW1 b3
  have HCMP := Lib.hid (fun (q : Nat) => compared_any A E n c m f zs ys W2 H0.out.sl1 H0.out.sl2 (by omega) (by omega) HD.out KD.out ht kt)
  have HC' := Lib.hid (show -1 ≤ cmpI (dv 10000 zs) (dv 10000 ys) by unfold cmpI; split <;> (try split) <;> omega)
  obtain ⟨C, hC⟩ : ∃ C, C = cmpI (dv 10000 zs) (dv 10000 ys) := ⟨_, rfl⟩
  rw [← hC] at HCMP HT HC'
  have hT : ¬ C < 0 := by have := HT.out; have := HC'.out; omega
  clear hC ht kt
  go_enter Tryz.func21, Tryz.ntmps21
  go_wp2_with fail
  rw [← HW.out]
  refine (HCMP.out 0).mono ?_
  rintro e w3 ⟨rfl, q, rfl⟩
  go_wp2_with fail
  obtain ⟨W5, hW5⟩ : ∃ W5, W5 = W2.drewN q := ⟨_, rfl⟩
  rw [← hW5]
  have hH : AddS w A E n m (w.heap.size + 1 + 1) zs ys W5 := by rw [hW5]; exact H0.out.drewN q
  have g0 : W5.cell? ⟨w.heap.size, 0, none⟩ = some (.bool b) := by rw [hW5]; exact HC1.out
  have g1 : W5.cell? ⟨w.heap.size, 1, none⟩ = some (.slice A n c) := by rw [hW5]; exact HC2.out
  have g2 : W5.cell? ⟨w.heap.size + 1, 1, none⟩ = some (.slice E m f) := by rw [hW5]; exact HC3.out
  clear hW5 HW HC1 HC2 HC3 HC4 H0 HCMP HT
  go_region_held3 (fun w' => w'.cell? ⟨w.heap.size, 0, none⟩ = some (.bool b) ∧ w'.cell? ⟨w.heap.size, 1, none⟩ = some (.slice A n c) ∧ w'.cell? ⟨w.heap.size + 1, 1, none⟩ = some (.slice E m f))
    (exact ⟨by first | assumption | (simp only [World.cell?_drew]; assumption) | exact cell_set2 (by assumption) (by omega), by first | assumption | (simp only [World.cell?_drew]; assumption) | exact cell_set2 (by assumption) (by omega), by first | assumption | (simp only [World.cell?_drew]; assumption) | exact cell_set2 (by assumption) (by omega)⟩)
    (first
      | (go_at_call 46
         refine ((minus_any A E n c m f zs ys _ (by first | exact hH.sl1 | exact hH.drew.sl1) (by first | exact hH.sl2 | exact hH.drew.sl2) (by omega) (by omega) HD.out KD.out HLE.out).mono (fun _ _ h => NewD.of_own h)).mono ?_
         rintro e w3 ⟨A3, c3, l3, rfl, s3, n3, m3, a3, b3, d3, v3, l3'⟩
         have S3 := Lib.hid s3
         have V3 := Lib.hid v3
         have A3' := Lib.hid a3
         have b3 : Below W5.heap.size W5 w3 := by first | exact b3 | exact below_undrew b3
         have hH3 : AddS w A E n m (w.heap.size + 1 + 1) zs ys w3 := hH.below b3
         have k0 : w3.cell? ⟨w.heap.size, 0, none⟩ = some (.bool b) := cell_below g0 b3
         have k1 : w3.cell? ⟨w.heap.size, 1, none⟩ = some (.slice A n c) := cell_below g1 b3
         have k2 : w3.cell? ⟨w.heap.size + 1, 1, none⟩ = some (.slice E m f) := cell_below g2 b3
         clear s3 v3 a3 b3)
      | (go_at_call 22
         refine (normal_any b A3 l3.length c3 w3.heap.size l3 _ (by exact S3.out) (Nat.le_refl _) n3 m3 A3'.out d3).mono ?_
         rintro e w4 h4
         obtain ⟨v4, rfl, hr, b4⟩ := h4
         obtain ⟨d4, A4, n4, q4, rfl⟩ := hr.shape
         have b4 : Below w3.heap.size w3 w4 := by first | exact b4 | exact below_undrew b4
         have hH4 : AddS w A E n m (w.heap.size + 1 + 1) zs ys w4 := hH3.below b4
         have j0 : w4.cell? ⟨w.heap.size, 0, none⟩ = some (.bool b) := cell_below k0 b4
         have j1 : w4.cell? ⟨w.heap.size, 1, none⟩ = some (.slice A n c) := cell_below k1 b4
         have j2 : w4.cell? ⟨w.heap.size + 1, 1, none⟩ = some (.slice E m f) := cell_below k2 b4
         have c0 := hH4.blk.c0
         have c1 := hH4.blk.c1
         have f0 := hH4.blk.f0
         have f1 := hH4.blk.f1
         have HF := Lib.hid (newN_ret (hr.more b4.size) hH4.blk hH4.bel (by omega))
         clear hr b4))
  go_wp2_with fail
  exact bodyPost_ret (v := .agg #[.bool d4, .slice A4 n4 q4]) (by simp [results, Tryz.results21, go_sem, c0, c1]) rfl (by have h := HF.out; rw [V3.out, HZ.out] at h; exact h)

theorem add_any (x y : Int) (u v : Value) (w : World) (hx : RepN w w.heap.size x u) (hy : RepN w w.heap.size y v) (bx : Bits 200000 x) (by_ : Bits 200000 y) :
    Calls Tryz.prog 21 #[u, v] w (NewN (x + y) w) := by
  by_cases h : decide (x < 0) = decide (y < 0)
  · exact add_same x y u v w hx hy bx by_ h
  · by_cases hl : (x.natAbs : Int) < (y.natAbs : Int)
    · exact add_lt x y u v w hx hy bx by_ (by cases h1 : decide (x < 0) <;> cases h2 : decide (y < 0) <;> simp_all) hl
    · exact add_ge x y u v w hx hy bx by_ (by cases h1 : decide (x < 0) <;> cases h2 : decide (y < 0) <;> simp_all) hl
end Go.Proofs.YtgfhniiidejmoaaGreatDoor
