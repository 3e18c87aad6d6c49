/- Layer 4's laws: same. · Contracts of the reference of frac: Mul, Div. · Contracts of the reference of frac: Frac. · Fractions by the bits of their numerators and denominators; contracts of the program for fractions that stay in range; stores into boxes of four cells. -/
import Derived.Test.YtocooajlfpngdaaGreatDoorB42
import Derived.Test.YtocooajlfpngdaaGreatDoorB41
import Derived.Test.YtocooajlfpngdaaGreatDoorB43
import Derived.Test.YtocooajlfpngdaaGreatDoorB35
import Derived.Test.YtocooajlfpngdaaGreatDoorB36
namespace Go.Proofs.YtocooajlfpngdaaGreatDoor
open Go.RowKit
set_option linter.unusedVariables false

set_option maxRecDepth 100000 in
set_option maxHeartbeats 4000000 in
theorem same_law (a : Rat) (u v : Value) (w : World) (ha : RepF w w.heap.size a u) (hb : RepG w w.heap.size a v) (ia : InF a) :
    Calls Tryz.prog 20 #[u, v] w (fun e w' => e = .returned (.bool true) ∧ Below w.heap.size w w') := by
  obtain ⟨P, hP⟩ : ∃ P, strB (decT a.num) = P := ⟨_, rfl⟩
  obtain ⟨D, hD⟩ : ∃ D, strB (decT (a.den : Int)) = D := ⟨_, rfl⟩
  have c1 : (P.toList == P.toList) = true := by simp
  have c2 : (D.toList == D.toList) = true := by simp
  have HP := Lib.hid hP
  have HD := Lib.hid hD
  clear hP hD
  have HB := Lib.hid (Below.refl w.heap.size w)
  obtain ⟨da, Aa, na, ca, ea, Ea, ma, fa, rfl⟩ := ha.shape
  have Va := Lib.hid ha
  clear ha
  obtain ⟨db, Ab, nb, cb, eb, Eb, mb, fb, rfl⟩ := hb.shape
  have Vb := Lib.hid hb
  clear hb
  replace ia := Lib.hid ia
  go_enter Tryz.func20, Tryz.ntmps20
  have h := HoldQ.new Va.out
  have b := al_below w (.cells #[.bool da, .slice Aa na ca, .bool ea, .slice Ea ma fa] 36)
  replace HB := Lib.hid (bstep HB.out b)
  replace Vb := Lib.hid (Vb.out.step b)
  clear b
  have Ha := Lib.hid h
  clear h Va
  have h := HoldG.new Vb.out
  simp only [World.size_alloc] at h
  have b := al_below (w.alloc (.cells #[.bool da, .slice Aa na ca, .bool ea, .slice Ea ma fa] 36)) (.cells #[.bool db, .slice Ab nb cb, .bool eb, .slice Eb mb fb] 42)
  replace HB := Lib.hid (bstep HB.out b)
  replace Ha := Lib.hid (Ha.out.below b)
  clear b
  have Hb := Lib.hid h
  clear h Vb
  obtain ⟨W51, hW⟩ : ∃ W, W = ((w.alloc (.cells #[.bool da, .slice Aa na ca, .bool ea, .slice Ea ma fa] 36)).alloc (.cells #[.bool db, .slice Ab nb cb, .bool eb, .slice Eb mb fb] 42)) := ⟨_, rfl⟩
  have HW := Lib.hid hW
  rw [← hW] at HB
  rw [← hW] at Ha
  rw [← hW] at Hb
  clear hW
  go_wp2_with fail
  rw [← HW.out]
  clear HW
  have qHa0 := Ha.out.c0
  have qHa1 := Ha.out.c1
  have qHa2 := Ha.out.c2
  have qHa3 := Ha.out.c3
  have qHb0 := Hb.out.c0
  have qHb1 := Hb.out.c1
  have qHb2 := Hb.out.c2
  have qHb3 := Hb.out.c3
  go_region_held3 (fun w' => w'.cell? ⟨w.heap.size, 0, none⟩ = some (.bool da) ∧ w'.cell? ⟨w.heap.size, 1, none⟩ = some (.slice Aa na ca) ∧ w'.cell? ⟨w.heap.size, 2, none⟩ = some (.bool ea) ∧ w'.cell? ⟨w.heap.size, 3, none⟩ = some (.slice Ea ma fa) ∧ w'.cell? ⟨w.heap.size + 1, 0, none⟩ = some (.bool db) ∧ w'.cell? ⟨w.heap.size + 1, 1, none⟩ = some (.slice Ab nb cb) ∧ w'.cell? ⟨w.heap.size + 1, 2, none⟩ = some (.bool eb) ∧ w'.cell? ⟨w.heap.size + 1, 3, none⟩ = some (.slice Eb mb fb))
    (exact ⟨by first | with_reducible assumption | (simp only [World.cell?_drew]; with_reducible assumption) | (try simp only [World.cell?_drew]); repeat' (first | with_reducible assumption | with_reducible refine cell_set2 ?_ (by omega) | with_reducible refine cell_set4 ?_ (by omega)), by first | with_reducible assumption | (simp only [World.cell?_drew]; with_reducible assumption) | (try simp only [World.cell?_drew]); repeat' (first | with_reducible assumption | with_reducible refine cell_set2 ?_ (by omega) | with_reducible refine cell_set4 ?_ (by omega)), by first | with_reducible assumption | (simp only [World.cell?_drew]; with_reducible assumption) | (try simp only [World.cell?_drew]); repeat' (first | with_reducible assumption | with_reducible refine cell_set2 ?_ (by omega) | with_reducible refine cell_set4 ?_ (by omega)), by first | with_reducible assumption | (simp only [World.cell?_drew]; with_reducible assumption) | (try simp only [World.cell?_drew]); repeat' (first | with_reducible assumption | with_reducible refine cell_set2 ?_ (by omega) | with_reducible refine cell_set4 ?_ (by omega)), by first | with_reducible assumption | (simp only [World.cell?_drew]; with_reducible assumption) | (try simp only [World.cell?_drew]); repeat' (first | with_reducible assumption | with_reducible refine cell_set2 ?_ (by omega) | with_reducible refine cell_set4 ?_ (by omega)), by first | with_reducible assumption | (simp only [World.cell?_drew]; with_reducible assumption) | (try simp only [World.cell?_drew]); repeat' (first | with_reducible assumption | with_reducible refine cell_set2 ?_ (by omega) | with_reducible refine cell_set4 ?_ (by omega)), by first | with_reducible assumption | (simp only [World.cell?_drew]; with_reducible assumption) | (try simp only [World.cell?_drew]); repeat' (first | with_reducible assumption | with_reducible refine cell_set2 ?_ (by omega) | with_reducible refine cell_set4 ?_ (by omega)), by first | with_reducible assumption | (simp only [World.cell?_drew]; with_reducible assumption) | (try simp only [World.cell?_drew]); repeat' (first | with_reducible assumption | with_reducible refine cell_set2 ?_ (by omega) | with_reducible refine cell_set4 ?_ (by omega))⟩)
    (first
      | (go_at_call 47
         refine (num_any a _ _ (Ha.out.2.step (by repeat' (first | with_reducible exact Below.refl _ _ | with_reducible assumption | with_reducible refine below_drew ?_)))).mono ?_
         rintro e w52 ⟨v52, rfl, h52, b52⟩
         obtain ⟨d52, A52, n52, c52, rfl⟩ := h52.shape
         have hb52 : Below W51.heap.size W51 w52 := bstep (by repeat' (first | with_reducible exact Below.refl _ _ | with_reducible assumption | with_reducible refine below_drew ?_)) b52
         have V52 := Lib.hid h52
         clear h52
         replace qHa0 := cell_below (Ha.out.c0) hb52
         replace qHa1 := cell_below (Ha.out.c1) hb52
         replace qHa2 := cell_below (Ha.out.c2) hb52
         replace qHa3 := cell_below (Ha.out.c3) hb52
         replace qHb0 := cell_below (Hb.out.c0) hb52
         replace qHb1 := cell_below (Hb.out.c1) hb52
         replace qHb2 := cell_below (Hb.out.c2) hb52
         replace qHb3 := cell_below (Hb.out.c3) hb52)
      | (go_at_call 68
         with_reducible show Calls Tryz.prog 68 #[.agg #[.bool d52, .slice A52 n52 c52]] _ _
         refine (istring_as a.num _ _ (V52.out.step (by repeat' (first | with_reducible exact Below.refl _ _ | with_reducible assumption | with_reducible refine below_drew ?_))) ia.out.1 P HP.out).mono ?_
         rintro e w53 ⟨rfl, b53⟩
         have hb53 : Below W51.heap.size W51 w53 := bstep (by repeat' (first | with_reducible exact Below.refl _ _ | with_reducible assumption | with_reducible refine below_drew ?_)) b53
         replace V52 := Lib.hid (V52.out.step (by first | exact b53 | exact undrew b53 | exact undrew (undrew b53)))
         replace qHa0 := cell_below (Ha.out.c0) hb53
         replace qHa1 := cell_below (Ha.out.c1) hb53
         replace qHa2 := cell_below (Ha.out.c2) hb53
         replace qHa3 := cell_below (Ha.out.c3) hb53
         replace qHb0 := cell_below (Hb.out.c0) hb53
         replace qHb1 := cell_below (Hb.out.c1) hb53
         replace qHb2 := cell_below (Hb.out.c2) hb53
         replace qHb3 := cell_below (Hb.out.c3) hb53)
      | (go_at_call 65
         with_reducible show Calls Tryz.prog 65 #[.agg #[.bool db, .slice Ab nb cb]] _ _
         refine (gtext_as a.num _ _ (Hb.out.2.step (by repeat' (first | with_reducible exact Below.refl _ _ | with_reducible assumption | with_reducible refine below_drew ?_))).num ia.out.1 P HP.out).mono ?_
         rintro e w54 ⟨rfl, b54⟩
         have hb54 : Below W51.heap.size W51 w54 := bstep (by repeat' (first | with_reducible exact Below.refl _ _ | with_reducible assumption | with_reducible refine below_drew ?_)) b54
         replace V52 := Lib.hid (V52.out.step (by first | exact b54 | exact undrew b54 | exact undrew (undrew b54)))
         replace qHa0 := cell_below (Ha.out.c0) hb54
         replace qHa1 := cell_below (Ha.out.c1) hb54
         replace qHa2 := cell_below (Ha.out.c2) hb54
         replace qHa3 := cell_below (Ha.out.c3) hb54
         replace qHb0 := cell_below (Hb.out.c0) hb54
         replace qHb1 := cell_below (Hb.out.c1) hb54
         replace qHb2 := cell_below (Hb.out.c2) hb54
         replace qHb3 := cell_below (Hb.out.c3) hb54)
      | (go_at_call 48
         refine (den_any a _ _ (Ha.out.2.step (by repeat' (first | with_reducible exact Below.refl _ _ | with_reducible assumption | with_reducible refine below_drew ?_))) ia.out).mono ?_
         rintro e w55 ⟨v55, rfl, h55, b55⟩
         obtain ⟨d55, A55, n55, c55, rfl⟩ := h55.shape
         have hb55 : Below W51.heap.size W51 w55 := bstep (by repeat' (first | with_reducible exact Below.refl _ _ | with_reducible assumption | with_reducible refine below_drew ?_)) b55
         replace V52 := Lib.hid (V52.out.step (by first | exact b55 | exact undrew b55 | exact undrew (undrew b55)))
         have V55 := Lib.hid h55
         clear h55
         replace qHa0 := cell_below (Ha.out.c0) hb55
         replace qHa1 := cell_below (Ha.out.c1) hb55
         replace qHa2 := cell_below (Ha.out.c2) hb55
         replace qHa3 := cell_below (Ha.out.c3) hb55
         replace qHb0 := cell_below (Hb.out.c0) hb55
         replace qHb1 := cell_below (Hb.out.c1) hb55
         replace qHb2 := cell_below (Hb.out.c2) hb55
         replace qHb3 := cell_below (Hb.out.c3) hb55)
      | (go_at_call 68
         with_reducible show Calls Tryz.prog 68 #[.agg #[.bool d55, .slice A55 n55 c55]] _ _
         refine (istring_as (a.den : Int) _ _ (V55.out.step (by repeat' (first | with_reducible exact Below.refl _ _ | with_reducible assumption | with_reducible refine below_drew ?_))) (den_lim ia.out) D HD.out).mono ?_
         rintro e w56 ⟨rfl, b56⟩
         have hb56 : Below W51.heap.size W51 w56 := bstep (by repeat' (first | with_reducible exact Below.refl _ _ | with_reducible assumption | with_reducible refine below_drew ?_)) b56
         replace V52 := Lib.hid (V52.out.step (by first | exact b56 | exact undrew b56 | exact undrew (undrew b56)))
         replace V55 := Lib.hid (V55.out.step (by first | exact b56 | exact undrew b56 | exact undrew (undrew b56)))
         replace qHa0 := cell_below (Ha.out.c0) hb56
         replace qHa1 := cell_below (Ha.out.c1) hb56
         replace qHa2 := cell_below (Ha.out.c2) hb56
         replace qHa3 := cell_below (Ha.out.c3) hb56
         replace qHb0 := cell_below (Hb.out.c0) hb56
         replace qHb1 := cell_below (Hb.out.c1) hb56
         replace qHb2 := cell_below (Hb.out.c2) hb56
         replace qHb3 := cell_below (Hb.out.c3) hb56)
      | (go_at_call 65
         with_reducible show Calls Tryz.prog 65 #[.agg #[.bool eb, .slice Eb mb fb]] _ _
         refine (gtext_as (a.den : Int) _ _ (Hb.out.2.step (by repeat' (first | with_reducible exact Below.refl _ _ | with_reducible assumption | with_reducible refine below_drew ?_))).den (den_lim ia.out) D HD.out).mono ?_
         rintro e w57 ⟨rfl, b57⟩
         have hb57 : Below W51.heap.size W51 w57 := bstep (by repeat' (first | with_reducible exact Below.refl _ _ | with_reducible assumption | with_reducible refine below_drew ?_)) b57
         replace V52 := Lib.hid (V52.out.step (by first | exact b57 | exact undrew b57 | exact undrew (undrew b57)))
         replace V55 := Lib.hid (V55.out.step (by first | exact b57 | exact undrew b57 | exact undrew (undrew b57)))
         replace qHa0 := cell_below (Ha.out.c0) hb57
         replace qHa1 := cell_below (Ha.out.c1) hb57
         replace qHa2 := cell_below (Ha.out.c2) hb57
         replace qHa3 := cell_below (Ha.out.c3) hb57
         replace qHb0 := cell_below (Hb.out.c0) hb57
         replace qHb1 := cell_below (Hb.out.c1) hb57
         replace qHb2 := cell_below (Hb.out.c2) hb57
         replace qHb3 := cell_below (Hb.out.c3) hb57
         replace HB := Lib.hid (bstep HB.out hb57)
         replace Ha := Lib.hid (Ha.out.below hb57)
         replace Hb := Lib.hid (Hb.out.below hb57)
         clear b52 hb52 b53 hb53 b54 hb54 b55 hb55 b56 hb56 b57 hb57))
  clear qHa0 qHa1 qHa2 qHa3 qHb0 qHb1 qHb2 qHb3
  have HF := HB.out
  clear ia HP HD
  clear HB Ha Hb V52 V55
  go_wp2_with fail
  go_ret
  exact ⟨rfl, HF⟩
end Go.Proofs.YtocooajlfpngdaaGreatDoor
namespace Go.Proofs.YtocooajlfpngdaaGreatDoor
open Go.RowKit
set_option linter.unusedVariables false

def gmul_reg_ops : Array Oper := #[
  { dst := some 9, op := .fieldAddr 42 (.tmp 2) 0, type := 0, pos := "ref.go:70", after := #[], guard := none },
  { dst := some 10, op := .load 24 (.tmp 9), type := 24, pos := "ref.go:70", after := #[⟨0, .data⟩], guard := none },
  { dst := some 11, op := .fieldAddr 42 (.tmp 3) 0, type := 0, pos := "ref.go:70", after := #[], guard := none },
  { dst := some 12, op := .load 24 (.tmp 11), type := 24, pos := "ref.go:70", after := #[⟨2, .data⟩], guard := none },
  { dst := some 13, op := .call { callee := .value (.func 13), args := #[.tmp 10, .tmp 12], argTypes := #[24, 24] }, type := 24, pos := "ref.go:70", after := #[⟨1, .data⟩, ⟨3, .data⟩], guard := none },
  { dst := some 14, op := .fieldAddr 42 (.tmp 2) 1, type := 0, pos := "ref.go:70", after := #[], guard := none },
  { dst := some 15, op := .load 24 (.tmp 14), type := 24, pos := "ref.go:70", after := #[⟨5, .data⟩], guard := none },
  { dst := some 16, op := .fieldAddr 42 (.tmp 3) 1, type := 0, pos := "ref.go:70", after := #[], guard := none },
  { dst := some 17, op := .load 24 (.tmp 16), type := 24, pos := "ref.go:70", after := #[⟨7, .data⟩], guard := none },
  { dst := some 18, op := .call { callee := .value (.func 13), args := #[.tmp 15, .tmp 17], argTypes := #[24, 24] }, type := 24, pos := "ref.go:70", after := #[⟨6, .data⟩, ⟨8, .data⟩, ⟨4, .chain⟩], guard := none },
  { dst := some 19, op := .call { callee := .value (.func 19), args := #[.tmp 13, .tmp 18], argTypes := #[24, 24] }, type := 43, pos := "ref.go:70", after := #[⟨4, .data⟩, ⟨9, .data⟩, ⟨9, .chain⟩], guard := none },
  { dst := some 8, op := .move (.tmp 19), type := 43, pos := "ref.go:70", after := #[⟨10, .data⟩], guard := none },
  { dst := some 20, op := .extract (.tmp 8) 0, type := 42, pos := "ref.go:70", after := #[⟨11, .data⟩], guard := none },
  { dst := some 21, op := .extract (.tmp 8) 1, type := 37, pos := "ref.go:70", after := #[⟨11, .data⟩, ⟨15, .gcOnly .lateStores⟩], guard := none },
  { dst := some 6, op := .alloc 42, type := 0, pos := "ref.go:70", after := #[], guard := none },
  { dst := none, op := .store 42 (.tmp 6) (.tmp 20), type := 0, pos := "ref.go:70", after := #[⟨14, .data⟩, ⟨12, .data⟩, ⟨10, .chain⟩, ⟨0, .phase⟩, ⟨1, .phase⟩, ⟨2, .phase⟩, ⟨3, .phase⟩, ⟨4, .phase⟩, ⟨5, .phase⟩, ⟨6, .phase⟩, ⟨7, .phase⟩, ⟨8, .phase⟩, ⟨9, .phase⟩, ⟨10, .phase⟩, ⟨11, .phase⟩, ⟨12, .phase⟩, ⟨13, .textOnly .lateStores⟩, ⟨14, .phase⟩], guard := none },
  { dst := some 7, op := .assign (.tmp 21), type := 37, pos := "ref.go:70", after := #[⟨13, .data⟩, ⟨15, .chain⟩, ⟨0, .phase⟩, ⟨1, .phase⟩, ⟨2, .phase⟩, ⟨3, .phase⟩, ⟨4, .phase⟩, ⟨5, .phase⟩, ⟨6, .phase⟩, ⟨7, .phase⟩, ⟨8, .phase⟩, ⟨9, .phase⟩, ⟨10, .phase⟩, ⟨11, .phase⟩, ⟨12, .phase⟩, ⟨13, .phase⟩, ⟨14, .phase⟩, ⟨15, .phase⟩], guard := none }]
set_option maxRecDepth 100000 in
set_option maxHeartbeats 1000000 in
theorem gmul_reg {Q : Exit → Act → World → Prop} {a0 : Act} {w0 : World} {p2 p3 : Nat} {a b : Rat} {da ea db eb : Bool} {Aa Ea Ab Eb : Option Addr} {na ca ma fa nb cb mb fb : Nat} {X : Rat} {er : Int} (hN : a0.tmps.size = 27) (t2 : a0.tmps[2]? = some (.pointer (some ⟨p2, 0, none⟩))) (t3 : a0.tmps[3]? = some (.pointer (some ⟨p3, 0, none⟩))) (Ha : HoldG w0 p2 a da Aa na ca ea Ea ma fa) (Hb : HoldG w0 p3 b db Ab nb cb eb Eb mb fb) (a1 : Bits 20000 a.num) (a2 : Bits 20000 (a.den : Int)) (b1 : Bits 20000 b.num) (b2 : Bits 20000 (b.den : Int)) (hX : Rat.divInt (a.num * b.num) ((a.den : Int) * (b.den : Int)) = X) (hE : makeE ((a.den : Int) * (b.den : Int)) = er)
    (hQ : ∀ (w : World) (v9 v10 v11 v12 v13 v14 v15 v16 v17 v18 v19 v8 v20 v21 v7 : Value) (g6 : Nat) (d6 : Bool) (A6 : Option Addr) (n6 c6 : Nat) (e6 : Bool) (E6 : Option Addr) (m6 f6 : Nat), Below w0.heap.size w0 w → HoldG w g6 X d6 A6 n6 c6 e6 E6 m6 f6 → w0.heap.size ≤ g6 → v7 = .int .i64 er → Q .normal ⟨([(9, v9), (10, v10), (11, v11), (12, v12), (13, v13), (14, v14), (15, v15), (16, v16), (17, v17), (18, v18), (19, v19), (8, v8), (20, v20), (21, v21), (7, v7), (6, .pointer (some ⟨g6, 0, none⟩))] : List (Nat × Value)).foldl (fun ts p => ts.setIfInBounds p.1 p.2) a0.tmps, a0.defers⟩ w) :
    (Code.region 1 gmul_reg_ops true).wp Tryz.prog Q a0 w0 := by
  refine wp_region_boxes4' (ty := 42) (cl := [.val 9 (Is (.pointer (some ⟨p2, 0, none⟩))), .val 10 (IsN (a.num)), .val 11 (Is (.pointer (some ⟨p3, 0, none⟩))), .val 12 (IsN (b.num)), .val 13 (IsN (a.num * b.num)), .val 14 (Is (.pointer (some ⟨p2, 2, none⟩))), .val 15 (IsN ((a.den : Int))), .val 16 (Is (.pointer (some ⟨p3, 2, none⟩))), .val 17 (IsN ((b.den : Int))), .val 18 (IsN ((a.den : Int) * (b.den : Int))), .val 19 (IsGE (X) (er)), .val 8 (IsGE (X) (er)), .val 20 (IsG (X)), .val 21 (Is (.int .i64 er)), .new 6, .put 6 (IsG (X)), .val 7 (Is (.int .i64 er))]) 27 (by kernel_rfl) hN (by kernel_rfl) ?_ ?_ ?_
  · exact ⟨Is.stb4 _ _, IsN.stb4 _ _, Is.stb4 _ _, IsN.stb4 _ _, IsN.stb4 _ _, Is.stb4 _ _, IsN.stb4 _ _, Is.stb4 _ _, IsN.stb4 _ _, IsN.stb4 _ _, IsGE.stb4 _ _ _, IsGE.stb4 _ _ _, IsG.stb4 _ _, Is.stb4 _ _, trivial, IsG.stb4 _ _, Is.stb4 _ _, trivial⟩
  · refine ⟨?_, ?_, ?_, ?_, ?_, ?_, ?_, ?_, ?_, ?_, ?_, ?_, ?_, ?_, ?_, ?_, ?_, trivial⟩
    · intro l ac w h hd K hK
      exact op_fieldF0 rfl ((h.same 2 (not_dst (by kernel_rfl))).trans t2) (hK _ _ rfl (Below.refl _ _))
    · intro l ac w h hd K hK
      obtain ⟨v, hv, rfl⟩ := h.fact 0 _ rfl (dep hd 0 (by kernel_rfl))
      exact op_loadN rfl hv (Ha.below h.below).c0 (Ha.below h.below).c1 (hK _ _ ((Ha.below h.below).2.num) (Below.refl _ _))
    · intro l ac w h hd K hK
      exact op_fieldF0 rfl ((h.same 3 (not_dst (by kernel_rfl))).trans t3) (hK _ _ rfl (Below.refl _ _))
    · intro l ac w h hd K hK
      obtain ⟨v, hv, rfl⟩ := h.fact 2 _ rfl (dep hd 2 (by kernel_rfl))
      exact op_loadN rfl hv (Hb.below h.below).c0 (Hb.below h.below).c1 (hK _ _ ((Hb.below h.below).2.num) (Below.refl _ _))
    · intro l ac w h hd K hK
      obtain ⟨v, hv, hF⟩ := h.fact 1 _ rfl (dep hd 1 (by kernel_rfl))
      obtain ⟨v', hv', hF'⟩ := h.fact 3 _ rfl (dep hd 3 (by kernel_rfl))
      exact op_call2 rfl hv hv' (enters_of Tryz.func13 (by kernel_rfl) rfl) ((mul_any a.num b.num _ _ _ hF hF' (a1.mono (by omega)) (b1.mono (by omega))).mono fun e w' ⟨v, he, h1, h2⟩ => ⟨v, he, hK _ _ h1 h2⟩)
    · intro l ac w h hd K hK
      exact op_fieldF1 rfl ((h.same 2 (not_dst (by kernel_rfl))).trans t2) (hK _ _ rfl (Below.refl _ _))
    · intro l ac w h hd K hK
      obtain ⟨v, hv, rfl⟩ := h.fact 5 _ rfl (dep hd 5 (by kernel_rfl))
      exact op_loadN rfl hv (Ha.below h.below).c2 (Ha.below h.below).c3 (hK _ _ ((Ha.below h.below).2.den) (Below.refl _ _))
    · intro l ac w h hd K hK
      exact op_fieldF1 rfl ((h.same 3 (not_dst (by kernel_rfl))).trans t3) (hK _ _ rfl (Below.refl _ _))
    · intro l ac w h hd K hK
      obtain ⟨v, hv, rfl⟩ := h.fact 7 _ rfl (dep hd 7 (by kernel_rfl))
      exact op_loadN rfl hv (Hb.below h.below).c2 (Hb.below h.below).c3 (hK _ _ ((Hb.below h.below).2.den) (Below.refl _ _))
    · intro l ac w h hd K hK
      obtain ⟨v, hv, hF⟩ := h.fact 6 _ rfl (dep hd 6 (by kernel_rfl))
      obtain ⟨v', hv', hF'⟩ := h.fact 8 _ rfl (dep hd 8 (by kernel_rfl))
      exact op_call2 rfl hv hv' (enters_of Tryz.func13 (by kernel_rfl) rfl) ((mul_any (a.den : Int) (b.den : Int) _ _ _ hF hF' (a2.mono (by omega)) (b2.mono (by omega))).mono fun e w' ⟨v, he, h1, h2⟩ => ⟨v, he, hK _ _ h1 h2⟩)
    · intro l ac w h hd K hK
      obtain ⟨v, hv, hF⟩ := h.fact 4 _ rfl (dep hd 4 (by kernel_rfl))
      obtain ⟨v', hv', hF'⟩ := h.fact 9 _ rfl (dep hd 9 (by kernel_rfl))
      exact op_call2 rfl hv hv' (enters_of Tryz.func19 (by kernel_rfl) rfl) ((gmake_any (a.num * b.num) ((a.den : Int) * (b.den : Int)) _ _ _ hF hF' ((Bits.mul a1 b1).mono (by omega)) ((Bits.mul a2 b2).mono (by omega))).mono fun e w' ⟨v, he, h1, h2⟩ => ⟨.tuple #[v, .int .i64 er], by rw [he, hE], hK _ _ ⟨v, rfl, hX ▸ h1⟩ h2⟩)
    · intro l ac w h hd K hK
      obtain ⟨v, hv, hF⟩ := h.fact 10 _ rfl (dep hd 10 (by kernel_rfl))
      exact op_move rfl hv (hK _ _ hF (Below.refl _ _))
    · intro l ac w h hd K hK
      obtain ⟨v, hv, u1, rfl, h1⟩ := h.fact 11 _ rfl (dep hd 11 (by kernel_rfl))
      exact op_extract0 rfl hv (hK _ _ h1 (Below.refl _ _))
    · intro l ac w h hd K hK
      obtain ⟨v, hv, u1, rfl, h1⟩ := h.fact 11 _ rfl (dep hd 11 (by kernel_rfl))
      exact op_extract1 rfl hv (hK _ _ rfl (Below.refl _ _))
    · intro ac w K hK
      exact op_newF rfl hK
    · refine ⟨⟨14, rfl⟩, fun l ac w h hd => ?_⟩
      obtain ⟨g, hg, hlt, e, A, n, c, e', A', n', c', hB⟩ := h.fact 14 _ rfl (dep hd 14 (by kernel_rfl))
      obtain ⟨v, hv, hF⟩ := h.fact 12 _ rfl (dep hd 12 (by kernel_rfl))
      obtain ⟨d1, A1, n1, c1, d2, A2, n2, c2, rfl⟩ := RepG.shape hF
      exact ⟨g, d1, A1, n1, c1, d2, A2, n2, c2, e, A, n, c, e', A', n', c', hg, hlt, hB, hF, fun K hK => op_storeF rfl hg hv hB hK⟩
    · intro l ac w h hd K hK
      obtain ⟨v, hv, hF⟩ := h.fact 13 _ rfl (dep hd 13 (by kernel_rfl))
      exact op_assign rfl hv (hK _ _ hF (Below.refl _ _))
  · intro l ac w h hall
    obtain ⟨v9, q9, r9⟩ := h.fact 0 _ rfl (hall 0 (of_decide_eq_true (by kernel_rfl)))
    obtain ⟨v10, q10, r10⟩ := h.fact 1 _ rfl (hall 1 (of_decide_eq_true (by kernel_rfl)))
    obtain ⟨v11, q11, r11⟩ := h.fact 2 _ rfl (hall 2 (of_decide_eq_true (by kernel_rfl)))
    obtain ⟨v12, q12, r12⟩ := h.fact 3 _ rfl (hall 3 (of_decide_eq_true (by kernel_rfl)))
    obtain ⟨v13, q13, r13⟩ := h.fact 4 _ rfl (hall 4 (of_decide_eq_true (by kernel_rfl)))
    obtain ⟨v14, q14, r14⟩ := h.fact 5 _ rfl (hall 5 (of_decide_eq_true (by kernel_rfl)))
    obtain ⟨v15, q15, r15⟩ := h.fact 6 _ rfl (hall 6 (of_decide_eq_true (by kernel_rfl)))
    obtain ⟨v16, q16, r16⟩ := h.fact 7 _ rfl (hall 7 (of_decide_eq_true (by kernel_rfl)))
    obtain ⟨v17, q17, r17⟩ := h.fact 8 _ rfl (hall 8 (of_decide_eq_true (by kernel_rfl)))
    obtain ⟨v18, q18, r18⟩ := h.fact 9 _ rfl (hall 9 (of_decide_eq_true (by kernel_rfl)))
    obtain ⟨v19, q19, r19⟩ := h.fact 10 _ rfl (hall 10 (of_decide_eq_true (by kernel_rfl)))
    obtain ⟨v8, q8, r8⟩ := h.fact 11 _ rfl (hall 11 (of_decide_eq_true (by kernel_rfl)))
    obtain ⟨v20, q20, r20⟩ := h.fact 12 _ rfl (hall 12 (of_decide_eq_true (by kernel_rfl)))
    obtain ⟨v21, q21, r21⟩ := h.fact 13 _ rfl (hall 13 (of_decide_eq_true (by kernel_rfl)))
    obtain ⟨v7, q7, r7⟩ := h.fact 16 _ rfl (hall 16 (of_decide_eq_true (by kernel_rfl)))
    obtain ⟨g6, q6, l6, d6, A6, n6, c6, e6, E6, m6, f6, B6, F6⟩ := h.fact 15 _ rfl (hall 15 (of_decide_eq_true (by kernel_rfl)))
    have ha := act_of [(9, v9), (10, v10), (11, v11), (12, v12), (13, v13), (14, v14), (15, v15), (16, v16), (17, v17), (18, v18), (19, v19), (8, v8), (20, v20), (21, v21), (7, v7), (6, .pointer (some ⟨g6, 0, none⟩))] h.defers h.size (List.forall_mem_cons.2 ⟨q9, List.forall_mem_cons.2 ⟨q10, List.forall_mem_cons.2 ⟨q11, List.forall_mem_cons.2 ⟨q12, List.forall_mem_cons.2 ⟨q13, List.forall_mem_cons.2 ⟨q14, List.forall_mem_cons.2 ⟨q15, List.forall_mem_cons.2 ⟨q16, List.forall_mem_cons.2 ⟨q17, List.forall_mem_cons.2 ⟨q18, List.forall_mem_cons.2 ⟨q19, List.forall_mem_cons.2 ⟨q8, List.forall_mem_cons.2 ⟨q20, List.forall_mem_cons.2 ⟨q21, List.forall_mem_cons.2 ⟨q7, List.forall_mem_cons.2 ⟨q6, fun _ h => by cases h⟩⟩⟩⟩⟩⟩⟩⟩⟩⟩⟩⟩⟩⟩⟩⟩) (fun t ht => h.same t (fun hm => ht (in_dst (F := [9, 10, 11, 12, 13, 14, 15, 16, 17, 18, 19, 8, 20, 21, 7, 6]) (by kernel_rfl) hm)))
    rw [ha]
    exact hQ w _ _ _ _ _ _ _ _ _ _ _ _ _ _ _ _ _ _ _ _ _ _ _ _ h.below ⟨B6, F6⟩ l6 r7
def gdiv_reg_ops : Array Oper := #[
  { dst := some 9, op := .fieldAddr 42 (.tmp 2) 0, type := 0, pos := "ref.go:76", after := #[], guard := none },
  { dst := some 10, op := .load 24 (.tmp 9), type := 24, pos := "ref.go:76", after := #[⟨0, .data⟩], guard := none },
  { dst := some 11, op := .fieldAddr 42 (.tmp 3) 1, type := 0, pos := "ref.go:76", after := #[], guard := none },
  { dst := some 12, op := .load 24 (.tmp 11), type := 24, pos := "ref.go:76", after := #[⟨2, .data⟩], guard := none },
  { dst := some 13, op := .call { callee := .value (.func 13), args := #[.tmp 10, .tmp 12], argTypes := #[24, 24] }, type := 24, pos := "ref.go:76", after := #[⟨1, .data⟩, ⟨3, .data⟩], guard := none },
  { dst := some 14, op := .fieldAddr 42 (.tmp 2) 1, type := 0, pos := "ref.go:76", after := #[], guard := none },
  { dst := some 15, op := .load 24 (.tmp 14), type := 24, pos := "ref.go:76", after := #[⟨5, .data⟩], guard := none },
  { dst := some 16, op := .fieldAddr 42 (.tmp 3) 0, type := 0, pos := "ref.go:76", after := #[], guard := none },
  { dst := some 17, op := .load 24 (.tmp 16), type := 24, pos := "ref.go:76", after := #[⟨7, .data⟩], guard := none },
  { dst := some 18, op := .call { callee := .value (.func 13), args := #[.tmp 15, .tmp 17], argTypes := #[24, 24] }, type := 24, pos := "ref.go:76", after := #[⟨6, .data⟩, ⟨8, .data⟩, ⟨4, .chain⟩], guard := none },
  { dst := some 19, op := .call { callee := .value (.func 19), args := #[.tmp 13, .tmp 18], argTypes := #[24, 24] }, type := 43, pos := "ref.go:76", after := #[⟨4, .data⟩, ⟨9, .data⟩, ⟨9, .chain⟩], guard := none },
  { dst := some 8, op := .move (.tmp 19), type := 43, pos := "ref.go:76", after := #[⟨10, .data⟩], guard := none },
  { dst := some 20, op := .extract (.tmp 8) 0, type := 42, pos := "ref.go:76", after := #[⟨11, .data⟩], guard := none },
  { dst := some 21, op := .extract (.tmp 8) 1, type := 37, pos := "ref.go:76", after := #[⟨11, .data⟩, ⟨15, .gcOnly .lateStores⟩], guard := none },
  { dst := some 6, op := .alloc 42, type := 0, pos := "ref.go:76", after := #[], guard := none },
  { dst := none, op := .store 42 (.tmp 6) (.tmp 20), type := 0, pos := "ref.go:76", after := #[⟨14, .data⟩, ⟨12, .data⟩, ⟨10, .chain⟩, ⟨0, .phase⟩, ⟨1, .phase⟩, ⟨2, .phase⟩, ⟨3, .phase⟩, ⟨4, .phase⟩, ⟨5, .phase⟩, ⟨6, .phase⟩, ⟨7, .phase⟩, ⟨8, .phase⟩, ⟨9, .phase⟩, ⟨10, .phase⟩, ⟨11, .phase⟩, ⟨12, .phase⟩, ⟨13, .textOnly .lateStores⟩, ⟨14, .phase⟩], guard := none },
  { dst := some 7, op := .assign (.tmp 21), type := 37, pos := "ref.go:76", after := #[⟨13, .data⟩, ⟨15, .chain⟩, ⟨0, .phase⟩, ⟨1, .phase⟩, ⟨2, .phase⟩, ⟨3, .phase⟩, ⟨4, .phase⟩, ⟨5, .phase⟩, ⟨6, .phase⟩, ⟨7, .phase⟩, ⟨8, .phase⟩, ⟨9, .phase⟩, ⟨10, .phase⟩, ⟨11, .phase⟩, ⟨12, .phase⟩, ⟨13, .phase⟩, ⟨14, .phase⟩, ⟨15, .phase⟩], guard := none }]
set_option maxRecDepth 100000 in
set_option maxHeartbeats 1000000 in
theorem gdiv_reg {Q : Exit → Act → World → Prop} {a0 : Act} {w0 : World} {p2 p3 : Nat} {a b : Rat} {da ea db eb : Bool} {Aa Ea Ab Eb : Option Addr} {na ca ma fa nb cb mb fb : Nat} {X : Rat} {er : Int} (hN : a0.tmps.size = 27) (t2 : a0.tmps[2]? = some (.pointer (some ⟨p2, 0, none⟩))) (t3 : a0.tmps[3]? = some (.pointer (some ⟨p3, 0, none⟩))) (Ha : HoldG w0 p2 a da Aa na ca ea Ea ma fa) (Hb : HoldG w0 p3 b db Ab nb cb eb Eb mb fb) (a1 : Bits 20000 a.num) (a2 : Bits 20000 (a.den : Int)) (b1 : Bits 20000 b.num) (b2 : Bits 20000 (b.den : Int)) (hX : Rat.divInt (a.num * (b.den : Int)) ((a.den : Int) * b.num) = X) (hE : makeE ((a.den : Int) * b.num) = er)
    (hQ : ∀ (w : World) (v9 v10 v11 v12 v13 v14 v15 v16 v17 v18 v19 v8 v20 v21 v7 : Value) (g6 : Nat) (d6 : Bool) (A6 : Option Addr) (n6 c6 : Nat) (e6 : Bool) (E6 : Option Addr) (m6 f6 : Nat), Below w0.heap.size w0 w → HoldG w g6 X d6 A6 n6 c6 e6 E6 m6 f6 → w0.heap.size ≤ g6 → v7 = .int .i64 er → Q .normal ⟨([(9, v9), (10, v10), (11, v11), (12, v12), (13, v13), (14, v14), (15, v15), (16, v16), (17, v17), (18, v18), (19, v19), (8, v8), (20, v20), (21, v21), (7, v7), (6, .pointer (some ⟨g6, 0, none⟩))] : List (Nat × Value)).foldl (fun ts p => ts.setIfInBounds p.1 p.2) a0.tmps, a0.defers⟩ w) :
    (Code.region 1 gdiv_reg_ops true).wp Tryz.prog Q a0 w0 := by
  refine wp_region_boxes4' (ty := 42) (cl := [.val 9 (Is (.pointer (some ⟨p2, 0, none⟩))), .val 10 (IsN (a.num)), .val 11 (Is (.pointer (some ⟨p3, 2, none⟩))), .val 12 (IsN ((b.den : Int))), .val 13 (IsN (a.num * (b.den : Int))), .val 14 (Is (.pointer (some ⟨p2, 2, none⟩))), .val 15 (IsN ((a.den : Int))), .val 16 (Is (.pointer (some ⟨p3, 0, none⟩))), .val 17 (IsN (b.num)), .val 18 (IsN ((a.den : Int) * b.num)), .val 19 (IsGE (X) (er)), .val 8 (IsGE (X) (er)), .val 20 (IsG (X)), .val 21 (Is (.int .i64 er)), .new 6, .put 6 (IsG (X)), .val 7 (Is (.int .i64 er))]) 27 (by kernel_rfl) hN (by kernel_rfl) ?_ ?_ ?_
  · exact ⟨Is.stb4 _ _, IsN.stb4 _ _, Is.stb4 _ _, IsN.stb4 _ _, IsN.stb4 _ _, Is.stb4 _ _, IsN.stb4 _ _, Is.stb4 _ _, IsN.stb4 _ _, IsN.stb4 _ _, IsGE.stb4 _ _ _, IsGE.stb4 _ _ _, IsG.stb4 _ _, Is.stb4 _ _, trivial, IsG.stb4 _ _, Is.stb4 _ _, trivial⟩
  · refine ⟨?_, ?_, ?_, ?_, ?_, ?_, ?_, ?_, ?_, ?_, ?_, ?_, ?_, ?_, ?_, ?_, ?_, trivial⟩
    · intro l ac w h hd K hK
      exact op_fieldF0 rfl ((h.same 2 (not_dst (by kernel_rfl))).trans t2) (hK _ _ rfl (Below.refl _ _))
    · intro l ac w h hd K hK
      obtain ⟨v, hv, rfl⟩ := h.fact 0 _ rfl (dep hd 0 (by kernel_rfl))
      exact op_loadN rfl hv (Ha.below h.below).c0 (Ha.below h.below).c1 (hK _ _ ((Ha.below h.below).2.num) (Below.refl _ _))
    · intro l ac w h hd K hK
      exact op_fieldF1 rfl ((h.same 3 (not_dst (by kernel_rfl))).trans t3) (hK _ _ rfl (Below.refl _ _))
    · intro l ac w h hd K hK
      obtain ⟨v, hv, rfl⟩ := h.fact 2 _ rfl (dep hd 2 (by kernel_rfl))
      exact op_loadN rfl hv (Hb.below h.below).c2 (Hb.below h.below).c3 (hK _ _ ((Hb.below h.below).2.den) (Below.refl _ _))
    · intro l ac w h hd K hK
      obtain ⟨v, hv, hF⟩ := h.fact 1 _ rfl (dep hd 1 (by kernel_rfl))
      obtain ⟨v', hv', hF'⟩ := h.fact 3 _ rfl (dep hd 3 (by kernel_rfl))
      exact op_call2 rfl hv hv' (enters_of Tryz.func13 (by kernel_rfl) rfl) ((mul_any a.num (b.den : Int) _ _ _ hF hF' (a1.mono (by omega)) (b2.mono (by omega))).mono fun e w' ⟨v, he, h1, h2⟩ => ⟨v, he, hK _ _ h1 h2⟩)
    · intro l ac w h hd K hK
      exact op_fieldF1 rfl ((h.same 2 (not_dst (by kernel_rfl))).trans t2) (hK _ _ rfl (Below.refl _ _))
    · intro l ac w h hd K hK
      obtain ⟨v, hv, rfl⟩ := h.fact 5 _ rfl (dep hd 5 (by kernel_rfl))
      exact op_loadN rfl hv (Ha.below h.below).c2 (Ha.below h.below).c3 (hK _ _ ((Ha.below h.below).2.den) (Below.refl _ _))
    · intro l ac w h hd K hK
      exact op_fieldF0 rfl ((h.same 3 (not_dst (by kernel_rfl))).trans t3) (hK _ _ rfl (Below.refl _ _))
    · intro l ac w h hd K hK
      obtain ⟨v, hv, rfl⟩ := h.fact 7 _ rfl (dep hd 7 (by kernel_rfl))
      exact op_loadN rfl hv (Hb.below h.below).c0 (Hb.below h.below).c1 (hK _ _ ((Hb.below h.below).2.num) (Below.refl _ _))
    · intro l ac w h hd K hK
      obtain ⟨v, hv, hF⟩ := h.fact 6 _ rfl (dep hd 6 (by kernel_rfl))
      obtain ⟨v', hv', hF'⟩ := h.fact 8 _ rfl (dep hd 8 (by kernel_rfl))
      exact op_call2 rfl hv hv' (enters_of Tryz.func13 (by kernel_rfl) rfl) ((mul_any (a.den : Int) b.num _ _ _ hF hF' (a2.mono (by omega)) (b1.mono (by omega))).mono fun e w' ⟨v, he, h1, h2⟩ => ⟨v, he, hK _ _ h1 h2⟩)
    · intro l ac w h hd K hK
      obtain ⟨v, hv, hF⟩ := h.fact 4 _ rfl (dep hd 4 (by kernel_rfl))
      obtain ⟨v', hv', hF'⟩ := h.fact 9 _ rfl (dep hd 9 (by kernel_rfl))
      exact op_call2 rfl hv hv' (enters_of Tryz.func19 (by kernel_rfl) rfl) ((gmake_any (a.num * (b.den : Int)) ((a.den : Int) * b.num) _ _ _ hF hF' ((Bits.mul a1 b2).mono (by omega)) ((Bits.mul a2 b1).mono (by omega))).mono fun e w' ⟨v, he, h1, h2⟩ => ⟨.tuple #[v, .int .i64 er], by rw [he, hE], hK _ _ ⟨v, rfl, hX ▸ h1⟩ h2⟩)
    · intro l ac w h hd K hK
      obtain ⟨v, hv, hF⟩ := h.fact 10 _ rfl (dep hd 10 (by kernel_rfl))
      exact op_move rfl hv (hK _ _ hF (Below.refl _ _))
    · intro l ac w h hd K hK
      obtain ⟨v, hv, u1, rfl, h1⟩ := h.fact 11 _ rfl (dep hd 11 (by kernel_rfl))
      exact op_extract0 rfl hv (hK _ _ h1 (Below.refl _ _))
    · intro l ac w h hd K hK
      obtain ⟨v, hv, u1, rfl, h1⟩ := h.fact 11 _ rfl (dep hd 11 (by kernel_rfl))
      exact op_extract1 rfl hv (hK _ _ rfl (Below.refl _ _))
    · intro ac w K hK
      exact op_newF rfl hK
    · refine ⟨⟨14, rfl⟩, fun l ac w h hd => ?_⟩
      obtain ⟨g, hg, hlt, e, A, n, c, e', A', n', c', hB⟩ := h.fact 14 _ rfl (dep hd 14 (by kernel_rfl))
      obtain ⟨v, hv, hF⟩ := h.fact 12 _ rfl (dep hd 12 (by kernel_rfl))
      obtain ⟨d1, A1, n1, c1, d2, A2, n2, c2, rfl⟩ := RepG.shape hF
      exact ⟨g, d1, A1, n1, c1, d2, A2, n2, c2, e, A, n, c, e', A', n', c', hg, hlt, hB, hF, fun K hK => op_storeF rfl hg hv hB hK⟩
    · intro l ac w h hd K hK
      obtain ⟨v, hv, hF⟩ := h.fact 13 _ rfl (dep hd 13 (by kernel_rfl))
      exact op_assign rfl hv (hK _ _ hF (Below.refl _ _))
  · intro l ac w h hall
    obtain ⟨v9, q9, r9⟩ := h.fact 0 _ rfl (hall 0 (of_decide_eq_true (by kernel_rfl)))
    obtain ⟨v10, q10, r10⟩ := h.fact 1 _ rfl (hall 1 (of_decide_eq_true (by kernel_rfl)))
    obtain ⟨v11, q11, r11⟩ := h.fact 2 _ rfl (hall 2 (of_decide_eq_true (by kernel_rfl)))
    obtain ⟨v12, q12, r12⟩ := h.fact 3 _ rfl (hall 3 (of_decide_eq_true (by kernel_rfl)))
    obtain ⟨v13, q13, r13⟩ := h.fact 4 _ rfl (hall 4 (of_decide_eq_true (by kernel_rfl)))
    obtain ⟨v14, q14, r14⟩ := h.fact 5 _ rfl (hall 5 (of_decide_eq_true (by kernel_rfl)))
    obtain ⟨v15, q15, r15⟩ := h.fact 6 _ rfl (hall 6 (of_decide_eq_true (by kernel_rfl)))
    obtain ⟨v16, q16, r16⟩ := h.fact 7 _ rfl (hall 7 (of_decide_eq_true (by kernel_rfl)))
    obtain ⟨v17, q17, r17⟩ := h.fact 8 _ rfl (hall 8 (of_decide_eq_true (by kernel_rfl)))
    obtain ⟨v18, q18, r18⟩ := h.fact 9 _ rfl (hall 9 (of_decide_eq_true (by kernel_rfl)))
    obtain ⟨v19, q19, r19⟩ := h.fact 10 _ rfl (hall 10 (of_decide_eq_true (by kernel_rfl)))
    obtain ⟨v8, q8, r8⟩ := h.fact 11 _ rfl (hall 11 (of_decide_eq_true (by kernel_rfl)))
    obtain ⟨v20, q20, r20⟩ := h.fact 12 _ rfl (hall 12 (of_decide_eq_true (by kernel_rfl)))
    obtain ⟨v21, q21, r21⟩ := h.fact 13 _ rfl (hall 13 (of_decide_eq_true (by kernel_rfl)))
    obtain ⟨v7, q7, r7⟩ := h.fact 16 _ rfl (hall 16 (of_decide_eq_true (by kernel_rfl)))
    obtain ⟨g6, q6, l6, d6, A6, n6, c6, e6, E6, m6, f6, B6, F6⟩ := h.fact 15 _ rfl (hall 15 (of_decide_eq_true (by kernel_rfl)))
    have ha := act_of [(9, v9), (10, v10), (11, v11), (12, v12), (13, v13), (14, v14), (15, v15), (16, v16), (17, v17), (18, v18), (19, v19), (8, v8), (20, v20), (21, v21), (7, v7), (6, .pointer (some ⟨g6, 0, none⟩))] h.defers h.size (List.forall_mem_cons.2 ⟨q9, List.forall_mem_cons.2 ⟨q10, List.forall_mem_cons.2 ⟨q11, List.forall_mem_cons.2 ⟨q12, List.forall_mem_cons.2 ⟨q13, List.forall_mem_cons.2 ⟨q14, List.forall_mem_cons.2 ⟨q15, List.forall_mem_cons.2 ⟨q16, List.forall_mem_cons.2 ⟨q17, List.forall_mem_cons.2 ⟨q18, List.forall_mem_cons.2 ⟨q19, List.forall_mem_cons.2 ⟨q8, List.forall_mem_cons.2 ⟨q20, List.forall_mem_cons.2 ⟨q21, List.forall_mem_cons.2 ⟨q7, List.forall_mem_cons.2 ⟨q6, fun _ h => by cases h⟩⟩⟩⟩⟩⟩⟩⟩⟩⟩⟩⟩⟩⟩⟩⟩) (fun t ht => h.same t (fun hm => ht (in_dst (F := [9, 10, 11, 12, 13, 14, 15, 16, 17, 18, 19, 8, 20, 21, 7, 6]) (by kernel_rfl) hm)))
    rw [ha]
    exact hQ w _ _ _ _ _ _ _ _ _ _ _ _ _ _ _ _ _ _ _ _ _ _ _ _ h.below ⟨B6, F6⟩ l6 r7
set_option maxRecDepth 100000 in
set_option maxHeartbeats 4000000 in
theorem gmul_x (a b : Rat) (u v : Value) (w : World) (ha : RepG w w.heap.size a u) (hb : RepG w w.heap.size b v) (a1 : Bits 20000 a.num) (a2 : Bits 20000 (a.den : Int)) (b1 : Bits 20000 b.num) (b2 : Bits 20000 (b.den : Int)) (X : Rat) (hX : Rat.divInt (a.num * b.num) ((a.den : Int) * (b.den : Int)) = X) (hE : makeE ((a.den : Int) * (b.den : Int)) = 0) (x1 : Bits 50000 X.num) (x2 : Bits 50000 (X.den : Int)) :
    Calls Tryz.prog 33 #[u, v] w (NewGE (fitQ X) (fitR X) w) := by
  obtain ⟨E, hF1⟩ : ∃ E, fitR X = E := ⟨_, rfl⟩
  obtain ⟨Y, hF2⟩ : ∃ Y, fitQ X = Y := ⟨_, rfl⟩
  rw [hF1, hF2]
  replace hF1 := Lib.hid hF1
  replace hF2 := Lib.hid hF2
  have HB := Lib.hid (Below.refl w.heap.size w)
  obtain ⟨da, Aa, na, ca, ea, Ea, ma, fa, rfl⟩ := ha.shape
  have Va := Lib.hid ha
  clear ha
  obtain ⟨db, Ab, nb, cb, eb, Eb, mb, fb, rfl⟩ := hb.shape
  have Vb := Lib.hid hb
  clear hb
  replace a1 := Lib.hid a1
  replace a2 := Lib.hid a2
  replace b1 := Lib.hid b1
  replace b2 := Lib.hid b2
  replace hX := Lib.hid hX
  replace hE := Lib.hid hE
  replace x1 := Lib.hid x1
  replace x2 := Lib.hid x2
  go_enter Tryz.func33, Tryz.ntmps33
  have h := HoldG.new Va.out
  have b := al_below w (.cells #[.bool da, .slice Aa na ca, .bool ea, .slice Ea ma fa] 42)
  replace HB := Lib.hid (bstep HB.out b)
  replace Vb := Lib.hid (Vb.out.step b)
  clear b
  have Ha := Lib.hid h
  clear h Va
  have h := HoldG.new Vb.out
  simp only [World.size_alloc] at h
  have b := al_below (w.alloc (.cells #[.bool da, .slice Aa na ca, .bool ea, .slice Ea ma fa] 42)) (.cells #[.bool db, .slice Ab nb cb, .bool eb, .slice Eb mb fb] 42)
  replace HB := Lib.hid (bstep HB.out b)
  replace Ha := Lib.hid (Ha.out.below b)
  clear b
  have Hb := Lib.hid h
  clear h Vb
  have h := Blk4.new ((w.alloc (.cells #[.bool da, .slice Aa na ca, .bool ea, .slice Ea ma fa] 42)).alloc (.cells #[.bool db, .slice Ab nb cb, .bool eb, .slice Eb mb fb] 42)) 42 (.bool false) (.slice none 0 0) (.bool false) (.slice none 0 0)
  simp only [World.size_alloc] at h
  have b := al_below ((w.alloc (.cells #[.bool da, .slice Aa na ca, .bool ea, .slice Ea ma fa] 42)).alloc (.cells #[.bool db, .slice Ab nb cb, .bool eb, .slice Eb mb fb] 42)) (.cells #[.bool false, .slice none 0 0, .bool false, .slice none 0 0] 42)
  replace HB := Lib.hid (bstep HB.out b)
  replace Ha := Lib.hid (Ha.out.below b)
  replace Hb := Lib.hid (Hb.out.below b)
  clear b
  have R0 := Lib.hid (show Blk4 _ (w.heap.size + 1 + 1) 42 (.bool false) (.slice none 0 0) (.bool false) (.slice none 0 0) from h)
  clear h
  go_wp2_with fail
  refine gmul_reg rfl rfl rfl Ha.out Hb.out a1.out a2.out b1.out b2.out hX.out hE.out ?_
  intro w51 u9 u10 u11 u12 u13 u14 u15 u16 u17 u18 u19 u8 u20 u21 u7 g6 d6 A6 n6 c6 e6 E6 m6 f6 b h6 l6 q7
  subst q7
  simp only [List.foldl_cons, List.foldl_nil, List.setIfInBounds_toArray, List.set_cons_zero, List.set_cons_succ]
  simp only [World.size_alloc] at l6
  have z51 := b.size
  simp only [World.size_alloc] at z51
  replace z51 := Lib.hid z51
  replace HB := Lib.hid (bstep HB.out b)
  replace Ha := Lib.hid (Ha.out.below b)
  replace Hb := Lib.hid (Hb.out.below b)
  replace R0 := Lib.hid (R0.out.below b)
  have H6 := Lib.hid h6
  have L6 := Lib.hid l6
  clear h6 l6 b
  have gH60 := H6.out.c0
  have gH61 := H6.out.c1
  have gH62 := H6.out.c2
  have gH63 := H6.out.c3
  go_wp2_with fail
  refine (hF2.out ▸ hF1.out ▸ ranged_any X _ _ H6.out.2 (x1.out.mono (by omega)) (x2.out.mono (by omega))).mono ?_
  rintro e w52 ⟨v, rfl, h, b⟩
  obtain ⟨d52, A52, n52, c52, e52, E52, m52, f52, rfl⟩ := h.shape
  clear gH60 gH61 gH62 gH63
  have z52 := b.size
  replace z52 := Lib.hid z52
  replace HB := Lib.hid (bstep HB.out b)
  replace Ha := Lib.hid (Ha.out.below b)
  replace Hb := Lib.hid (Hb.out.below b)
  replace R0 := Lib.hid (R0.out.below b)
  replace H6 := Lib.hid (H6.out.below b)
  have V52 := Lib.hid h
  clear h b
  have gR00 := R0.out.c0
  have yR00 := R0.out.f0
  have gR01 := R0.out.c1
  have yR01 := R0.out.f1
  have gR02 := R0.out.c2
  have yR02 := R0.out.f2
  have gR03 := R0.out.c3
  have yR03 := R0.out.f3
  have HF := Lib.hid (retG (V52.out) R0.out HB.out (by omega))
  clear HB Ha Hb R0 H6 V52
  clear a1 a2 b1 b2 hX hE x1 x2 L6 hF1 hF2
  go_wp2_with fail
  exact bodyPost_ret (v := .tuple #[.agg #[.bool d52, .slice A52 n52 c52, .bool e52, .slice E52 m52 f52], .int .i64 E]) (by simp [results, Tryz.results33, go_sem, gR00, gR01, gR02, gR03]) rfl ⟨_, rfl, HF.out.1, HF.out.2.1⟩
set_option maxRecDepth 100000 in
set_option maxHeartbeats 4000000 in
theorem gdiv_x (a b : Rat) (u v : Value) (w : World) (ha : RepG w w.heap.size a u) (hb : RepG w w.heap.size b v) (a1 : Bits 20000 a.num) (a2 : Bits 20000 (a.den : Int)) (b1 : Bits 20000 b.num) (b2 : Bits 20000 (b.den : Int)) (X : Rat) (hX : Rat.divInt (a.num * (b.den : Int)) ((a.den : Int) * b.num) = X) (hE : makeE ((a.den : Int) * b.num) = 0) (x1 : Bits 50000 X.num) (x2 : Bits 50000 (X.den : Int)) :
    Calls Tryz.prog 35 #[u, v] w (NewGE (fitQ X) (fitR X) w) := by
  obtain ⟨E, hF1⟩ : ∃ E, fitR X = E := ⟨_, rfl⟩
  obtain ⟨Y, hF2⟩ : ∃ Y, fitQ X = Y := ⟨_, rfl⟩
  rw [hF1, hF2]
  replace hF1 := Lib.hid hF1
  replace hF2 := Lib.hid hF2
  have HB := Lib.hid (Below.refl w.heap.size w)
  obtain ⟨da, Aa, na, ca, ea, Ea, ma, fa, rfl⟩ := ha.shape
  have Va := Lib.hid ha
  clear ha
  obtain ⟨db, Ab, nb, cb, eb, Eb, mb, fb, rfl⟩ := hb.shape
  have Vb := Lib.hid hb
  clear hb
  replace a1 := Lib.hid a1
  replace a2 := Lib.hid a2
  replace b1 := Lib.hid b1
  replace b2 := Lib.hid b2
  replace hX := Lib.hid hX
  replace hE := Lib.hid hE
  replace x1 := Lib.hid x1
  replace x2 := Lib.hid x2
  go_enter Tryz.func35, Tryz.ntmps35
  have h := HoldG.new Va.out
  have b := al_below w (.cells #[.bool da, .slice Aa na ca, .bool ea, .slice Ea ma fa] 42)
  replace HB := Lib.hid (bstep HB.out b)
  replace Vb := Lib.hid (Vb.out.step b)
  clear b
  have Ha := Lib.hid h
  clear h Va
  have h := HoldG.new Vb.out
  simp only [World.size_alloc] at h
  have b := al_below (w.alloc (.cells #[.bool da, .slice Aa na ca, .bool ea, .slice Ea ma fa] 42)) (.cells #[.bool db, .slice Ab nb cb, .bool eb, .slice Eb mb fb] 42)
  replace HB := Lib.hid (bstep HB.out b)
  replace Ha := Lib.hid (Ha.out.below b)
  clear b
  have Hb := Lib.hid h
  clear h Vb
  have h := Blk4.new ((w.alloc (.cells #[.bool da, .slice Aa na ca, .bool ea, .slice Ea ma fa] 42)).alloc (.cells #[.bool db, .slice Ab nb cb, .bool eb, .slice Eb mb fb] 42)) 42 (.bool false) (.slice none 0 0) (.bool false) (.slice none 0 0)
  simp only [World.size_alloc] at h
  have b := al_below ((w.alloc (.cells #[.bool da, .slice Aa na ca, .bool ea, .slice Ea ma fa] 42)).alloc (.cells #[.bool db, .slice Ab nb cb, .bool eb, .slice Eb mb fb] 42)) (.cells #[.bool false, .slice none 0 0, .bool false, .slice none 0 0] 42)
  replace HB := Lib.hid (bstep HB.out b)
  replace Ha := Lib.hid (Ha.out.below b)
  replace Hb := Lib.hid (Hb.out.below b)
  clear b
  have R0 := Lib.hid (show Blk4 _ (w.heap.size + 1 + 1) 42 (.bool false) (.slice none 0 0) (.bool false) (.slice none 0 0) from h)
  clear h
  go_wp2_with fail
  refine gdiv_reg rfl rfl rfl Ha.out Hb.out a1.out a2.out b1.out b2.out hX.out hE.out ?_
  intro w51 u9 u10 u11 u12 u13 u14 u15 u16 u17 u18 u19 u8 u20 u21 u7 g6 d6 A6 n6 c6 e6 E6 m6 f6 b h6 l6 q7
  subst q7
  simp only [List.foldl_cons, List.foldl_nil, List.setIfInBounds_toArray, List.set_cons_zero, List.set_cons_succ]
  simp only [World.size_alloc] at l6
  have z51 := b.size
  simp only [World.size_alloc] at z51
  replace z51 := Lib.hid z51
  replace HB := Lib.hid (bstep HB.out b)
  replace Ha := Lib.hid (Ha.out.below b)
  replace Hb := Lib.hid (Hb.out.below b)
  replace R0 := Lib.hid (R0.out.below b)
  have H6 := Lib.hid h6
  have L6 := Lib.hid l6
  clear h6 l6 b
  have gH60 := H6.out.c0
  have gH61 := H6.out.c1
  have gH62 := H6.out.c2
  have gH63 := H6.out.c3
  go_wp2_with fail
  refine (hF2.out ▸ hF1.out ▸ ranged_any X _ _ H6.out.2 (x1.out.mono (by omega)) (x2.out.mono (by omega))).mono ?_
  rintro e w52 ⟨v, rfl, h, b⟩
  obtain ⟨d52, A52, n52, c52, e52, E52, m52, f52, rfl⟩ := h.shape
  clear gH60 gH61 gH62 gH63
  have z52 := b.size
  replace z52 := Lib.hid z52
  replace HB := Lib.hid (bstep HB.out b)
  replace Ha := Lib.hid (Ha.out.below b)
  replace Hb := Lib.hid (Hb.out.below b)
  replace R0 := Lib.hid (R0.out.below b)
  replace H6 := Lib.hid (H6.out.below b)
  have V52 := Lib.hid h
  clear h b
  have gR00 := R0.out.c0
  have yR00 := R0.out.f0
  have gR01 := R0.out.c1
  have yR01 := R0.out.f1
  have gR02 := R0.out.c2
  have yR02 := R0.out.f2
  have gR03 := R0.out.c3
  have yR03 := R0.out.f3
  have HF := Lib.hid (retG (V52.out) R0.out HB.out (by omega))
  clear HB Ha Hb R0 H6 V52
  clear a1 a2 b1 b2 hX hE x1 x2 L6 hF1 hF2
  go_wp2_with fail
  exact bodyPost_ret (v := .tuple #[.agg #[.bool d52, .slice A52 n52 c52, .bool e52, .slice E52 m52 f52], .int .i64 E]) (by simp [results, Tryz.results35, go_sem, gR00, gR01, gR02, gR03]) rfl ⟨_, rfl, HF.out.1, HF.out.2.1⟩
set_option maxRecDepth 100000 in
set_option maxHeartbeats 4000000 in
theorem gdiv_z (a b : Rat) (u v : Value) (w : World) (ha : RepG w w.heap.size a u) (hb : RepG w w.heap.size b v) (a1 : Bits 20000 a.num) (a2 : Bits 20000 (a.den : Int)) (b1 : Bits 20000 b.num) (b2 : Bits 20000 (b.den : Int)) (X : Rat) (hX : Rat.divInt (a.num * (b.den : Int)) ((a.den : Int) * b.num) = X) (hE : makeE ((a.den : Int) * b.num) = 1) (x1 : Bits 50000 X.num) (x2 : Bits 50000 (X.den : Int)) :
    Calls Tryz.prog 35 #[u, v] w (NewGE 0 1 w) := by
  have HB := Lib.hid (Below.refl w.heap.size w)
  obtain ⟨da, Aa, na, ca, ea, Ea, ma, fa, rfl⟩ := ha.shape
  have Va := Lib.hid ha
  clear ha
  obtain ⟨db, Ab, nb, cb, eb, Eb, mb, fb, rfl⟩ := hb.shape
  have Vb := Lib.hid hb
  clear hb
  replace a1 := Lib.hid a1
  replace a2 := Lib.hid a2
  replace b1 := Lib.hid b1
  replace b2 := Lib.hid b2
  replace hX := Lib.hid hX
  replace hE := Lib.hid hE
  replace x1 := Lib.hid x1
  replace x2 := Lib.hid x2
  go_enter Tryz.func35, Tryz.ntmps35
  have h := HoldG.new Va.out
  have b := al_below w (.cells #[.bool da, .slice Aa na ca, .bool ea, .slice Ea ma fa] 42)
  replace HB := Lib.hid (bstep HB.out b)
  replace Vb := Lib.hid (Vb.out.step b)
  clear b
  have Ha := Lib.hid h
  clear h Va
  have h := HoldG.new Vb.out
  simp only [World.size_alloc] at h
  have b := al_below (w.alloc (.cells #[.bool da, .slice Aa na ca, .bool ea, .slice Ea ma fa] 42)) (.cells #[.bool db, .slice Ab nb cb, .bool eb, .slice Eb mb fb] 42)
  replace HB := Lib.hid (bstep HB.out b)
  replace Ha := Lib.hid (Ha.out.below b)
  clear b
  have Hb := Lib.hid h
  clear h Vb
  have h := Blk4.new ((w.alloc (.cells #[.bool da, .slice Aa na ca, .bool ea, .slice Ea ma fa] 42)).alloc (.cells #[.bool db, .slice Ab nb cb, .bool eb, .slice Eb mb fb] 42)) 42 (.bool false) (.slice none 0 0) (.bool false) (.slice none 0 0)
  simp only [World.size_alloc] at h
  have b := al_below ((w.alloc (.cells #[.bool da, .slice Aa na ca, .bool ea, .slice Ea ma fa] 42)).alloc (.cells #[.bool db, .slice Ab nb cb, .bool eb, .slice Eb mb fb] 42)) (.cells #[.bool false, .slice none 0 0, .bool false, .slice none 0 0] 42)
  replace HB := Lib.hid (bstep HB.out b)
  replace Ha := Lib.hid (Ha.out.below b)
  replace Hb := Lib.hid (Hb.out.below b)
  clear b
  have R0 := Lib.hid (show Blk4 _ (w.heap.size + 1 + 1) 42 (.bool false) (.slice none 0 0) (.bool false) (.slice none 0 0) from h)
  clear h
  go_wp2_with fail
  refine gdiv_reg rfl rfl rfl Ha.out Hb.out a1.out a2.out b1.out b2.out hX.out hE.out ?_
  intro w51 u9 u10 u11 u12 u13 u14 u15 u16 u17 u18 u19 u8 u20 u21 u7 g6 d6 A6 n6 c6 e6 E6 m6 f6 b h6 l6 q7
  subst q7
  simp only [List.foldl_cons, List.foldl_nil, List.setIfInBounds_toArray, List.set_cons_zero, List.set_cons_succ]
  simp only [World.size_alloc] at l6
  have z51 := b.size
  simp only [World.size_alloc] at z51
  replace z51 := Lib.hid z51
  replace HB := Lib.hid (bstep HB.out b)
  replace Ha := Lib.hid (Ha.out.below b)
  replace Hb := Lib.hid (Hb.out.below b)
  replace R0 := Lib.hid (R0.out.below b)
  have H6 := Lib.hid h6
  have L6 := Lib.hid l6
  clear h6 l6 b
  have gH60 := H6.out.c0
  have gH61 := H6.out.c1
  have gH62 := H6.out.c2
  have gH63 := H6.out.c3
  go_wp2_with fail
  refine (ranged_err X _ _ H6.out.2 (x1.out.mono (by omega)) (x2.out.mono (by omega))).mono ?_
  rintro e w52 ⟨v, rfl, h, b⟩
  obtain ⟨d52, A52, n52, c52, e52, E52, m52, f52, rfl⟩ := h.shape
  clear gH60 gH61 gH62 gH63
  have z52 := b.size
  replace z52 := Lib.hid z52
  replace HB := Lib.hid (bstep HB.out b)
  replace Ha := Lib.hid (Ha.out.below b)
  replace Hb := Lib.hid (Hb.out.below b)
  replace R0 := Lib.hid (R0.out.below b)
  replace H6 := Lib.hid (H6.out.below b)
  have V52 := Lib.hid h
  clear h b
  have gR00 := R0.out.c0
  have yR00 := R0.out.f0
  have gR01 := R0.out.c1
  have yR01 := R0.out.f1
  have gR02 := R0.out.c2
  have yR02 := R0.out.f2
  have gR03 := R0.out.c3
  have yR03 := R0.out.f3
  have HF := Lib.hid (retG (V52.out) R0.out HB.out (by omega))
  clear HB Ha Hb R0 H6 V52
  clear a1 a2 b1 b2 hX hE x1 x2 L6
  go_wp2_with fail
  exact bodyPost_ret (v := .tuple #[.agg #[.bool d52, .slice A52 n52 c52, .bool e52, .slice E52 m52 f52], .int .i64 1]) (by simp [results, Tryz.results35, go_sem, gR00, gR01, gR02, gR03]) rfl ⟨_, rfl, HF.out.1, HF.out.2.1⟩
theorem quo_bits {p q : Int} {k : Nat} (hk : 1 ≤ k) (hp : Bits k p) (hq : Bits k q) : Bits k (Rat.divInt p q).num ∧ Bits k ((Rat.divInt p q).den : Int) := by
  have h2 : (2 : Int) ^ 1 ≤ 2 ^ k := pow_mono' (by omega) hk
  by_cases h0 : q = 0
  · subst h0
    rw [Rat.divInt_zero]
    exact ⟨Bits.zero k, by show (((1 : Int).natAbs : Nat) : Int) < 2 ^ k; simp; omega⟩
  · refine ⟨?_, ?_⟩
    · rw [rat_num h0]
      refine hp.le (Nat.le_trans (Int.natAbs_ediv_le_natAbs _ _) ?_)
      split <;> omega
    · rw [rat_den h0]
      exact hq.le (Nat.le_trans (Int.natAbs_ediv_le_natAbs _ _) (by omega))
theorem gmul_any (a b : Rat) (u v : Value) (w : World) (ha : RepG w w.heap.size a u) (hb : RepG w w.heap.size b v) (a1 : Bits 20000 a.num) (a2 : Bits 20000 (a.den : Int)) (b1 : Bits 20000 b.num) (b2 : Bits 20000 (b.den : Int)) : Calls Tryz.prog 33 #[u, v] w (NewGE (fitQ (a * b)) (fitR (a * b)) w) := by
  have h := quo_bits (k := 50000) (by omega) ((Bits.mul a1 b1).mono (by omega)) ((Bits.mul a2 b2).mono (by omega))
  rw [rat_mul'] at h
  have := Int.mul_pos (den_pos' a) (den_pos' b)
  exact gmul_x a b u v w ha hb a1 a2 b1 b2 (a * b) (rat_mul' a b) (make_nz (by omega)) h.1 h.2
theorem gdiv_any (a b : Rat) (u v : Value) (w : World) (ha : RepG w w.heap.size a u) (hb : RepG w w.heap.size b v) (a1 : Bits 20000 a.num) (a2 : Bits 20000 (a.den : Int)) (b1 : Bits 20000 b.num) (b2 : Bits 20000 (b.den : Int)) (h0 : b.num ≠ 0) : Calls Tryz.prog 35 #[u, v] w (NewGE (fitQ (a * b⁻¹)) (fitR (a * b⁻¹)) w) := by
  have h := quo_bits (k := 50000) (by omega) ((Bits.mul a1 b2).mono (by omega)) ((Bits.mul a2 b1).mono (by omega))
  rw [rat_div'] at h
  exact gdiv_x a b u v w ha hb a1 a2 b1 b2 (a * b⁻¹) (rat_div' a b) (make_nz (fun e => by rcases Int.mul_eq_zero.1 e with h1 | h1; exact absurd h1 (by have := den_pos' a; omega); exact h0 h1)) h.1 h.2
theorem gdiv_zero (a b : Rat) (u v : Value) (w : World) (ha : RepG w w.heap.size a u) (hb : RepG w w.heap.size b v) (a1 : Bits 20000 a.num) (a2 : Bits 20000 (a.den : Int)) (b1 : Bits 20000 b.num) (b2 : Bits 20000 (b.den : Int)) (h0 : b.num = 0) : Calls Tryz.prog 35 #[u, v] w (NewGE 0 1 w) := by
  have h := quo_bits (k := 50000) (by omega) ((Bits.mul a1 b2).mono (by omega)) ((Bits.mul a2 b1).mono (by omega))
  rw [rat_div'] at h
  exact gdiv_z a b u v w ha hb a1 a2 b1 b2 (a * b⁻¹) (rat_div' a b) (by rw [h0, Int.mul_zero]; rfl) h.1 h.2
end Go.Proofs.YtocooajlfpngdaaGreatDoor
namespace Go.Proofs.YtocooajlfpngdaaGreatDoor
open Go.RowKit
set_option linter.unusedVariables false

def Nm (z : Int) : Prop := Bits 1300 z
def IsP : Value → World → Prop := fun u _ => ∃ r : Int, u = .int .i64 r ∧ -9223372036854775808 ≤ r ∧ r ≤ 9223372036854775807
def IsNm : Value → World → Prop := fun u w => ∃ z, Nm z ∧ RepN w w.heap.size z u
def IsX (q : Int) : Value → World → Prop := fun u w => ∃ z, Nm z ∧ RepG w w.heap.size (Rat.divInt z q) u
def IsXE (q : Int) : Value → World → Prop := fun t w => ∃ v, t = .tuple #[v, .int .i64 0] ∧ ∃ z, Nm z ∧ RepG w w.heap.size (Rat.divInt z q) v
def HoldX (q : Int) (W : World) (g : Nat) (d : Bool) (A : Option Addr) (n c : Nat) (d' : Bool) (A' : Option Addr) (n' c' : Nat) : Prop := Blk4 W g 42 (.bool d) (.slice A n c) (.bool d') (.slice A' n' c') ∧ IsX q (.agg #[.bool d, .slice A n c, .bool d', .slice A' n' c']) W
theorem IsP.stb4 (ty : TypeId) : Stb4 ty IsP := ⟨fun _ _ _ h _ => h, fun _ _ _ _ _ _ _ _ _ _ _ _ _ _ _ h _ => h⟩
theorem IsNm.stb4 (ty : TypeId) : Stb4 ty IsNm := ⟨fun _ _ _ ⟨z, hz, h⟩ b => ⟨z, hz, RepN.step h b⟩, fun _ _ _ _ _ _ _ _ _ _ _ _ _ _ _ ⟨z, hz, h⟩ k => ⟨z, hz, by rw [set4_size]; exact RepN.stored4 h k⟩⟩
theorem IsX.stb4 (ty : TypeId) (q : Int) : Stb4 ty (IsX q) := ⟨fun _ _ _ ⟨z, hz, h⟩ b => ⟨z, hz, RepG.step h b⟩, fun _ _ _ _ _ _ _ _ _ _ _ _ _ _ _ ⟨z, hz, h⟩ k => ⟨z, hz, by rw [set4_size]; exact RepG.stored4 h k⟩⟩
theorem IsXE.stb4 (ty : TypeId) (q : Int) : Stb4 ty (IsXE q) := ⟨fun _ _ _ ⟨v, h0, z, hz, h⟩ b => ⟨v, h0, z, hz, RepG.step h b⟩, fun _ _ _ _ _ _ _ _ _ _ _ _ _ _ _ ⟨v, h0, z, hz, h⟩ k => ⟨v, h0, z, hz, by rw [set4_size]; exact RepG.stored4 h k⟩⟩
theorem op_addk {ops : Array Oper} {Q : Exit → Act → World → Prop} {k : Nat} {K : Act → World → Prop} {a : Act} {w : World} {d t : Tmp} {ty : TypeId} {pos : String} {af : Array Edge} {i j : Int} (ho : ops[k]? = some { dst := some d, op := .binOp .add 3 (.tmp t) (.const (.int .i64 j)) 3, type := ty, pos := pos, after := af, guard := none })
    (hv : a.tmps[t]? = some (.int .i64 i)) (hw : IntKind.i64.wrap (i + j) = i + j) (hK : K (a.put (some d) (.int .i64 (i + j))) w) : wpOp Tryz.prog ops Q k K a w := by
  refine op_wp ho rfl ?_
  unfold Oper.wp
  simp [execOp, hv, go_sem, hw]
  exact hK
def gfrac_reg_ops : Array Oper := #[
  { dst := some 23, op := .move (.tmp 0), type := 22, pos := "ref.go:198", after := #[], guard := none },
  { dst := some 24, op := .move (.tmp 1), type := 3, pos := "ref.go:198", after := #[], guard := none },
  { dst := some 25, op := .call { callee := .value (.func 12), args := #[.tmp 23, .tmp 24], argTypes := #[22, 3] }, type := 3, pos := "ref.go:198", after := #[⟨0, .data⟩, ⟨1, .data⟩], guard := none },
  { dst := some 26, op := .move (.tmp 0), type := 22, pos := "ref.go:198", after := #[], guard := none },
  { dst := some 27, op := .move (.tmp 1), type := 3, pos := "ref.go:198", after := #[], guard := none },
  { dst := some 28, op := .binOp .add 3 (.tmp 27) (.const (.int .i64 1)) 3, type := 3, pos := "ref.go:198", after := #[⟨4, .data⟩], guard := none },
  { dst := some 29, op := .call { callee := .value (.func 12), args := #[.tmp 26, .tmp 28], argTypes := #[22, 3] }, type := 3, pos := "ref.go:198", after := #[⟨3, .data⟩, ⟨5, .data⟩, ⟨2, .chain⟩], guard := none },
  { dst := some 30, op := .call { callee := .value (.func 11), args := #[.tmp 25, .tmp 29], argTypes := #[3, 3] }, type := 24, pos := "ref.go:198", after := #[⟨2, .data⟩, ⟨6, .data⟩, ⟨6, .chain⟩], guard := none },
  { dst := some 31, op := .load 24 (.tmp 5), type := 24, pos := "ref.go:198", after := #[], guard := none },
  { dst := some 32, op := .call { callee := .value (.func 19), args := #[.tmp 30, .tmp 31], argTypes := #[24, 24] }, type := 43, pos := "ref.go:198", after := #[⟨7, .data⟩, ⟨8, .data⟩, ⟨7, .chain⟩], guard := none },
  { dst := some 22, op := .move (.tmp 32), type := 43, pos := "ref.go:198", after := #[⟨9, .data⟩], guard := none },
  { dst := some 33, op := .extract (.tmp 22) 0, type := 42, pos := "ref.go:198", after := #[⟨10, .data⟩], guard := none },
  { dst := some 34, op := .extract (.tmp 22) 1, type := 37, pos := "ref.go:198", after := #[⟨10, .data⟩, ⟨14, .gcOnly .lateStores⟩], guard := none },
  { dst := some 6, op := .alloc 42, type := 0, pos := "ref.go:198", after := #[], guard := none },
  { dst := none, op := .store 42 (.tmp 6) (.tmp 33), type := 0, pos := "ref.go:198", after := #[⟨13, .data⟩, ⟨11, .data⟩, ⟨9, .chain⟩, ⟨0, .phase⟩, ⟨1, .phase⟩, ⟨2, .phase⟩, ⟨3, .phase⟩, ⟨4, .phase⟩, ⟨5, .phase⟩, ⟨6, .phase⟩, ⟨7, .phase⟩, ⟨8, .phase⟩, ⟨9, .phase⟩, ⟨10, .phase⟩, ⟨11, .phase⟩, ⟨12, .textOnly .lateStores⟩, ⟨13, .phase⟩], guard := none },
  { dst := some 7, op := .assign (.tmp 34), type := 37, pos := "ref.go:198", after := #[⟨12, .data⟩, ⟨14, .chain⟩, ⟨0, .phase⟩, ⟨1, .phase⟩, ⟨2, .phase⟩, ⟨3, .phase⟩, ⟨4, .phase⟩, ⟨5, .phase⟩, ⟨6, .phase⟩, ⟨7, .phase⟩, ⟨8, .phase⟩, ⟨9, .phase⟩, ⟨10, .phase⟩, ⟨11, .phase⟩, ⟨12, .phase⟩, ⟨13, .phase⟩, ⟨14, .phase⟩], guard := none }]
set_option maxRecDepth 100000 in
set_option maxHeartbeats 1000000 in
theorem gfrac_reg {Q : Exit → Act → World → Prop} {a0 : Act} {w0 : World} {A : Option Addr} {n c : Nat} {i : Int} {zs : List Int} {p5 : Nat} {q : Int} {dq : Bool} {Aq : Option Addr} {nq cq : Nat} (hN : a0.tmps.size = 36) (t0 : a0.tmps[0]? = some (.slice A n c)) (t1 : a0.tmps[1]? = some (.int .i64 i)) (t5 : a0.tmps[5]? = some (.pointer (some ⟨p5, 0, none⟩))) (HI : InI w0 A n zs) (hn : n ≤ 9223372036854775807) (hi0 : 0 ≤ i) (hi1 : i ≤ 100) (hwr : IntKind.i64.wrap (i + 1) = i + 1) (Hq : HoldN w0 p5 q dq Aq nq cq) (bq : Bits 1300 q) (hE : makeE q = 0)
    (hQ : ∀ (w : World) (v23 v24 v25 v26 v27 v28 v29 v30 v31 v32 v22 v33 v34 v7 : Value) (g6 : Nat) (d6 : Bool) (A6 : Option Addr) (n6 c6 : Nat) (e6 : Bool) (E6 : Option Addr) (m6 f6 : Nat), Below w0.heap.size w0 w → HoldX q w g6 d6 A6 n6 c6 e6 E6 m6 f6 → w0.heap.size ≤ g6 → Q .normal ⟨([(23, v23), (24, v24), (25, v25), (26, v26), (27, v27), (28, v28), (29, v29), (30, v30), (31, v31), (32, v32), (22, v22), (33, v33), (34, v34), (7, v7), (6, .pointer (some ⟨g6, 0, none⟩))] : List (Nat × Value)).foldl (fun ts p => ts.setIfInBounds p.1 p.2) a0.tmps, a0.defers⟩ w) :
    (Code.region 4 gfrac_reg_ops true).wp Tryz.prog Q a0 w0 := by
  refine wp_region_boxes4' (ty := 42) (cl := [.val 23 (Is (.slice A n c)), .val 24 (Is (.int .i64 i)), .val 25 (IsP), .val 26 (Is (.slice A n c)), .val 27 (Is (.int .i64 i)), .val 28 (Is (.int .i64 (i + 1))), .val 29 (IsP), .val 30 (IsNm), .val 31 (IsN (q)), .val 32 (IsXE q), .val 22 (IsXE q), .val 33 (IsX q), .val 34 (Is (.int .i64 0)), .new 6, .put 6 (IsX q), .val 7 (Is (.int .i64 0))]) 36 (by kernel_rfl) hN (by kernel_rfl) ?_ ?_ ?_
  · exact ⟨Is.stb4 _ _, Is.stb4 _ _, IsP.stb4 _, Is.stb4 _ _, Is.stb4 _ _, Is.stb4 _ _, IsP.stb4 _, IsNm.stb4 _, IsN.stb4 _ _, IsXE.stb4 _ _, IsXE.stb4 _ _, IsX.stb4 _ _, Is.stb4 _ _, trivial, IsX.stb4 _ _, Is.stb4 _ _, trivial⟩
  · refine ⟨?_, ?_, ?_, ?_, ?_, ?_, ?_, ?_, ?_, ?_, ?_, ?_, ?_, ?_, ?_, ?_, trivial⟩
    · intro l ac w h hd K hK
      exact op_move rfl ((h.same 0 (not_dst (by kernel_rfl))).trans t0) (hK _ _ rfl (Below.refl _ _))
    · intro l ac w h hd K hK
      exact op_move rfl ((h.same 1 (not_dst (by kernel_rfl))).trans t1) (hK _ _ rfl (Below.refl _ _))
    · intro l ac w h hd K hK
      obtain ⟨v, hv, rfl⟩ := h.fact 0 _ rfl (dep hd 0 (by kernel_rfl))
      obtain ⟨v', hv', rfl⟩ := h.fact 1 _ rfl (dep hd 1 (by kernel_rfl))
      exact op_call2 rfl hv hv' (enters_of Tryz.func12 (by kernel_rfl) rfl) ((gpick_any A n c (i) zs _ (HI.below h.below) hn (by omega) (by omega)).mono fun e w' ⟨r, he, h1, h2, h3⟩ => ⟨_, he, hK _ _ ⟨r, rfl, h1, h2⟩ (h3 ▸ Below.refl _ _)⟩)
    · intro l ac w h hd K hK
      exact op_move rfl ((h.same 0 (not_dst (by kernel_rfl))).trans t0) (hK _ _ rfl (Below.refl _ _))
    · intro l ac w h hd K hK
      exact op_move rfl ((h.same 1 (not_dst (by kernel_rfl))).trans t1) (hK _ _ rfl (Below.refl _ _))
    · intro l ac w h hd K hK
      obtain ⟨v, hv, rfl⟩ := h.fact 4 _ rfl (dep hd 4 (by kernel_rfl))
      exact op_addk rfl hv hwr (hK _ _ rfl (Below.refl _ _))
    · intro l ac w h hd K hK
      obtain ⟨v, hv, rfl⟩ := h.fact 3 _ rfl (dep hd 3 (by kernel_rfl))
      obtain ⟨v', hv', rfl⟩ := h.fact 5 _ rfl (dep hd 5 (by kernel_rfl))
      exact op_call2 rfl hv hv' (enters_of Tryz.func12 (by kernel_rfl) rfl) ((gpick_any A n c (i + 1) zs _ (HI.below h.below) hn (by omega) (by omega)).mono fun e w' ⟨r, he, h1, h2, h3⟩ => ⟨_, he, hK _ _ ⟨r, rfl, h1, h2⟩ (h3 ▸ Below.refl _ _)⟩)
    · intro l ac w h hd K hK
      obtain ⟨v, hv, r, rfl, h1, h2⟩ := h.fact 2 _ rfl (dep hd 2 (by kernel_rfl))
      obtain ⟨v', hv', r', rfl, h3, h4⟩ := h.fact 6 _ rfl (dep hd 6 (by kernel_rfl))
      exact op_call2 rfl hv hv' (enters_of Tryz.func11 (by kernel_rfl) rfl) ((gnumber_any r r' _ ⟨h1, h2⟩ ⟨h3, h4⟩).mono fun e w' ⟨z, hz, v, he, g1, g2⟩ => ⟨v, he, hK _ _ ⟨z, hz, g1⟩ g2⟩)
    · intro l ac w h hd K hK
      exact op_loadN rfl ((h.same 5 (not_dst (by kernel_rfl))).trans t5) (Hq.below h.below).c0 (Hq.below h.below).c1 (hK _ _ (Hq.below h.below).2 (Below.refl _ _))
    · intro l ac w h hd K hK
      obtain ⟨v, hv, z, hz, hF⟩ := h.fact 7 _ rfl (dep hd 7 (by kernel_rfl))
      obtain ⟨v', hv', hF'⟩ := h.fact 8 _ rfl (dep hd 8 (by kernel_rfl))
      exact op_call2 rfl hv hv' (enters_of Tryz.func19 (by kernel_rfl) rfl) ((gmake_any z q _ _ _ hF hF' (Bits.mono hz (by omega)) (bq.mono (by omega))).mono fun e w' ⟨v, he, h1, h2⟩ => ⟨.tuple #[v, .int .i64 0], by rw [he, hE], hK _ _ ⟨v, rfl, z, hz, h1⟩ h2⟩)
    · intro l ac w h hd K hK
      obtain ⟨v, hv, hF⟩ := h.fact 9 _ rfl (dep hd 9 (by kernel_rfl))
      exact op_move rfl hv (hK _ _ hF (Below.refl _ _))
    · intro l ac w h hd K hK
      obtain ⟨v, hv, u1, rfl, h1⟩ := h.fact 10 _ rfl (dep hd 10 (by kernel_rfl))
      exact op_extract0 rfl hv (hK _ _ h1 (Below.refl _ _))
    · intro l ac w h hd K hK
      obtain ⟨v, hv, u1, rfl, h1⟩ := h.fact 10 _ rfl (dep hd 10 (by kernel_rfl))
      exact op_extract1 rfl hv (hK _ _ rfl (Below.refl _ _))
    · intro ac w K hK
      exact op_newF rfl hK
    · refine ⟨⟨13, rfl⟩, fun l ac w h hd => ?_⟩
      obtain ⟨g, hg, hlt, e, A, n, c, e', A', n', c', hB⟩ := h.fact 13 _ rfl (dep hd 13 (by kernel_rfl))
      obtain ⟨v, hv, z, hz, hF⟩ := h.fact 11 _ rfl (dep hd 11 (by kernel_rfl))
      obtain ⟨d1, A1, n1, c1, d2, A2, n2, c2, rfl⟩ := RepG.shape hF
      exact ⟨g, d1, A1, n1, c1, d2, A2, n2, c2, e, A, n, c, e', A', n', c', hg, hlt, hB, ⟨z, hz, hF⟩, fun K hK => op_storeF rfl hg hv hB hK⟩
    · intro l ac w h hd K hK
      obtain ⟨v, hv, hF⟩ := h.fact 12 _ rfl (dep hd 12 (by kernel_rfl))
      exact op_assign rfl hv (hK _ _ hF (Below.refl _ _))
  · intro l ac w h hall
    obtain ⟨v23, q23, r23⟩ := h.fact 0 _ rfl (hall 0 (of_decide_eq_true (by kernel_rfl)))
    obtain ⟨v24, q24, r24⟩ := h.fact 1 _ rfl (hall 1 (of_decide_eq_true (by kernel_rfl)))
    obtain ⟨v25, q25, r25⟩ := h.fact 2 _ rfl (hall 2 (of_decide_eq_true (by kernel_rfl)))
    obtain ⟨v26, q26, r26⟩ := h.fact 3 _ rfl (hall 3 (of_decide_eq_true (by kernel_rfl)))
    obtain ⟨v27, q27, r27⟩ := h.fact 4 _ rfl (hall 4 (of_decide_eq_true (by kernel_rfl)))
    obtain ⟨v28, q28, r28⟩ := h.fact 5 _ rfl (hall 5 (of_decide_eq_true (by kernel_rfl)))
    obtain ⟨v29, q29, r29⟩ := h.fact 6 _ rfl (hall 6 (of_decide_eq_true (by kernel_rfl)))
    obtain ⟨v30, q30, r30⟩ := h.fact 7 _ rfl (hall 7 (of_decide_eq_true (by kernel_rfl)))
    obtain ⟨v31, q31, r31⟩ := h.fact 8 _ rfl (hall 8 (of_decide_eq_true (by kernel_rfl)))
    obtain ⟨v32, q32, r32⟩ := h.fact 9 _ rfl (hall 9 (of_decide_eq_true (by kernel_rfl)))
    obtain ⟨v22, q22, r22⟩ := h.fact 10 _ rfl (hall 10 (of_decide_eq_true (by kernel_rfl)))
    obtain ⟨v33, q33, r33⟩ := h.fact 11 _ rfl (hall 11 (of_decide_eq_true (by kernel_rfl)))
    obtain ⟨v34, q34, r34⟩ := h.fact 12 _ rfl (hall 12 (of_decide_eq_true (by kernel_rfl)))
    obtain ⟨v7, q7, r7⟩ := h.fact 15 _ rfl (hall 15 (of_decide_eq_true (by kernel_rfl)))
    obtain ⟨g6, q6, l6, d6, A6, n6, c6, e6, E6, m6, f6, B6, F6⟩ := h.fact 14 _ rfl (hall 14 (of_decide_eq_true (by kernel_rfl)))
    have ha := act_of [(23, v23), (24, v24), (25, v25), (26, v26), (27, v27), (28, v28), (29, v29), (30, v30), (31, v31), (32, v32), (22, v22), (33, v33), (34, v34), (7, v7), (6, .pointer (some ⟨g6, 0, none⟩))] h.defers h.size (List.forall_mem_cons.2 ⟨q23, List.forall_mem_cons.2 ⟨q24, List.forall_mem_cons.2 ⟨q25, List.forall_mem_cons.2 ⟨q26, List.forall_mem_cons.2 ⟨q27, List.forall_mem_cons.2 ⟨q28, List.forall_mem_cons.2 ⟨q29, List.forall_mem_cons.2 ⟨q30, List.forall_mem_cons.2 ⟨q31, List.forall_mem_cons.2 ⟨q32, List.forall_mem_cons.2 ⟨q22, List.forall_mem_cons.2 ⟨q33, List.forall_mem_cons.2 ⟨q34, List.forall_mem_cons.2 ⟨q7, List.forall_mem_cons.2 ⟨q6, fun _ h => by cases h⟩⟩⟩⟩⟩⟩⟩⟩⟩⟩⟩⟩⟩⟩⟩) (fun t ht => h.same t (fun hm => ht (in_dst (F := [23, 24, 25, 26, 27, 28, 29, 30, 31, 32, 22, 33, 34, 7, 6]) (by kernel_rfl) hm)))
    rw [ha]
    exact hQ w _ _ _ _ _ _ _ _ _ _ _ _ _ _ _ _ _ _ _ _ _ _ _ h.below ⟨B6, F6⟩ l6 
/-- a generated fraction -/
def Fr (x : Rat) : Prop := Bits 1300 x.num ∧ Bits 1300 (x.den : Int)
def FracG (w : World) (e : Ending) (w' : World) : Prop := ∃ x, Fr x ∧ NewG x w e w'
theorem fr_div {z q : Int} (hz : Nm z) (hq : Bits 1300 q) : Fr (Rat.divInt z q) := quo_bits (by omega) hz hq
theorem bits_1 : Bits 1300 1 := (Bits.i64 (by omega) (by omega)).mono (by omega)
set_option maxRecDepth 100000 in
set_option maxHeartbeats 2000000 in
theorem gfrac_any (A : Option Addr) (n c : Nat) (i : Int) (zs : List Int) (w : World) (h : InI w A n zs) (hn : n ≤ 9223372036854775807) (hi0 : 0 ≤ i) (hi1 : i ≤ 100) :
    Calls Tryz.prog 25 #[.slice A n c, .int .i64 i] w (FracG w) := by
  have e2 : IntKind.i64.wrap (i + 2) = i + 2 := IntWalk.i64_in _ (by omega)
  have e3 : IntKind.i64.wrap (i + 3) = i + 3 := IntWalk.i64_in _ (by omega)
  have e4 : wrap64 (i + 2) = i + 2 := IntWalk.wrap64_in _ (by omega)
  have e5 : wrap64 (i + 3) = i + 3 := IntWalk.wrap64_in _ (by omega)
  have e1 : IntKind.i64.wrap (i + 1) = i + 1 := IntWalk.i64_in _ (by omega)
  have HI := Lib.hid h
  clear h
  have HB := Lib.hid (Below.refl w.heap.size w)
  go_enter Tryz.func25, Tryz.ntmps25
  have h := Blk4.new w 42 (.bool false) (.slice none 0 0) (.bool false) (.slice none 0 0)
  have b := al_below w (.cells #[.bool false, .slice none 0 0, .bool false, .slice none 0 0] 42)
  replace HI := Lib.hid (HI.out.below b)
  replace HB := Lib.hid (bstep HB.out b)
  clear b
  have R0 := Lib.hid (show Blk4 _ (w.heap.size) 42 (.bool false) (.slice none 0 0) (.bool false) (.slice none 0 0) from h)
  clear h
  go_wp2_with fail
  refine (gpick_any A n c (i + 2) zs _ HI.out hn (by omega) (by omega)).mono ?_
  rintro e w_ ⟨r1, rfl, p1, q1, rfl⟩
  go_wp2_with fail
  refine (gpick_any A n c (i + 3) zs _ HI.out hn (by omega) (by omega)).mono ?_
  rintro e w_ ⟨r2, rfl, p2, q2, rfl⟩
  go_wp2_with fail
  refine (gnumber_any r1 r2 _ ⟨p1, q1⟩ ⟨p2, q2⟩).mono ?_
  rintro e w51 ⟨z, hz, v, rfl, h, b⟩
  obtain ⟨d51, A51, n51, c51, rfl⟩ := h.shape'
  have z51 := b.size
  simp only [World.size_alloc] at z51
  replace z51 := Lib.hid z51
  replace HI := Lib.hid (HI.out.below b)
  replace HB := Lib.hid (bstep HB.out b)
  replace R0 := Lib.hid (R0.out.below b)
  have V51 := Lib.hid h
  have BZ := Lib.hid (show Nm z from hz)
  clear h b hz
  have h := HoldN.new V51.out
  have b := al_below w51 (.cells #[.bool d51, .slice A51 n51 c51] 24)
  replace HI := Lib.hid (HI.out.below b)
  replace HB := Lib.hid (bstep HB.out b)
  replace R0 := Lib.hid (R0.out.below b)
  clear b
  have H51 := Lib.hid h
  clear h V51
  by_cases hne : n51 = 0
  · obtain rfl := hne
    clear BZ
    go_wp2_with fail
    refine (of_any 1 _ (by omega) (by omega)).mono ?_
    rintro e w52 ⟨v, rfl, h, b⟩
    obtain ⟨d52, A52, n52, c52, rfl⟩ := h.shape'
    have z52 := b.size
    simp only [World.size_alloc] at z52
    replace z52 := Lib.hid z52
    replace HI := Lib.hid (HI.out.below b)
    replace HB := Lib.hid (bstep HB.out b)
    replace R0 := Lib.hid (R0.out.below b)
    replace H51 := Lib.hid (H51.out.below b)
    have V52 := Lib.hid h
    clear h b
    have z51_ := z51.out
    have z52_ := z52.out
    have sH510 := H51.out.c0
    have tH510 := H51.out.1.f0
    have sH511 := H51.out.c1
    have tH511 := H51.out.1.f1
    have BK := Lib.hid H51.out.1
    have NB := Lib.hid (HoldN.made V52.out H51.out.1)
    replace HI := Lib.hid (HI.out.off (u := .bool d52) (u' := .slice A52 n52 c52) BK.out)
    replace HB := Lib.hid (below_off (u := .bool d52) (u' := .slice A52 n52 c52) (g := w51.heap.size) HB.out (by omega))
    replace R0 := Lib.hid (R0.out.off (u := .bool d52) (u' := .slice A52 n52 c52) (g := w51.heap.size) (by omega))
    replace V52 := Lib.hid (V52.out.st (u := .bool d52) (u' := .slice A52 n52 c52) BK.out)
    clear H51 BK
    have H51 := NB
    clear NB
    clear z51_ z52_
    clear V52
    go_wp2_with fail
    refine gfrac_reg (q := 1) rfl rfl rfl rfl HI.out hn (by omega) (by omega) e1 H51.out bits_1 (make_nz (by omega)) ?_
    intro w53 u23 u24 u25 u26 u27 u28 u29 u30 u31 u32 u22 u33 u34 u7 g6 d6 A6 n6 c6 e6 E6 m6 f6 b h6 l6
    obtain ⟨h60, y, hy, h61⟩ := h6
    simp only [List.foldl_cons, List.foldl_nil, List.setIfInBounds_toArray, List.set_cons_zero, List.set_cons_succ]
    simp only [size_set2] at l6
    have z53 := b.size
    replace z53 := Lib.hid z53
    replace HI := Lib.hid (HI.out.below b)
    replace HB := Lib.hid (bstep HB.out b)
    replace R0 := Lib.hid (R0.out.below b)
    replace H51 := Lib.hid (H51.out.below b)
    have H6 := Lib.hid (show HoldG _ _ _ _ _ _ _ _ _ _ _ from ⟨h60, h61⟩)
    have L6 := Lib.hid l6
    have HY := Lib.hid (fr_div hy bits_1)
    clear h60 h61 l6 b hy
    have gR00 := R0.out.c0
    have yR00 := R0.out.f0
    have gR01 := R0.out.c1
    have yR01 := R0.out.f1
    have gR02 := R0.out.c2
    have yR02 := R0.out.f2
    have gR03 := R0.out.c3
    have yR03 := R0.out.f3
    have gH60 := H6.out.c0
    have gH61 := H6.out.c1
    have gH62 := H6.out.c2
    have gH63 := H6.out.c3
    have HF := Lib.hid (retG (H6.out.2) R0.out HB.out (by omega))
    clear HI HB R0 H51 H6
    clear L6
    go_wp2_with fail
    exact bodyPost_ret (v := .agg #[.bool d6, .slice A6 n6 c6, .bool e6, .slice E6 m6 f6]) (by simp [results, Tryz.results25, go_sem, gR00, gR01, gR02, gR03]) rfl ⟨_, HY.out, _, rfl, HF.out.1, HF.out.2.1⟩
  · have hne1 : ((n51 : Int) == 0) = false := by simp [hne]
    have HE := Lib.hid (make_nz (fun e => hne (H51.out.2.zero.2 e)))
    go_wp2_with fail
    refine gfrac_reg (q := z) rfl rfl rfl rfl HI.out hn (by omega) (by omega) e1 H51.out BZ.out HE.out ?_
    intro w52 u23 u24 u25 u26 u27 u28 u29 u30 u31 u32 u22 u33 u34 u7 g6 d6 A6 n6 c6 e6 E6 m6 f6 b h6 l6
    obtain ⟨h60, y, hy, h61⟩ := h6
    simp only [List.foldl_cons, List.foldl_nil, List.setIfInBounds_toArray, List.set_cons_zero, List.set_cons_succ]
    simp only [World.size_alloc] at l6
    have z52 := b.size
    simp only [World.size_alloc] at z52
    replace z52 := Lib.hid z52
    replace HI := Lib.hid (HI.out.below b)
    replace HB := Lib.hid (bstep HB.out b)
    replace R0 := Lib.hid (R0.out.below b)
    replace H51 := Lib.hid (H51.out.below b)
    have H6 := Lib.hid (show HoldG _ _ _ _ _ _ _ _ _ _ _ from ⟨h60, h61⟩)
    have L6 := Lib.hid l6
    have HY := Lib.hid (fr_div hy BZ.out)
    clear h60 h61 l6 b hy
    have gR00 := R0.out.c0
    have yR00 := R0.out.f0
    have gR01 := R0.out.c1
    have yR01 := R0.out.f1
    have gR02 := R0.out.c2
    have yR02 := R0.out.f2
    have gR03 := R0.out.c3
    have yR03 := R0.out.f3
    have gH60 := H6.out.c0
    have gH61 := H6.out.c1
    have gH62 := H6.out.c2
    have gH63 := H6.out.c3
    have HF := Lib.hid (retG (H6.out.2) R0.out HB.out (by omega))
    clear HI HB R0 H51 H6
    clear HE BZ L6
    go_wp2_with fail
    exact bodyPost_ret (v := .agg #[.bool d6, .slice A6 n6 c6, .bool e6, .slice E6 m6 f6]) (by simp [results, Tryz.results25, go_sem, gR00, gR01, gR02, gR03]) rfl ⟨_, HY.out, _, rfl, HF.out.1, HF.out.2.1⟩
end Go.Proofs.YtocooajlfpngdaaGreatDoor
namespace Go.Proofs.YtocooajlfpngdaaGreatDoor
open Go.RowKit
set_option linter.unusedVariables false

/-- numerator and denominator have at most k bits -/
def Sz (k : Nat) (x : Rat) : Prop := Bits k x.num ∧ Bits k (x.den : Int)
theorem Sz.mono {j k : Nat} {x : Rat} (h : Sz j x) (hk : j ≤ k) : Sz k x := ⟨h.1.mono hk, h.2.mono hk⟩
theorem Sz.inF {k : Nat} {x : Rat} (h : Sz k x) (hk : k ≤ 16384) : InF x := ⟨bits_lt h.1 hk, by have := bits_lt h.2 hk; omega⟩
theorem Sz.neg {k : Nat} {x : Rat} (h : Sz k x) : Sz k (-x) := ⟨Bits.neg h.1, h.2⟩
theorem Sz.mul {j k : Nat} {a b : Rat} (ha : Sz j a) (hb : Sz k b) : Sz (j + k + 1) (a * b) := by
  have h := quo_bits (k := j + k + 1) (by omega) ((Bits.mul ha.1 hb.1).mono (by omega)) ((Bits.mul ha.2 hb.2).mono (by omega))
  rw [rat_mul'] at h
  exact h
theorem Sz.parts {j k : Nat} {a b : Rat} (ha : Sz j a) (hb : Sz k b) {g left right : Int} (g0 : 0 < g) (hl : left * g = a.den) (hr : right * g = b.den) (l0 : 0 < left) (r0 : 0 < right) :
    Bits (j + k) (a.num * right) ∧ Bits (j + k) (b.num * left) ∧ Bits (j + k + 1) (a.num * right + b.num * left) ∧ Bits (j + k) (left * (b.den : Int)) := by
  have le : ∀ {x y : Int}, 0 < x → x * g = y → x.natAbs ≤ y.natAbs := fun {x y} h0 h => by
    have h1 : x * 1 ≤ x * g := Int.mul_le_mul_of_nonneg_left (by omega) (by omega)
    omega
  have br : Bits k right := hb.2.le (le r0 hr)
  have bl : Bits j left := ha.2.le (le l0 hl)
  have h1 := Bits.mul ha.1 br
  have h2 := (Bits.mul hb.1 bl).mono (show k + j ≤ j + k by omega)
  exact ⟨h1, h2, Bits.add h1 h2, Bits.mul bl hb.2⟩
theorem Sz.add {j k : Nat} {a b : Rat} (ha : Sz j a) (hb : Sz k b) : Sz (j + k + 1) (a + b) := by
  obtain ⟨g, left, right, _, g0, _, _, l0, r0, hl, hr, _, _, e⟩ := rat_add a b
  obtain ⟨h1, h2, h3, h4⟩ := Sz.parts ha hb g0 hl hr l0 r0
  have h := quo_bits (k := j + k + 1) (by omega) h3 (h4.mono (by omega))
  rw [e] at h
  exact h
theorem fr_sz {x : Rat} (h : Fr x) : Sz 1300 x := h
section
variable {j k : Nat} {a b : Rat} {u v : Value} {w : World}
end
theorem size_setc (w : World) (p : Addr) (v : Value) : (w.setCell p v).heap.size = w.heap.size := by simp [World.setCell]
/-! behind a store into a box of four cells -/
section
variable {W W' : World} {p g : Nat} {x : Rat} {z : Int} {d d' b0 b1 : Bool} {A A' A0 A1 : Option Addr} {n c n' c' n0 k0 n1 k1 : Nat} {t : TypeId} {a1 a2 a3 a4 v : Value}
theorem HoldQ.off4 (h : HoldQ W p x d A n c d' A' n' c') (hk : Blk4 W g t (.bool b0) (.slice A0 n0 k0) (.bool b1) (.slice A1 n1 k1)) (hne : p ≠ g) : HoldQ ((((W.setCell ⟨g, 0, none⟩ a1).setCell ⟨g, 1, none⟩ a2).setCell ⟨g, 2, none⟩ a3).setCell ⟨g, 3, none⟩ a4) p x d A n c d' A' n' c' :=
  show HoldQ (set4 W g a1 a2 a3 a4) p x d A n c d' A' n' c' from ⟨(set4_heap W g _ _ _ _ p hne).trans h.1, by rw [set4_size]; exact h.2.stored4 hk⟩
theorem HoldG.off4 (h : HoldG W p x d A n c d' A' n' c') (hk : Blk4 W g t (.bool b0) (.slice A0 n0 k0) (.bool b1) (.slice A1 n1 k1)) (hne : p ≠ g) : HoldG ((((W.setCell ⟨g, 0, none⟩ a1).setCell ⟨g, 1, none⟩ a2).setCell ⟨g, 2, none⟩ a3).setCell ⟨g, 3, none⟩ a4) p x d A n c d' A' n' c' :=
  show HoldG (set4 W g a1 a2 a3 a4) p x d A n c d' A' n' c' from ⟨(set4_heap W g _ _ _ _ p hne).trans h.1, by rw [set4_size]; exact h.2.stored4 hk⟩
theorem HoldQ.made4 (h : RepF W W.heap.size x (.agg #[.bool d, .slice A n c, .bool d', .slice A' n' c'])) (hk : Blk4 W g 36 (.bool b0) (.slice A0 n0 k0) (.bool b1) (.slice A1 n1 k1)) : HoldQ ((((W.setCell ⟨g, 0, none⟩ (.bool d)).setCell ⟨g, 1, none⟩ (.slice A n c)).setCell ⟨g, 2, none⟩ (.bool d')).setCell ⟨g, 3, none⟩ (.slice A' n' c')) g x d A n c d' A' n' c' :=
  show HoldQ (set4 W g _ _ _ _) g x d A n c d' A' n' c' from ⟨set4_blk hk _ _ _ _, by rw [set4_size]; exact h.stored4 hk⟩
theorem HoldG.made4 (h : RepG W W.heap.size x (.agg #[.bool d, .slice A n c, .bool d', .slice A' n' c'])) (hk : Blk4 W g 42 (.bool b0) (.slice A0 n0 k0) (.bool b1) (.slice A1 n1 k1)) : HoldG ((((W.setCell ⟨g, 0, none⟩ (.bool d)).setCell ⟨g, 1, none⟩ (.slice A n c)).setCell ⟨g, 2, none⟩ (.bool d')).setCell ⟨g, 3, none⟩ (.slice A' n' c')) g x d A n c d' A' n' c' :=
  show HoldG (set4 W g _ _ _ _) g x d A n c d' A' n' c' from ⟨set4_blk hk _ _ _ _, by rw [set4_size]; exact h.stored4 hk⟩
theorem RepF.st4 (h : RepF W W.heap.size x v) (hk : Blk4 W g t (.bool b0) (.slice A0 n0 k0) (.bool b1) (.slice A1 n1 k1)) : RepF ((((W.setCell ⟨g, 0, none⟩ a1).setCell ⟨g, 1, none⟩ a2).setCell ⟨g, 2, none⟩ a3).setCell ⟨g, 3, none⟩ a4) ((((W.setCell ⟨g, 0, none⟩ a1).setCell ⟨g, 1, none⟩ a2).setCell ⟨g, 2, none⟩ a3).setCell ⟨g, 3, none⟩ a4).heap.size x v :=
  show RepF (set4 W g _ _ _ _) (set4 W g _ _ _ _).heap.size x v from by rw [set4_size]; exact h.stored4 hk
theorem RepG.st4 (h : RepG W W.heap.size x v) (hk : Blk4 W g t (.bool b0) (.slice A0 n0 k0) (.bool b1) (.slice A1 n1 k1)) : RepG ((((W.setCell ⟨g, 0, none⟩ a1).setCell ⟨g, 1, none⟩ a2).setCell ⟨g, 2, none⟩ a3).setCell ⟨g, 3, none⟩ a4) ((((W.setCell ⟨g, 0, none⟩ a1).setCell ⟨g, 1, none⟩ a2).setCell ⟨g, 2, none⟩ a3).setCell ⟨g, 3, none⟩ a4).heap.size x v :=
  show RepG (set4 W g _ _ _ _) (set4 W g _ _ _ _).heap.size x v from by rw [set4_size]; exact h.stored4 hk
theorem Blk4.off4 {tt : TypeId} {u1 u2 u3 u4 : Value} (h : Blk4 W p tt u1 u2 u3 u4) (hne : p ≠ g) : Blk4 ((((W.setCell ⟨g, 0, none⟩ a1).setCell ⟨g, 1, none⟩ a2).setCell ⟨g, 2, none⟩ a3).setCell ⟨g, 3, none⟩ a4) p tt u1 u2 u3 u4 := (set4_heap W g a1 a2 a3 a4 p hne).trans h
theorem below_off4 {w : World} (hb : Below w.heap.size w W) (hg : w.heap.size ≤ g) : Below w.heap.size w ((((W.setCell ⟨g, 0, none⟩ a1).setCell ⟨g, 1, none⟩ a2).setCell ⟨g, 2, none⟩ a3).setCell ⟨g, 3, none⟩ a4) := set4_below hb hg _ _ _ _
theorem InI.off4 {n0' : Nat} {zs : List Int} {B : Option Addr} (h : InI W B n0' zs) (hk : Blk4 W g t (.bool b0) (.slice A0 n0 k0) (.bool b1) (.slice A1 n1 k1)) : InI ((((W.setCell ⟨g, 0, none⟩ a1).setCell ⟨g, 1, none⟩ a2).setCell ⟨g, 2, none⟩ a3).setCell ⟨g, 3, none⟩ a4) B n0' zs :=
  show InI (set4 W g _ _ _ _) B n0' zs from ⟨by rw [set4_size]; exact h.1.off_blk4 hk (fun j hj => set4_heap _ _ _ _ _ _ j hj), h.2⟩
end
end Go.Proofs.YtocooajlfpngdaaGreatDoor
