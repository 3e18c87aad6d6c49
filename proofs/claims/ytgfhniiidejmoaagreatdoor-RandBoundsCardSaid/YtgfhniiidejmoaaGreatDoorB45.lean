/- Taking words until one fits, at most 64: rand.take[uint64]. · rand.Below. · rand.total, rand.Pick. · rand.Pick. -/
import Derived.Test.YtgfhniiidejmoaaGreatDoorB11
import Derived.Test.YtgfhniiidejmoaaGreatDoorB06
namespace Go.Proofs.YtgfhniiidejmoaaGreatDoor
open Go.RowKit Go.Shelf
set_option linter.unusedVariables false
attribute [local go_sem] Oper.semAt_some

/-- what lies in the boxes of take -/
def BoxT (w W : World) (z : Nat) (fv : Value) (t : Int) (x y : Int) : Prop :=
  Boxed W z 113 fv ∧ Boxed W (z + 1) 22 (.int .u64 x) ∧ Boxed W (z + 1 + 1) 3 (.int .i64 y) ∧ Boxed W (z + 1 + 1 + 1) 3 (.int .i64 t) ∧ Below z w W
theorem BoxT.own {w X Y : World} {z B0 : Nat} {fv : Value} {t x y : Int} {row : Option Nat} (h : BoxT w X z fv t x y) (hg : X.grownBy Y row) (hr : ∀ r, row = some r → B0 ≤ r ∧ ∃ o : Obj, X.heap[r]? = some o ∧ o.isCells = false) (h1 : z ≤ w.heap.size) (h2 : z ≤ B0) : BoxT w Y z fv t x y :=
  ⟨boxOn h.1 hg hr, boxOn h.2.1 hg hr, boxOn h.2.2.1 hg hr, boxOn h.2.2.2.1 hg hr, belowOn h.2.2.2.2 hg hr h1 h2⟩
theorem BoxT.drew {w X : World} {z : Nat} {fv : Value} {t x y : Int} (h : BoxT w X z fv t x y) : BoxT w X.drew z fv t x y := ⟨h.1, h.2.1, h.2.2.1, h.2.2.2.1, h.2.2.2.2.drew⟩
theorem BoxT.x {w W : World} {z : Nat} {fv : Value} {t x y : Int} (h : BoxT w W z fv t x y) (x' : Int) : BoxT w (W.setCell ⟨z + 1, 0, none⟩ (.int .u64 x')) z fv t x' y :=
  ⟨h.1.other (by omega) _, h.2.1.set _, h.2.2.1.other (by omega) _, h.2.2.2.1.other (by omega) _, h.2.2.2.2.setCell (p := ⟨z + 1, 0, none⟩) (by simp) _⟩
theorem BoxT.y {w W : World} {z : Nat} {fv : Value} {t x y : Int} (h : BoxT w W z fv t x y) (y' : Int) : BoxT w (W.setCell ⟨z + 1 + 1, 0, none⟩ (.int .i64 y')) z fv t x y' :=
  ⟨h.1.other (by omega) _, h.2.1.other (by omega) _, h.2.2.1.set _, h.2.2.2.1.other (by omega) _, h.2.2.2.2.setCell (p := ⟨z + 1 + 1, 0, none⟩) (by simp; omega) _⟩
theorem BoxT.t {w W : World} {z : Nat} {fv : Value} {t x y : Int} (h : BoxT w W z fv t x y) (t' : Int) : BoxT w (W.setCell ⟨z + 1 + 1 + 1, 0, none⟩ (.int .i64 t')) z fv t' x y :=
  ⟨h.1.other (by omega) _, h.2.1.other (by omega) _, h.2.2.1.other (by omega) _, h.2.2.2.1.set _, h.2.2.2.2.setCell (p := ⟨z + 1 + 1 + 1, 0, none⟩) (by simp; omega) _⟩

set_option maxRecDepth 100000 in
set_option maxHeartbeats 4000000 in
theorem take64_any (seed i : Int) (s : ByteArray) (hs : s.size ≤ 1000000) (hi0 : 0 ≤ i) (hi1 : i ≤ 1000000000) (b1 b2 b3 br : Nat) (p : Nat → Bool) (w : World) (l1 : b1 < w.heap.size) (l2 : b2 < w.heap.size) (l3 : b3 < w.heap.size)
    (c1 : w.cell? ⟨b1, 0, none⟩ = some (.int .i64 i)) (c2 : w.cell? ⟨b2, 0, none⟩ = some (.int .u64 seed)) (c3 : w.cell? ⟨b3, 0, none⟩ = some (.string s))
    (hfit : ∀ (j : Nat) (W : World), Below w.heap.size w W → Calls Tryz.prog 70 #[.int .u64 (wordI (sB s) seed (i + j)), .pointer (some ⟨br, 0, none⟩)] W fun e W' => e = .returned (.bool (p j)) ∧ W = W') :
    Calls Tryz.prog 68 #[.func (.func 90) #[] #[.pointer (some ⟨b1, 0, none⟩), .pointer (some ⟨b2, 0, none⟩), .pointer (some ⟨b3, 0, none⟩)], .func (.func 70) #[] #[.pointer (some ⟨br, 0, none⟩)]] w
      fun e w' => e = .returned (.tuple #[.int .u64 (wordI (sB s) seed (i + firstJ p)), .int .i64 (i + firstJ p + 1)]) ∧ Below w.heap.size w w' := by
  have HSQ := Lib.hid (words1_on 7 (by omega) seed i s hs hi0 hi1 b1 b2 b3 w l1 l2 l3 c1 c2 c3)
  have HF := Lib.hid hfit
  clear hfit c1 c2 c3 l1 l2 l3
  refine (callsIn_wide (n := 8)).1 ?_
  refine callsIn_of_wp_marks Tryz.func68 rfl trivial ?_ rfl
  simp only [Tryz.ntmps68, List.size_toArray, List.length_cons, List.length_nil, Nat.reduceAdd, Nat.reduceSub, Array.replicate_succ, Array.replicate_zero, List.push_toArray, List.append_toArray, List.nil_append, List.cons_append]
  gi_wp2
  have hb0 : Below w.heap.size w ((((w.alloc (.cells #[.func (.func 70) #[] #[.pointer (some ⟨br, 0, none⟩)]] 113)).alloc (.cells #[.int .u64 0] 22)).alloc (.cells #[.int .i64 0] 3)).alloc (.cells #[.int .i64 0] 3)) :=
    ((((Below.refl _ w).alloc (Nat.le_refl _) _).alloc (by simp) _).alloc (by simp; omega) _).alloc (by simp; omega) _
  have hbx : BoxT w ((((w.alloc (.cells #[.func (.func 70) #[] #[.pointer (some ⟨br, 0, none⟩)]] 113)).alloc (.cells #[.int .u64 0] 22)).alloc (.cells #[.int .i64 0] 3)).alloc (.cells #[.int .i64 0] 3)) w.heap.size (.func (.func 70) #[] #[.pointer (some ⟨br, 0, none⟩)]) 0 0 0 := by
    have h1 := Boxed.new (w.alloc (.cells #[.func (.func 70) #[] #[.pointer (some ⟨br, 0, none⟩)]] 113)) 22 (.int .u64 0)
    have h2 := Boxed.new ((w.alloc (.cells #[.func (.func 70) #[] #[.pointer (some ⟨br, 0, none⟩)]] 113)).alloc (.cells #[.int .u64 0] 22)) 3 (.int .i64 0)
    have h3 := Boxed.new (((w.alloc (.cells #[.func (.func 70) #[] #[.pointer (some ⟨br, 0, none⟩)]] 113)).alloc (.cells #[.int .u64 0] 22)).alloc (.cells #[.int .i64 0] 3)) 3 (.int .i64 0)
    simp only [World.size_alloc] at h1 h2 h3
    exact ⟨(((Boxed.new w _ _).alloc _).alloc _).alloc _, (h1.alloc _).alloc _, h2.alloc _, h3, hb0⟩
  refine range_on rfl (by omega) (gf := 90) (lb := #[.pointer (some ⟨b1, 0, none⟩), .pointer (some ⟨b2, 0, none⟩), .pointer (some ⟨b3, 0, none⟩)]) rfl trivial (enters_of Tryz.func90 (by kernel_rfl) rfl)
    HSQ.out hb0 belowK_t (belowK_b (by simp; omega)) (fun _ => rfl)
    (fun k W => k < 64 ∧ (∀ j, j < k → p j = false) ∧ ∃ x y, BoxT w W w.heap.size (.func (.func 70) #[] #[.pointer (some ⟨br, 0, none⟩)]) k x y)
    (fun c W => c = .exit 0 ∧ ∃ k t : Nat, IsFirst p k ∧ BoxT w W w.heap.size (.func (.func 70) #[] #[.pointer (some ⟨br, 0, none⟩)]) t (wordI (sB s) seed (i + k)) (i + k + 1))
    (fun k X Y row hs hg hr => ⟨hs.1, hs.2.1, by obtain ⟨x, y, h⟩ := hs.2.2; exact ⟨x, y, h.own hg hr (Nat.le_refl _) (by simp; omega)⟩⟩)
    (fun c X Y row hs hg hr => ⟨hs.1, by obtain ⟨k, t, hf, h⟩ := hs.2; exact ⟨k, t, hf, h.own hg hr (Nat.le_refl _) (by simp; omega)⟩⟩)
    (fun k W h => h.1) ⟨by omega, fun j hj => by omega, 0, 0, hbx⟩
    (fun q W => q.2.1 = q.1 ∧ q.2.2 = { tmps := #[.func (.func 90) #[] #[.pointer (some ⟨b1, 0, none⟩), .pointer (some ⟨b2, 0, none⟩), .pointer (some ⟨b3, 0, none⟩)], .func (.func 70) #[] #[.pointer (some ⟨br, 0, none⟩)], undef, .pointer (some ⟨w.heap.size, 0, none⟩), .pointer (some ⟨w.heap.size + 1, 0, none⟩), .pointer (some ⟨w.heap.size + 1 + 1, 0, none⟩), .pointer (some ⟨w.heap.size + 1 + 1 + 1, 0, none⟩), .func (.func 90) #[] #[.pointer (some ⟨b1, 0, none⟩), .pointer (some ⟨b2, 0, none⟩), .pointer (some ⟨b3, 0, none⟩)], .int .u64 (wordI (sB s) seed (i + q.1)), .int .i64 (i + q.1 + 1), undef, undef, undef, undef, undef, undef, undef, undef, undef, undef, undef], defers := [] } ∧ q.1 < 64 ∧ (∀ j, j < q.1 → p j = false) ∧ BoxT w W w.heap.size (.func (.func 70) #[] #[.pointer (some ⟨br, 0, none⟩)]) q.1 (wordI (sB s) seed (i + q.1)) (i + q.1 + 1))
    (fun q X Y row hs hg hr => ⟨hs.1, hs.2.1, hs.2.2.1, hs.2.2.2.1, hs.2.2.2.2.own hg hr (Nat.le_refl _) (by simp; omega)⟩) ?assign ?body ?stop
  case assign =>
    rintro l k x W K ⟨hk, hp, x0, y0, hB⟩ rfl hK
    have e1 := hB.2.1.cell
    have e2 := hB.2.1.frozen
    have e3 := hB.2.2.1.cell
    have e4 := hB.2.2.1.frozen
    have HB := Lib.hid hB
    have HP := Lib.hid hp
    clear hbx hb0 hB hp
    simp only [encW]
    gi_wp2
    exact hK _ _ (((KeepsOthers.setCell _ _ _).trans (KeepsOthers.setCell _ _ _)).from _) (((Below.refl _ W).setCell (p := ⟨w.heap.size + 1, 0, none⟩) (by simp) _).setCell (p := ⟨w.heap.size + 1 + 1, 0, none⟩) (by simp; omega) _) ⟨by trivial, rfl, hk, HP.out, (HB.out.x _).y _⟩
  case body =>
    rintro l k x a' W ⟨h1, h2, hk, hp, hB⟩
    simp only at h1 h2 hk hp hB
    subst h1 h2
    have e0 := hB.1.cell
    have e1 := hB.2.1.cell
    have e3 := hB.2.2.2.1.cell
    have e4 := hB.2.2.2.1.frozen
    have HB := Lib.hid hB
    have HP := Lib.hid hp
    clear hbx hb0 hB hp
    by_cases h63 : x = 63
    · have hd : (((x : Int) + 1 == 64)) = true := by simp; omega
      have H63 := Lib.hid h63
      clear h63
      gi_wp2
      refine ⟨fun _ h => (by cases h), ?_⟩
      gi_wp2
      exact ⟨(KeepsOthers.setCell _ _ _).from _, rfl, x, x + 1, ⟨by omega, .inl H63.out, HP.out⟩, by have := HB.out.t (x + 1); simpa using this⟩
    · have hd : (((x : Int) + 1 == 64)) = false := by simp; omega
      have hcall := HF.out x (W.setCell ⟨w.heap.size + 1 + 1 + 1, 0, none⟩ (.int .i64 (x + 1))) (HB.out.2.2.2.2.setCell (p := ⟨w.heap.size + 1 + 1 + 1, 0, none⟩) (by simp; omega) _)
      have hkb : Below w.heap.size W (W.setCell ⟨w.heap.size + 1 + 1 + 1, 0, none⟩ (.int .i64 (x + 1))) := (Below.refl _ W).setCell (p := ⟨w.heap.size + 1 + 1 + 1, 0, none⟩) (by simp; omega) _
      have HC := Lib.hid hcall
      have HK := Lib.hid hkb
      clear hcall hkb
      cases hpk : p x
      · rw [hpk] at HC
        have HPK := Lib.hid hpk
        clear hpk
        gi_wp2_with (refine ⟨trivial, ?_⟩; gi_at_call 70; refine (CallsIn.inRound l (callsIn_wide.2 HC.out)).mono ?_; rintro e w' ⟨rfl, rfl⟩)
        exact ⟨(KeepsOthers.setCell _ _ _).from _, HK.out, by omega, fun j hj => by
          by_cases e : j = x
          · rw [e]; exact HPK.out
          · exact HP.out j (by omega), _, _, by have := HB.out.t (x + 1); simpa using this⟩
      · rw [hpk] at HC
        have HPK := Lib.hid hpk
        clear hpk
        gi_wp2_with (refine ⟨trivial, ?_⟩; gi_at_call 70; refine (CallsIn.inRound l (callsIn_wide.2 HC.out)).mono ?_; rintro e w' ⟨rfl, rfl⟩)
        exact ⟨(KeepsOthers.setCell _ _ _).from _, rfl, x, x + 1, ⟨by omega, .inr HPK.out, HP.out⟩, by have := HB.out.t (x + 1); simpa using this⟩
  case stop =>
    rintro D c W hD ⟨rfl, k, t, hF, hB⟩ hDef
    have HJ := Lib.hid (firstJ_of hF)
    clear hF
    have e1 := hB.2.1.cell
    have e2 := hB.2.1.frozen
    have e3 := hB.2.2.1.cell
    have e4 := hB.2.2.1.frozen
    have HB := Lib.hid hB
    have HD := Lib.hid hDef
    clear hbx hb0 hB hDef
    gi_wp2
    gi_region
    have hD2 : ((W.setCell ⟨w.heap.size + 1, 0, none⟩ (.int .u64 (wordI (sB s) seed (i + k)))).setCell ⟨w.heap.size + 1 + 1, 0, none⟩ (.int .i64 (i + k + 1))).drew.heap[D]? = some (.deferred (some [])) := (KeepsOthers.setCell _ _ _).same D _ ((KeepsOthers.setCell _ _ _).same D _ HD.out rfl) rfl
    have hX := (((HB.out.x (wordI (sB s) seed (i + k))).y (i + k + 1)).drew).own (grownBy_putObj' _ D (.deferred none)) (B0 := D) (fun r e => by cases e; exact ⟨Nat.le_refl _, _, hD2, rfl⟩) (Nat.le_refl _) (by simp at hD; omega)
    have hx1 := hX.2.1.cell
    have hx2 := hX.2.2.1.cell
    have HX := Lib.hid hX.2.2.2.2
    have HD2 := Lib.hid hD2
    clear hX hD2
    all_goals
      gi_wp2
      refine ⟨by simp, .inl ⟨_, _, rfl, run_takeDeferred HD2.out, ?_⟩⟩
      exact ⟨.tuple #[.int .u64 (wordI (sB s) seed (i + k)), .int .i64 (i + k + 1)], by simp [results, Tryz.results68, go_sem, hx1, hx2], by rw [HJ.out], HX.out⟩
end Go.Proofs.YtgfhniiidejmoaaGreatDoor
namespace Go.Proofs.YtgfhniiidejmoaaGreatDoor
open Go.RowKit Go.Shelf
set_option linter.unusedVariables false

/-- does a word count for the bound n? -/
def fitW (n x : Int) : Bool := decide (x ≤ 18446744073709551615 - 18446744073709551616 % n)
/-- how many words are passed over -/
def belowJ (lab : List Int) (seed i n : Int) : Nat := firstJ fun j => fitW n (wordI lab seed (i + j))
/-- what Below gives -/
def belowV (lab : List Int) (seed i n : Int) : Int := wordI lab seed (i + belowJ lab seed i n) % n
theorem belowJ_le (lab : List Int) (seed i n : Int) : belowJ lab seed i n ≤ 63 := (firstJ_is _).1
theorem belowV_bd (lab : List Int) (seed i n : Int) (hn : 1 ≤ n) : 0 ≤ belowV lab seed i n ∧ belowV lab seed i n < n := ⟨Int.emod_nonneg _ (by omega), Int.emod_lt_of_pos _ (by omega)⟩
theorem rest_eq (n : Int) : (18446744073709551616 - n) % n = 18446744073709551616 % n := by rw [Int.sub_emod, Int.emod_self, Int.sub_zero, Int.emod_emod]
theorem rest_bd (n : Int) (hn : 1 ≤ n) : 0 ≤ 18446744073709551616 % n ∧ 18446744073709551616 % n < n := ⟨Int.emod_nonneg _ (by omega), Int.emod_lt_of_pos _ (by omega)⟩

set_option maxRecDepth 100000 in
set_option maxHeartbeats 2000000 in
theorem below_any (seed i n : Int) (s : ByteArray) (w : World) (hs : s.size ≤ 1000000) (hi0 : 0 ≤ i) (hi1 : i ≤ 1000000000) (hn : 1 ≤ n) (hn1 : n ≤ 4611686018427387904) :
    Calls Tryz.prog 39 #[.int .u64 seed, .string s, .int .i64 i, .int .i64 n] w fun e w' => e = .returned (.tuple #[.int .i64 (belowV (sB s) seed i n), .int .i64 (i + belowJ (sB s) seed i n + 1)]) ∧ Below w.heap.size w w' := by
  have d1 : ¬ n < 1 := by omega
  have d2 : ¬ 4611686018427387904 < n := by omega
  have hne : ¬ n = 0 := by omega
  go_enter Tryz.func39, Tryz.ntmps39
  obtain ⟨R, hR⟩ : ∃ R, R = 18446744073709551616 % n := ⟨_, rfl⟩
  have hr : (IntKind.u64.wrap (-n)).tmod n = R := by
    rw [IntKind.wrap_u64, show (-n) % 18446744073709551616 = 18446744073709551616 - n from by omega, Int.tmod_eq_emod_of_nonneg (by omega), rest_eq, hR]
  have hRb : 0 ≤ R ∧ R < n := by rw [hR]; exact rest_bd n hn
  have HR := Lib.hid hR
  have HRR := Lib.hid hr
  clear hR hr
  go_wp2_with fail
  rw [HRR.out]
  refine (rwords_any seed i s _).mono ?_
  rintro e w1 ⟨rfl, rfl⟩
  go_wp2_with fail
  have k0 := Boxed.new w 22 (.int .u64 R)
  have k1 := Boxed.new (w.alloc (.cells #[.int .u64 R] 22)) 22 (.int .u64 seed)
  have k2 := Boxed.new ((w.alloc (.cells #[.int .u64 R] 22)).alloc (.cells #[.int .u64 seed] 22)) 9 (.string s)
  have k3 := Boxed.new (((w.alloc (.cells #[.int .u64 R] 22)).alloc (.cells #[.int .u64 seed] 22)).alloc (.cells #[.string s] 9)) 3 (.int .i64 i)
  simp only [World.size_alloc] at k1 k2 k3
  have hb4 : Below w.heap.size w ((((w.alloc (.cells #[.int .u64 R] 22)).alloc (.cells #[.int .u64 seed] 22)).alloc (.cells #[.string s] 9)).alloc (.cells #[.int .i64 i] 3)) :=
    ((((Below.refl _ w).alloc (Nat.le_refl _) _).alloc (by simp) _).alloc (by simp; omega) _).alloc (by simp; omega) _
  have HB4 := Lib.hid hb4
  have HK0 := Lib.hid (((k0.alloc (.cells #[.int .u64 seed] 22)).alloc (.cells #[.string s] 9)).alloc (.cells #[.int .i64 i] 3))
  have hk1 := ((k1.alloc (.cells #[.string s] 9)).alloc (.cells #[.int .i64 i] 3)).cell
  have hk2 := (k2.alloc (.cells #[.int .i64 i] 3)).cell
  have hk3 := k3.cell
  refine (take64_any seed i s hs hi0 hi1 _ _ _ _ (fun j => fitW n (wordI (sB s) seed (i + j))) _ (by simp <;> omega) (by simp <;> omega) (by simp <;> omega) hk3 hk1 hk2 ?_).mono ?_
  · intro j W hb
    have hw := wordI_u64 (sB s) seed (i + j)
    have h := below1_any (wordI (sB s) seed (i + j)) R w.heap.size W hw.1 hw.2 hRb.1 (by omega) ((hb.cell (p := ⟨w.heap.size, 0, none⟩) (by simp; omega)).trans HK0.out.cell)
    rw [HR.out] at h
    exact h
  rintro e w2 ⟨rfl, hb⟩
  have HB := Lib.hid (HB4.out.trans (hb.mono HB4.out.size))
  have hw := wordI_u64 (sB s) seed (i + belowJ (sB s) seed i n)
  have hVb := belowV_bd (sB s) seed i n hn
  have hV : belowV (sB s) seed i n = (wordI (sB s) seed (i + belowJ (sB s) seed i n)).tmod n := (Int.tmod_eq_emod_of_nonneg hw.1).symm
  rw [hV] at hVb
  obtain ⟨J, hJ⟩ : ∃ J, belowJ (sB s) seed i n = J := ⟨_, rfl⟩
  rw [show firstJ (fun j => fitW n (wordI (sB s) seed (i + j))) = J from hJ]
  rw [hJ] at hw hV hVb
  obtain ⟨X, hX⟩ : ∃ X, wordI (sB s) seed (i + J) = X := ⟨_, rfl⟩
  rw [hX] at hw hV hVb ⊢
  have HV := Lib.hid hV
  have HJ := Lib.hid hJ
  have hem := Int.tmod_eq_emod_of_nonneg (b := n) hw.1
  rw [hem] at hVb
  have HEM := Lib.hid hem
  clear hb hJ hX hb4 k0 k1 k2 k3 hk1 hk2 hk3 hV hem
  go_wp2_with fail
  go_ret2
  have he : Ending.returned (.tuple #[.int .i64 (X % n), .int .i64 (i + J + 1)]) = .returned (.tuple #[.int .i64 (belowV (sB s) seed i n), .int .i64 (i + belowJ (sB s) seed i n + 1)]) := by rw [HV.out, HJ.out, HEM.out]
  exact ⟨he, HB.out⟩
end Go.Proofs.YtgfhniiidejmoaaGreatDoor
namespace Go.Proofs.YtgfhniiidejmoaaGreatDoor
open Go.RowKit Go.Shelf
set_option linter.unusedVariables false

def sumL : List Int → Int
  | [] => 0
  | x :: l => x + sumL l
theorem sumL_append : ∀ (a b : List Int), sumL (a ++ b) = sumL a + sumL b := by
  intro a b
  induction a with
  | nil => simp [sumL]
  | cons x a ih => simp only [List.cons_append, sumL, ih]; omega
theorem sumL_snoc (zs : List Int) (k : Nat) (h : k < zs.length) : sumL (zs.take (k + 1)) = sumL (zs.take k) + zs[k]?.getD 0 := by
  rw [take_snoc_id zs k h, sumL_append]; simp [sumL]
/-- a weight that may be -/
def okW (x : Int) : Prop := 0 ≤ x ∧ x ≤ 1099511627776
instance (x : Int) : Decidable (okW x) := inferInstanceAs (Decidable (_ ∧ _))
def okL (ws : List Int) (k : Nat) : Prop := ∀ j, j < k → okW (ws[j]?.getD 0)
theorem okL_succ {ws : List Int} {k : Nat} (h : okL ws k) (hk : okW (ws[k]?.getD 0)) : okL ws (k + 1) := fun j hj => by
  by_cases e : j = k
  · rw [e]; exact hk
  · exact h j (by omega)
theorem sumL_bd (ws : List Int) : ∀ k, k ≤ ws.length → okL ws k → 0 ≤ sumL (ws.take k) ∧ sumL (ws.take k) ≤ 1099511627776 * k := by
  intro k
  induction k with
  | zero => intro _ _; simp [sumL]
  | succ k ih =>
    intro hk h
    have h1 := ih (by omega) (fun j hj => h j (by omega))
    have h2 := h k (by omega)
    rw [sumL_snoc ws k (by omega)]
    unfold okW at h2
    omega
theorem sumL_mono (ws : List Int) (h : okL ws ws.length) (k j : Nat) (hk : k ≤ j) (hj : j ≤ ws.length) : sumL (ws.take k) ≤ sumL (ws.take j) := by
  obtain ⟨d, rfl⟩ : ∃ d, j = k + d := ⟨j - k, by omega⟩
  clear hk
  induction d with
  | zero => exact Int.le_refl _
  | succ d ih =>
    have h1 := ih (by omega)
    have h2 := sumL_snoc ws (k + d) (by omega)
    have h3 := h (k + d) (by omega)
    unfold okW at h3
    rw [show k + (d + 1) = k + d + 1 from rfl, h2]; omega
/-- may these be the weights of a choice? -/
def goodW (ws : List Int) : Prop := ws.length ≤ 4096 ∧ okL ws ws.length ∧ 0 < sumL ws
/-- what total gives -/
noncomputable def totI (ws : List Int) : Int := by
  classical exact if goodW ws then sumL ws else 0
theorem totI_good {ws : List Int} (h : goodW ws) : totI ws = sumL ws := by unfold totI; rw [if_pos h]
theorem totI_bad {ws : List Int} (h : ¬ goodW ws) : totI ws = 0 := by unfold totI; rw [if_neg h]
theorem totI_sum {ws : List Int} (h1 : ws.length ≤ 4096) (h2 : okL ws ws.length) : totI ws = sumL ws := by
  by_cases h : goodW ws
  · exact totI_good h
  · rw [totI_bad h]
    have h3 := (sumL_bd ws _ (Nat.le_refl _) h2).1
    rw [List.take_length] at h3
    have : ¬ 0 < sumL ws := fun h4 => h ⟨h1, h2, h4⟩
    omega
theorem good_bd {ws : List Int} (h : goodW ws) : 1 ≤ sumL ws ∧ sumL ws ≤ 4503599627370496 := by
  have h1 := sumL_bd ws _ (Nat.le_refl _) h.2.1
  rw [List.take_length] at h1
  have := h.1; have := h.2.2
  omega

set_option maxHeartbeats 1000000 in
theorem total_any (A : Option Addr) (n c : Nat) (ws : List Int) (w : World) (hS : Sl .i64 w w.heap.size A n ws) (hn : n ≤ 9223372036854775807) :
    Calls Tryz.prog 71 #[.slice A n c] w fun e w' => e = .returned (.int .i64 (totI ws)) ∧ w = w' := by
  have HL := Lib.hid hS.len
  have HS := Lib.hid hS
  clear hS
  by_cases hbig : 4096 < n
  · have h1 : (4096 : Int) < (n : Int) := by omega
    have HT := Lib.hid (totI_bad (ws := ws) (fun h => by have := h.1; have := HL.out; omega))
    go_enter Tryz.func71, Tryz.ntmps71
    go_wp2
    go_ret
    exact ⟨ret_int HT.out.symm, rfl⟩
  · have h1 : ¬ (4096 : Int) < (n : Int) := by omega
    go_enter Tryz.func71, Tryz.ntmps71
    go_wp2
    go_loop [11, 3] (fun i t => ∃ k : Nat, k ≤ n ∧ i = .int .i64 k ∧ t = .int .i64 (sumL (ws.take k)) ∧ okL ws k) (fun i _ => n - (intOf i).toNat)
    case atStart => exact ⟨0, Nat.zero_le _, rfl, rfl, fun j hj => by omega⟩
    case round =>
      obtain ⟨k, hk, rfl, rfl, hok⟩ := hrel
      have HOK := Lib.hid hok
      have hsb := sumL_bd ws k (by rw [HL.out]; exact hk) hok
      clear hok
      by_cases hlt : k < n
      · obtain ⟨b, off, rfl, hb, hcl⟩ := HS.out.at_ (by omega)
        have hcell := hcl k hlt
        have HSN := Lib.hid (sumL_snoc ws k (by rw [HL.out]; exact hlt))
        clear hcl
        obtain ⟨x, hx⟩ : ∃ x, ws[k]?.getD 0 = x := ⟨_, rfl⟩
        rw [hx] at hcell HSN
        have HX := Lib.hid hx
        clear hx
        have hlti : (k : Int) < (n : Int) := by omega
        by_cases h2 : x < 0
        · go_wp2
          go_ret
          exact ⟨ret_int (totI_bad fun h => by have h3 := h.2.1 k (by rw [HL.out]; exact hlt); rw [HX.out] at h3; unfold okW at h3; omega).symm, rfl⟩
        · by_cases h3 : 1099511627776 < x
          · go_wp2
            go_ret
            exact ⟨ret_int (totI_bad fun h => by have h4 := h.2.1 k (by rw [HL.out]; exact hlt); rw [HX.out] at h4; unfold okW at h4; omega).symm, rfl⟩
          · have h4 : 0 ≤ x := by omega
            have h5 : x ≤ 1099511627776 := by omega
            go_wp2
            go_round
            case rel => exact ⟨k + 1, by omega, by go_num, by rw [HSN.out], okL_succ HOK.out (by rw [HX.out]; exact ⟨h4, h5⟩)⟩
            case measure => simp [intOf]; omega
      · obtain rfl : n = k := by omega
        have HT := Lib.hid (totI_sum (ws := ws) (by rw [HL.out]; omega) (by rw [HL.out]; exact HOK.out))
        go_wp2
        go_ret
        exact ⟨ret_int (by rw [HT.out, List.take_of_length_le (by rw [HL.out]; exact Nat.le_refl _)]), rfl⟩
end Go.Proofs.YtgfhniiidejmoaaGreatDoor
namespace Go.Proofs.YtgfhniiidejmoaaGreatDoor
open Go.RowKit Go.Shelf
set_option linter.unusedVariables false

/-- k is the index that r leads to -/
def IsPick (ws : List Int) (r : Int) (k : Nat) : Prop := k < ws.length ∧ sumL (ws.take k) ≤ r ∧ r < sumL (ws.take (k + 1))
theorem IsPick.one {ws : List Int} {r : Int} {k j : Nat} (h : IsPick ws r k) (h' : IsPick ws r j) (hok : okL ws ws.length) : k = j := by
  rcases Nat.lt_trichotomy k j with hl | he | hl
  · have h1 := sumL_mono ws hok (k + 1) j (by omega) (by have := h'.1; omega)
    have h2 := h.2.2; have h3 := h'.2.1; omega
  · exact he
  · have h1 := sumL_mono ws hok (j + 1) k (by omega) (by have := h.1; omega)
    have h2 := h'.2.2; have h3 := h.2.1; omega
theorem IsPick.pos {ws : List Int} {r : Int} {k : Nat} (h : IsPick ws r k) : 0 < ws[k]?.getD 0 := by
  have h1 := sumL_snoc ws k h.1
  have h2 := h.2.1; have h3 := h.2.2; omega
/-- what rand.Pick gives for good weights -/
def PickR (lab : List Int) (seed i : Int) (ws : List Int) (w : World) (e : Ending) (w' : World) : Prop :=
  ∃ k : Nat, IsPick ws (belowV lab seed i (sumL ws)) k ∧ e = .returned (.tuple #[.int .i64 k, .int .i64 (i + belowJ lab seed i (sumL ws) + 1), .int .i64 0]) ∧ Below w.heap.size w w'

set_option maxRecDepth 100000 in
set_option maxHeartbeats 2000000 in
theorem rpick_good (seed i : Int) (s : ByteArray) (A : Option Addr) (n c : Nat) (ws : List Int) (w : World) (hs : s.size ≤ 1000000) (hi0 : 0 ≤ i) (hi1 : i ≤ 1000000000) (hS : Sl .i64 w w.heap.size A n ws) (hn : n ≤ 9223372036854775807) (hg : goodW ws) :
    Calls Tryz.prog 41 #[.int .u64 seed, .string s, .int .i64 i, .slice A n c] w (PickR (sB s) seed i ws w) := by
  have HT := Lib.hid (totI_good hg)
  have hsb := good_bd hg
  have hn4 : n ≤ 4096 := by have := hg.1; have := hS.len; omega
  have HG := Lib.hid hg
  have HL := Lib.hid hS.len
  have HS := Lib.hid hS
  have hne : ¬ sumL ws = 0 := by omega
  clear hS hg
  go_enter Tryz.func41, Tryz.ntmps41
  go_wp2_with fail
  refine (total_any A n c ws _ HS.out hn).mono ?_
  rintro e w1 ⟨rfl, rfl⟩
  rw [HT.out]
  go_wp2_with fail
  refine (below_any seed i (sumL ws) s _ hs hi0 hi1 hsb.1 (by omega)).mono ?_
  rintro e w1 ⟨rfl, hb⟩
  have hVb := belowV_bd (sB s) seed i (sumL ws) hsb.1
  obtain ⟨V, hV⟩ : ∃ V, belowV (sB s) seed i (sumL ws) = V := ⟨_, rfl⟩
  obtain ⟨J, hJ⟩ : ∃ J, belowJ (sB s) seed i (sumL ws) = J := ⟨_, rfl⟩
  rw [hV] at hVb
  have hJ63 : J ≤ 63 := by rw [← hJ]; exact belowJ_le _ _ _ _
  rw [hV, hJ]
  have HV := Lib.hid hV
  have HJ := Lib.hid hJ
  have HB := Lib.hid hb
  have HS1 := Lib.hid ((HS.out.below hb).more hb.size)
  clear hV hJ hb hne
  go_wp2_with fail
  go_loop [12, 14] (fun l q => ∃ k : Nat, k ≤ n ∧ q = .int .i64 k ∧ l = .int .i64 (V - sumL (ws.take k)) ∧ sumL (ws.take k) ≤ V) (fun _ q => n - (intOf q).toNat)
  case atStart => exact ⟨0, Nat.zero_le _, rfl, by simp [sumL], by simp [sumL]; omega⟩
  case round =>
    obtain ⟨k, hk, rfl, rfl, hle⟩ := hrel
    have hkn : k < n := by
      by_cases e : k = n
      · subst e
        rw [List.take_of_length_le (by rw [HL.out]; exact Nat.le_refl _)] at hle
        omega
      · omega
    have hsb1 := sumL_bd ws k (by rw [HL.out]; exact hk) (fun j hj => HG.out.2.1 j (by rw [HL.out]; omega))
    obtain ⟨b, off, rfl, hb, hcl⟩ := HS1.out.at_ (by omega)
    have hcell := hcl k hkn
    have HSN := Lib.hid (sumL_snoc ws k (by rw [HL.out]; exact hkn))
    have hok := HG.out.2.1 k (by rw [HL.out]; exact hkn)
    clear hcl
    obtain ⟨x, hx⟩ : ∃ x, ws[k]?.getD 0 = x := ⟨_, rfl⟩
    rw [hx] at hcell HSN hok
    have hx0 : 0 ≤ x := hok.1
    have hx1 : x ≤ 1099511627776 := hok.2
    obtain ⟨T, hT⟩ : ∃ T, sumL (ws.take k) = T := ⟨_, rfl⟩
    rw [hT] at HSN hle hsb1 ⊢
    have HTT := Lib.hid hT
    have hkn' : (k : Int) < (n : Int) := by omega
    clear hx hT hok
    by_cases hge : x ≤ V - T
    · go_wp2_with fail
      go_round
      case rel => exact ⟨k + 1, by omega, by go_num, by rw [HSN.out]; go_num, by rw [HSN.out]; omega⟩
      case measure => simp [intOf]; omega
    · have HF := Lib.hid (show PickR (sB s) seed i ws w (.returned (.tuple #[.int .i64 k, .int .i64 (i + J + 1), .int .i64 0])) w1 from ⟨k, ⟨by rw [HL.out]; exact hkn, by rw [HTT.out, HV.out]; omega, by rw [HSN.out, HV.out]; omega⟩, by rw [HJ.out], HB.out⟩)
      go_wp2_with fail
      go_ret3
      exact HF.out
end Go.Proofs.YtgfhniiidejmoaaGreatDoor
