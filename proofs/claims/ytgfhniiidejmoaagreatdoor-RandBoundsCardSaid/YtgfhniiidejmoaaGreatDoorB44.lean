/- rand.Big. · The reference of rand: big. -/
import Derived.Test.YtgfhniiidejmoaaGreatDoorB41
import Derived.Test.YtgfhniiidejmoaaGreatDoorB42
import Derived.Test.YtgfhniiidejmoaaGreatDoorB43
namespace Go.Proofs.YtgfhniiidejmoaaGreatDoor
open Go.RowKit
set_option linter.unusedVariables false

theorem emod_le' (x n : Int) (hx : 0 ≤ x) (hn : 0 < n) : x % n ≤ x := by
  have h1 := Int.mul_ediv_add_emod x n
  have h2 := Int.mul_nonneg (Int.le_of_lt hn) (Int.ediv_nonneg hx (Int.le_of_lt hn))
  omega
/-- how many numbers are passed over -/
def bigJ (lab : List Int) (seed : Int) (a : Nat) (n : Int) (k : Nat) : Nat := firstJ fun j => decide (strN lab seed a k j < p64 k - p64 k % n)
/-- what Big gives -/
def bigV (lab : List Int) (seed : Int) (a : Nat) (n : Int) (k : Nat) : Int := strN lab seed a k (bigJ lab seed a n k) % n
/-- an integer, an index, an error -/
def Num3 (z y er : Int) (w : World) (e : Ending) (w' : World) : Prop := ∃ v, e = .returned (.tuple #[v, .int .i64 y, .int .i64 er]) ∧ RepI w' w'.heap.size z v ∧ Below w.heap.size w w'
/-- k words are wanted for n -/
def IsK (n : Int) (k : Nat) : Prop := k ≤ 255 ∧ n ≤ p64 k ∧ ∀ j, j < k → p64 j < n
theorem IsK.one {n : Int} {j k : Nat} (h : IsK n j) (h' : IsK n k) : j = k := by
  rcases Nat.lt_trichotomy j k with hl | he | hl
  · have := h'.2.2 j hl; have := h.2.1; omega
  · exact he
  · have := h.2.2 k hl; have := h'.2.1; omega
theorem strN_in (lab : List Int) (seed : Int) (a k j : Nat) (hk : k ≤ 255) : 0 ≤ strN lab seed a k j ∧ ((strN lab seed a k j).natAbs : Int) < lim := numW_in lab seed _ k hk
theorem bigV_bd (lab : List Int) (seed : Int) (a : Nat) (n : Int) (k : Nat) (hn : 1 ≤ n) : 0 ≤ bigV lab seed a n k ∧ bigV lab seed a n k < n := ⟨Int.emod_nonneg _ (by omega), Int.emod_lt_of_pos _ (by omega)⟩
/-- what the words' number is, by its error -/
theorem WfS.ok {n k z er : Int} (h : WfS n k z er) {m : Nat} (hm : IsK n m) : er = 0 ∧ k = m ∧ z = p64 m := by
  rcases h with ⟨h1, m', h2, h3, h4, h5, h6⟩ | ⟨h1, h2, h3, h4⟩
  · obtain rfl := IsK.one ⟨h2, h5, h6⟩ hm
    exact ⟨h1, h3, h4⟩
  · have := h4 m hm.1; have := hm.2.1; omega
theorem WfS.no {n k z er : Int} (h : WfS n k z er) (hn : ∀ j, j ≤ 255 → p64 j < n) : er = 4 ∧ k = 0 ∧ z = 0 := by
  rcases h with ⟨h1, m', h2, h3, h4, h5, h6⟩ | ⟨h1, h2, h3, h4⟩
  · have := hn m' h2; omega
  · exact ⟨h1, h2, h3⟩

set_option maxRecDepth 100000 in
set_option maxHeartbeats 4000000 in
theorem big_lim (seed n : Int) (a : Nat) (s : ByteArray) (u : Value) (w : World) (hx : RepI w w.heap.size n u) (bx : (n.natAbs : Int) < lim) (hK : ∀ j, j ≤ 255 → p64 j < n) :
    Calls Tryz.prog 14 #[.int .u64 seed, .string s, .int .i64 a, u] w (Num3 0 a 4 w) := by
  have hn : 1 < n := hK 0 (by omega)
  have HBX := Lib.hid bx
  clear bx
  obtain ⟨r, hr⟩ : ∃ r, cmpI' n 0 = r := ⟨_, rfl⟩
  have hdt : decide (r < 1) = false := by rw [← hr]; unfold cmpI'; rw [if_neg (by omega), if_pos (by omega)]; rfl
  have HR := Lib.hid hr
  clear hr
  have HB := Lib.hid (Below.refl w.heap.size w)
  obtain ⟨dx, Ax, nx, cx, rfl⟩ := hx.shape
  have Vx := Lib.hid hx
  clear hx
  go_enter Tryz.func14, Tryz.ntmps14
  have h := HoldI.new Vx.out
  have b := al_below w (.cells #[.bool dx, .slice Ax nx cx] 36)
  replace HB := Lib.hid (bstep HB.out b)
  clear b
  have Hx := Lib.hid h
  clear h Vx
  have h := Blk2.new (w.alloc (.cells #[.bool dx, .slice Ax nx cx] 36)) 36 (.bool false) (.slice none 0 0)
  simp only [World.size_alloc] at h
  have b := al_below (w.alloc (.cells #[.bool dx, .slice Ax nx cx] 36)) (.cells #[.bool false, .slice none 0 0] 36)
  replace HB := Lib.hid (bstep HB.out b)
  replace Hx := Lib.hid (Hx.out.below b)
  clear b
  have R0 := Lib.hid (show Blk2 _ (w.heap.size + 1) 36 (.bool false) (.slice none 0 0) from h)
  clear h
  have gHx0 := Hx.out.c0
  have gHx1 := Hx.out.c1
  go_wp2_with fail
  refine (isign_lim n _ _ Hx.out.2 HBX.out r HR.out).mono ?_
  rintro e w51 ⟨rfl, b⟩
  clear gHx0 gHx1
  have z51 := b.size
  simp only [World.size_alloc] at z51
  replace z51 := Lib.hid z51
  replace HB := Lib.hid (bstep HB.out b)
  replace Hx := Lib.hid (Hx.out.below b)
  replace R0 := Lib.hid (R0.out.below b)
  clear b
  have gHx0 := Hx.out.c0
  have gHx1 := Hx.out.c1
  go_wp2_with fail
  refine (wordsFor_any n _ _ Hx.out.2 HBX.out).mono ?_
  rintro e w52 ⟨kk, z, er, v, rfl, hs, h, b⟩
  obtain ⟨d52, A52, n52, c52, rfl⟩ := h.shape
  obtain ⟨rfl, rfl, rfl⟩ := hs.no hK
  clear gHx0 gHx1
  have z52 := b.size
  replace z52 := Lib.hid z52
  replace HB := Lib.hid (bstep HB.out b)
  replace Hx := Lib.hid (Hx.out.below b)
  replace R0 := Lib.hid (R0.out.below b)
  have V52 := Lib.hid h
  clear h b hs
  have h := HoldI.new V52.out
  have b := al_below w52 (.cells #[.bool d52, .slice A52 n52 c52] 36)
  replace HB := Lib.hid (bstep HB.out b)
  replace Hx := Lib.hid (Hx.out.below b)
  replace R0 := Lib.hid (R0.out.below b)
  clear b
  have H52 := Lib.hid h
  clear h V52
  have gR00 := R0.out.c0
  have yR00 := R0.out.f0
  have gR01 := R0.out.c1
  have yR01 := R0.out.f1
  have HF := Lib.hid (retI (RepI.zero _ _) R0.out HB.out (by omega))
  clear HB Hx R0 H52
  go_wp2_with fail
  exact bodyPost_ret (v := .tuple #[.agg #[.bool false, .slice none 0 0], .int .i64 a, .int .i64 4]) (by simp [results, Tryz.results14, go_sem, gR00, gR01]) rfl ⟨_, rfl, HF.out.1, HF.out.2.1⟩

set_option maxRecDepth 100000 in
set_option maxHeartbeats 8000000 in
theorem big_any (seed n : Int) (a : Nat) (s : ByteArray) (u : Value) (w : World) (hx : RepI w w.heap.size n u) (bx : (n.natAbs : Int) < lim) (k : Nat) (hs : s.size ≤ 1000000) (ha : a ≤ 1000000000) (hn : 1 ≤ n) (hK : IsK n k) :
    Calls Tryz.prog 14 #[.int .u64 seed, .string s, .int .i64 a, u] w (Num3 (bigV (sB s) seed a n k) ((a + (bigJ (sB s) seed a n k + 1) * k : Nat) : Int) 0 w) := by
  have HKI := Lib.hid hK
  have HBX := Lib.hid bx
  clear bx
  obtain ⟨r, hr⟩ : ∃ r, cmpI' n 0 = r := ⟨_, rfl⟩
  have hdt : decide (r < 1) = false := by rw [← hr]; unfold cmpI'; rw [if_neg (by omega), if_pos (by omega)]; rfl
  have HR := Lib.hid hr
  clear hr
  have HB := Lib.hid (Below.refl w.heap.size w)
  obtain ⟨dx, Ax, nx, cx, rfl⟩ := hx.shape
  have Vx := Lib.hid hx
  clear hx
  go_enter Tryz.func14, Tryz.ntmps14
  have h := HoldI.new Vx.out
  have b := al_below w (.cells #[.bool dx, .slice Ax nx cx] 36)
  replace HB := Lib.hid (bstep HB.out b)
  clear b
  have Hx := Lib.hid h
  clear h Vx
  have h := Blk2.new (w.alloc (.cells #[.bool dx, .slice Ax nx cx] 36)) 36 (.bool false) (.slice none 0 0)
  simp only [World.size_alloc] at h
  have b := al_below (w.alloc (.cells #[.bool dx, .slice Ax nx cx] 36)) (.cells #[.bool false, .slice none 0 0] 36)
  replace HB := Lib.hid (bstep HB.out b)
  replace Hx := Lib.hid (Hx.out.below b)
  clear b
  have R0 := Lib.hid (show Blk2 _ (w.heap.size + 1) 36 (.bool false) (.slice none 0 0) from h)
  clear h
  have gHx0 := Hx.out.c0
  have gHx1 := Hx.out.c1
  go_wp2_with fail
  refine (isign_lim n _ _ Hx.out.2 HBX.out r HR.out).mono ?_
  rintro e w51 ⟨rfl, b⟩
  clear gHx0 gHx1
  have z51 := b.size
  simp only [World.size_alloc] at z51
  replace z51 := Lib.hid z51
  replace HB := Lib.hid (bstep HB.out b)
  replace Hx := Lib.hid (Hx.out.below b)
  replace R0 := Lib.hid (R0.out.below b)
  clear b
  have gHx0 := Hx.out.c0
  have gHx1 := Hx.out.c1
  go_wp2_with fail
  refine (wordsFor_any n _ _ Hx.out.2 HBX.out).mono ?_
  rintro e w52 ⟨kk, z, er, v, rfl, hs, h, b⟩
  obtain ⟨d52, A52, n52, c52, rfl⟩ := h.shape
  obtain ⟨rfl, rfl, rfl⟩ := hs.ok hK
  clear gHx0 gHx1
  have z52 := b.size
  replace z52 := Lib.hid z52
  replace HB := Lib.hid (bstep HB.out b)
  replace Hx := Lib.hid (Hx.out.below b)
  replace R0 := Lib.hid (R0.out.below b)
  have V52 := Lib.hid h
  clear h b hs
  have h := HoldI.new V52.out
  have b := al_below w52 (.cells #[.bool d52, .slice A52 n52 c52] 36)
  replace HB := Lib.hid (bstep HB.out b)
  replace Hx := Lib.hid (Hx.out.below b)
  replace R0 := Lib.hid (R0.out.below b)
  clear b
  have H52 := Lib.hid h
  clear h V52
  have HPL := Lib.hid (p64_in hK.1)
  have hn0 : n ≠ 0 := by omega
  clear hK
  have gH520 := H52.out.c0
  have gH521 := H52.out.c1
  have gHx0 := Hx.out.c0
  have gHx1 := Hx.out.c1
  go_wp2_with fail
  refine (idiv_any (p64 k) n _ _ _ H52.out.2 Hx.out.2 HPL.out HBX.out hn0).mono ?_
  rintro e w53 ⟨u, v, rfl, h, h', b⟩
  obtain ⟨d53, A53, n53, c53, rfl⟩ := h.shape
  obtain ⟨d54, A54, n54, c54, rfl⟩ := h'.shape
  clear gH520 gH521 gHx0 gHx1
  have z53 := b.size
  simp only [World.size_alloc] at z53
  replace z53 := Lib.hid z53
  replace HB := Lib.hid (bstep HB.out b)
  replace Hx := Lib.hid (Hx.out.below b)
  replace R0 := Lib.hid (R0.out.below b)
  replace H52 := Lib.hid (H52.out.below b)
  have V53 := Lib.hid h
  have V54 := Lib.hid h'
  clear h h' b
  have h := HoldI.new V53.out
  have b := al_below w53 (.cells #[.bool d53, .slice A53 n53 c53] 36)
  replace HB := Lib.hid (bstep HB.out b)
  replace Hx := Lib.hid (Hx.out.below b)
  replace R0 := Lib.hid (R0.out.below b)
  replace H52 := Lib.hid (H52.out.below b)
  replace V54 := Lib.hid (V54.out.step b)
  clear b
  have H53 := Lib.hid h
  clear h V53
  have h := HoldI.new V54.out
  simp only [World.size_alloc] at h
  have b := al_below (w53.alloc (.cells #[.bool d53, .slice A53 n53 c53] 36)) (.cells #[.bool d54, .slice A54 n54 c54] 36)
  replace HB := Lib.hid (bstep HB.out b)
  replace Hx := Lib.hid (Hx.out.below b)
  replace R0 := Lib.hid (R0.out.below b)
  replace H52 := Lib.hid (H52.out.below b)
  replace H53 := Lib.hid (H53.out.below b)
  clear b
  have H54 := Lib.hid h
  clear h V54
  have hrs : 0 ≤ p64 k % n ∧ p64 k % n < n ∧ p64 k % n ≤ p64 k := ⟨Int.emod_nonneg _ hn0, Int.emod_lt_of_pos _ (by omega), emod_le' _ _ (by have := p64_pos k; omega) (by omega)⟩
  have HMI := Lib.hid (show ((p64 k - p64 k % n).natAbs : Int) < lim from by have h1 := HPL.out; have h2 := p64_pos k; omega)
  have HRI := Lib.hid (show ((p64 k % n).natAbs : Int) < lim from by have h1 := HPL.out; have h2 := p64_pos k; omega)
  clear hrs
  have gH520 := H52.out.c0
  have gH521 := H52.out.c1
  have gH540 := H54.out.c0
  have gH541 := H54.out.c1
  go_wp2_with fail
  refine (isub_fit (p64 k) (p64 k % n) (p64 k - p64 k % n) _ _ _ H52.out.2 H54.out.2 HPL.out HRI.out rfl HMI.out).mono ?_
  rintro e w55 ⟨v, rfl, h, b⟩
  obtain ⟨d55, A55, n55, c55, rfl⟩ := h.shape
  clear gH520 gH521 gH540 gH541
  have z55 := b.size
  simp only [World.size_alloc] at z55
  replace z55 := Lib.hid z55
  replace HB := Lib.hid (bstep HB.out b)
  replace Hx := Lib.hid (Hx.out.below b)
  replace R0 := Lib.hid (R0.out.below b)
  replace H52 := Lib.hid (H52.out.below b)
  replace H53 := Lib.hid (H53.out.below b)
  replace H54 := Lib.hid (H54.out.below b)
  have V55 := Lib.hid h
  clear h b
  have h := HoldI.new V55.out
  have b := al_below w55 (.cells #[.bool d55, .slice A55 n55 c55] 36)
  replace HB := Lib.hid (bstep HB.out b)
  replace Hx := Lib.hid (Hx.out.below b)
  replace R0 := Lib.hid (R0.out.below b)
  replace H52 := Lib.hid (H52.out.below b)
  replace H53 := Lib.hid (H53.out.below b)
  replace H54 := Lib.hid (H54.out.below b)
  clear b
  have H55 := Lib.hid h
  clear h V55
  go_wp2_with fail
  refine (rnumbers_any seed a k s _).mono ?_
  rintro e w9 ⟨rfl, rfl⟩
  have kb0 := Boxed.new (w55.alloc (.cells #[.bool d55, .slice A55 n55 c55] 36)) 22 (.int .u64 seed)
  simp only [World.size_alloc] at kb0
  have b := al_below (w55.alloc (.cells #[.bool d55, .slice A55 n55 c55] 36)) (.cells #[.int .u64 seed] 22)
  replace HB := Lib.hid (bstep HB.out b)
  replace Hx := Lib.hid (Hx.out.below b)
  replace R0 := Lib.hid (R0.out.below b)
  replace H52 := Lib.hid (H52.out.below b)
  replace H53 := Lib.hid (H53.out.below b)
  replace H54 := Lib.hid (H54.out.below b)
  replace H55 := Lib.hid (H55.out.below b)
  clear b
  have kb1 := Boxed.new ((w55.alloc (.cells #[.bool d55, .slice A55 n55 c55] 36)).alloc (.cells #[.int .u64 seed] 22)) 9 (.string s)
  simp only [World.size_alloc] at kb1
  replace kb0 := kb0.alloc (.cells #[.string s] 9)
  have b := al_below ((w55.alloc (.cells #[.bool d55, .slice A55 n55 c55] 36)).alloc (.cells #[.int .u64 seed] 22)) (.cells #[.string s] 9)
  replace HB := Lib.hid (bstep HB.out b)
  replace Hx := Lib.hid (Hx.out.below b)
  replace R0 := Lib.hid (R0.out.below b)
  replace H52 := Lib.hid (H52.out.below b)
  replace H53 := Lib.hid (H53.out.below b)
  replace H54 := Lib.hid (H54.out.below b)
  replace H55 := Lib.hid (H55.out.below b)
  clear b
  have kb2 := Boxed.new (((w55.alloc (.cells #[.bool d55, .slice A55 n55 c55] 36)).alloc (.cells #[.int .u64 seed] 22)).alloc (.cells #[.string s] 9)) 3 (.int .i64 a)
  simp only [World.size_alloc] at kb2
  replace kb0 := kb0.alloc (.cells #[.int .i64 a] 3)
  replace kb1 := kb1.alloc (.cells #[.int .i64 a] 3)
  have b := al_below (((w55.alloc (.cells #[.bool d55, .slice A55 n55 c55] 36)).alloc (.cells #[.int .u64 seed] 22)).alloc (.cells #[.string s] 9)) (.cells #[.int .i64 a] 3)
  replace HB := Lib.hid (bstep HB.out b)
  replace Hx := Lib.hid (Hx.out.below b)
  replace R0 := Lib.hid (R0.out.below b)
  replace H52 := Lib.hid (H52.out.below b)
  replace H53 := Lib.hid (H53.out.below b)
  replace H54 := Lib.hid (H54.out.below b)
  replace H55 := Lib.hid (H55.out.below b)
  clear b
  have kb3 := Boxed.new ((((w55.alloc (.cells #[.bool d55, .slice A55 n55 c55] 36)).alloc (.cells #[.int .u64 seed] 22)).alloc (.cells #[.string s] 9)).alloc (.cells #[.int .i64 a] 3)) 3 (.int .i64 k)
  simp only [World.size_alloc] at kb3
  replace kb0 := kb0.alloc (.cells #[.int .i64 k] 3)
  replace kb1 := kb1.alloc (.cells #[.int .i64 k] 3)
  replace kb2 := kb2.alloc (.cells #[.int .i64 k] 3)
  have b := al_below ((((w55.alloc (.cells #[.bool d55, .slice A55 n55 c55] 36)).alloc (.cells #[.int .u64 seed] 22)).alloc (.cells #[.string s] 9)).alloc (.cells #[.int .i64 a] 3)) (.cells #[.int .i64 k] 3)
  replace HB := Lib.hid (bstep HB.out b)
  replace Hx := Lib.hid (Hx.out.below b)
  replace R0 := Lib.hid (R0.out.below b)
  replace H52 := Lib.hid (H52.out.below b)
  replace H53 := Lib.hid (H53.out.below b)
  replace H54 := Lib.hid (H54.out.below b)
  replace H55 := Lib.hid (H55.out.below b)
  clear b
  have hc1 := kb2.cell
  have hc2 := kb0.cell
  have hc3 := kb1.cell
  have hc4 := kb3.cell
  clear kb0 kb1 kb2 kb3
  go_wp2_with fail
  have HTK := Lib.hid (takeI_any seed a k s hs ha HKI.out.1 _ _ _ _ w55.heap.size (fun j => decide (strN (sB s) seed a k j < p64 k - p64 k % n)) (((((w55.alloc (.cells #[.bool d55, .slice A55 n55 c55] 36)).alloc (.cells #[.int .u64 seed] 22)).alloc (.cells #[.string s] 9)).alloc (.cells #[.int .i64 a] 3)).alloc (.cells #[.int .i64 k] 3)) (by simp only [World.size_alloc]; omega) (by simp only [World.size_alloc]; omega) (by simp only [World.size_alloc]; omega) (by simp only [World.size_alloc]; omega) hc1 hc2 hc3 hc4 (fun j W v hb hv => big1_any (strN (sB s) seed a k j) (p64 k - p64 k % n) v _ d55 A55 n55 c55 W hv (H55.out.below hb) (strN_in (sB s) seed a k j HKI.out.1).2 HMI.out))
  clear hc1 hc2 hc3 hc4
  refine HTK.out.mono ?_
  rintro e w56 ⟨v, rfl, h, b⟩
  obtain ⟨d56, A56, n56, c56, rfl⟩ := h.shape
  have z56 := b.size
  simp only [World.size_alloc] at z56
  replace z56 := Lib.hid z56
  replace HB := Lib.hid (bstep HB.out b)
  replace Hx := Lib.hid (Hx.out.below b)
  replace R0 := Lib.hid (R0.out.below b)
  replace H52 := Lib.hid (H52.out.below b)
  replace H53 := Lib.hid (H53.out.below b)
  replace H54 := Lib.hid (H54.out.below b)
  replace H55 := Lib.hid (H55.out.below b)
  have V56 := Lib.hid h
  clear h b HTK
  obtain ⟨J, hJ⟩ : ∃ J, bigJ (sB s) seed a n k = J := ⟨_, rfl⟩
  rw [show firstJ (fun j => decide (strN (sB s) seed a k j < p64 k - p64 k % n)) = J from hJ] at V56 ⊢
  obtain ⟨Y, hY⟩ : ∃ Y, Y = ((a + (J + 1) * k : Nat) : Int) := ⟨_, rfl⟩
  rw [← hY]
  have HJ := Lib.hid hJ
  have HY := Lib.hid hY
  clear hJ hY
  have h := HoldI.new V56.out
  have b := al_below w56 (.cells #[.bool d56, .slice A56 n56 c56] 36)
  replace HB := Lib.hid (bstep HB.out b)
  replace Hx := Lib.hid (Hx.out.below b)
  replace R0 := Lib.hid (R0.out.below b)
  replace H52 := Lib.hid (H52.out.below b)
  replace H53 := Lib.hid (H53.out.below b)
  replace H54 := Lib.hid (H54.out.below b)
  replace H55 := Lib.hid (H55.out.below b)
  clear b
  have H56 := Lib.hid h
  clear h V56
  clear H52
  clear H54
  clear H53
  have HSI := Lib.hid (strN_in (sB s) seed a k J HKI.out.1)
  have gH560 := H56.out.c0
  have gH561 := H56.out.c1
  have gHx0 := Hx.out.c0
  have gHx1 := Hx.out.c1
  go_wp2_with fail
  refine (idiv_any (strN (sB s) seed a k J) n _ _ _ H56.out.2 Hx.out.2 HSI.out.2 HBX.out hn0).mono ?_
  rintro e w57 ⟨u, v, rfl, h, h', b⟩
  obtain ⟨d57, A57, n57, c57, rfl⟩ := h.shape
  obtain ⟨d58, A58, n58, c58, rfl⟩ := h'.shape
  clear gH560 gH561 gHx0 gHx1
  have z57 := b.size
  simp only [World.size_alloc] at z57
  replace z57 := Lib.hid z57
  replace HB := Lib.hid (bstep HB.out b)
  replace Hx := Lib.hid (Hx.out.below b)
  replace R0 := Lib.hid (R0.out.below b)
  replace H55 := Lib.hid (H55.out.below b)
  replace H56 := Lib.hid (H56.out.below b)
  have V57 := Lib.hid h
  have V58 := Lib.hid h'
  clear h h' b
  have h := HoldI.new V57.out
  have b := al_below w57 (.cells #[.bool d57, .slice A57 n57 c57] 36)
  replace HB := Lib.hid (bstep HB.out b)
  replace Hx := Lib.hid (Hx.out.below b)
  replace R0 := Lib.hid (R0.out.below b)
  replace H55 := Lib.hid (H55.out.below b)
  replace H56 := Lib.hid (H56.out.below b)
  replace V58 := Lib.hid (V58.out.step b)
  clear b
  have H57 := Lib.hid h
  clear h V57
  have h := HoldI.new V58.out
  simp only [World.size_alloc] at h
  have b := al_below (w57.alloc (.cells #[.bool d57, .slice A57 n57 c57] 36)) (.cells #[.bool d58, .slice A58 n58 c58] 36)
  replace HB := Lib.hid (bstep HB.out b)
  replace Hx := Lib.hid (Hx.out.below b)
  replace R0 := Lib.hid (R0.out.below b)
  replace H55 := Lib.hid (H55.out.below b)
  replace H56 := Lib.hid (H56.out.below b)
  replace H57 := Lib.hid (H57.out.below b)
  clear b
  have H58 := Lib.hid h
  clear h V58
  have gR00 := R0.out.c0
  have yR00 := R0.out.f0
  have gR01 := R0.out.c1
  have yR01 := R0.out.f1
  have gH580 := H58.out.c0
  have gH581 := H58.out.c1
  have HF := Lib.hid (retI (H58.out.2) R0.out HB.out (by omega))
  clear HB Hx R0 H55 H56 H57 H58
  clear HSI HMI HRI HPL HKI HBX HR z51 z52 z53 z55 z56 z57
  go_wp2_with fail
  exact bodyPost_ret (v := .tuple #[.agg #[.bool d58, .slice A58 n58 c58], .int .i64 Y, .int .i64 0]) (by simp [results, Tryz.results14, go_sem, gR00, gR01]) rfl ⟨_, by rw [HY.out, ← HJ.out], by unfold bigV; rw [HJ.out]; exact HF.out.1, HF.out.2.1⟩
end Go.Proofs.YtgfhniiidejmoaaGreatDoor
namespace Go.Proofs.YtgfhniiidejmoaaGreatDoor
open Go.RowKit
set_option linter.unusedVariables false

theorem power_p64 (k : Nat) (w : World) (hk : k ≤ 255) : Calls Tryz.prog 10 #[.int .i64 (64 * (k : Int))] w (NewN (p64 k) w) := by
  have h := power_any (64 * k) w (by omega)
  rwa [show ((64 * k : Nat) : Int) = 64 * (k : Int) from by omega] at h
theorem p64_bits {k : Nat} (hk : k ≤ 255) : Bits 16321 (p64 k) := by
  have h := (bits_pow (64 * k))
  exact h.mono (by omega)
end Go.Proofs.YtgfhniiidejmoaaGreatDoor
