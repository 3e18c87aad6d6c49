/- Contracts of the reference of wide: Sub, Mul. · Contracts of the reference of wide: Of, small. · Contracts of the reference of wide: small, digits, digit. · Contracts of the reference of wide: small. -/
import Derived.Test.YtgfhniiidejmoaaGreatDoorB17
import Derived.Test.YtgfhniiidejmoaaGreatDoorB02
namespace Go.Proofs.YtgfhniiidejmoaaGreatDoor
open Go.RowKit
set_option linter.unusedVariables false

/-- the boxes of two integers and of a result -/
theorem boxes3 (w : World) (t : TypeId) (a0 a1 b0 b1 r0 r1 : Value) : ∃ W, W = ((w.alloc (.cells #[a0, a1] t)).alloc (.cells #[b0, b1] t)).alloc (.cells #[r0, r1] t) ∧ Below w.heap.size w W ∧ W.heap.size = w.heap.size + 1 + 1 + 1 ∧
    Blk2 W w.heap.size t a0 a1 ∧ Blk2 W (w.heap.size + 1) t b0 b1 ∧ Blk2 W (w.heap.size + 1 + 1) t r0 r1 := by
  have h1 := Blk2.new w t a0 a1
  have h2 := Blk2.new (w.alloc (.cells #[a0, a1] t)) t b0 b1
  have h3 := Blk2.new ((w.alloc (.cells #[a0, a1] t)).alloc (.cells #[b0, b1] t)) t r0 r1
  have e1 : ∀ (w : World) (o : Obj), Below w.heap.size w (w.alloc o) := fun w o => (Below.refl _ _).alloc (Nat.le_refl _) _
  rw [World.size_alloc] at h2
  rw [World.size_alloc, World.size_alloc] at h3
  refine ⟨_, rfl, (((Below.refl _ _).alloc (Nat.le_refl _) _).alloc (by simp) _).alloc (by simp; omega) _, by simp, (h1.below (e1 _ _)).below (e1 _ _), h2.below (e1 _ _), h3⟩
theorem boxes2 (w : World) (t : TypeId) (a0 a1 r0 r1 : Value) : ∃ W, W = (w.alloc (.cells #[a0, a1] t)).alloc (.cells #[r0, r1] t) ∧ Below w.heap.size w W ∧ W.heap.size = w.heap.size + 1 + 1 ∧
    Blk2 W w.heap.size t a0 a1 ∧ Blk2 W (w.heap.size + 1) t r0 r1 := by
  have h1 := Blk2.new w t a0 a1
  have h2 := Blk2.new (w.alloc (.cells #[a0, a1] t)) t r0 r1
  have e1 : ∀ (w : World) (o : Obj), Below w.heap.size w (w.alloc o) := fun w o => (Below.refl _ _).alloc (Nat.le_refl _) _
  rw [World.size_alloc] at h2
  exact ⟨_, rfl, ((Below.refl _ _).alloc (Nat.le_refl _) _).alloc (by simp) _, by simp, h1.below (e1 _ _), h2⟩

/-! ### Mul -/
def MulI (n m : Nat) (zs ys : List Int) (i k : Nat) (cy : Int) (L : List Int) : Prop :=
  L.length = n + m ∧ Dig 10000 L ∧ (∀ j, i + m ≤ j → L[j]?.getD 0 = 0) ∧ 0 ≤ cy ∧ cy < 10000 ∧ dv 10000 L + 10000 ^ (i + k) * cy = dv 10000 (zs.take i) * dv 10000 ys + 10000 ^ i * (zs[i]?.getD 0 * dv 10000 (ys.take k))
theorem set_getD (L : List Int) (a j : Nat) (v : Int) (h : a ≠ j) : (L.set a v)[j]?.getD 0 = L[j]?.getD 0 := by rw [List.getElem?_set_ne h]
theorem MulI.start (n m : Nat) (zs ys : List Int) : MulI n m zs ys 0 0 0 (List.replicate (n + m) 0) := by
  refine ⟨by simp, fun d hd => by rw [List.eq_of_mem_replicate hd]; omega, fun j _ => ?_, by omega, by omega, ?_⟩
  · rw [List.getElem?_replicate]; split <;> rfl
  · rw [dv_zeros]; simp [dv]
theorem MulI.step {n m i k : Nat} {zs ys L : List Int} {cy v : Int} (h : MulI n m zs ys i k cy L) (hi : i < n) (hk : k < m) (hz : Dig 10000 zs) (hy : Dig 10000 ys) (hv : v = L[i + k]?.getD 0 + zs[i]?.getD 0 * ys[k]?.getD 0 + cy) :
    0 ≤ v ∧ v < 100000000 ∧ MulI n m zs ys i (k + 1) (v / 10000) (L.set (i + k) (v % 10000)) := by
  obtain ⟨h1, h2, h3, h4, h5, h6⟩ := h
  have hb := mul_bd (show (1 : Int) < 10000 by omega) (hz.get (by omega) i) (hy.get (by omega) k) (h2.get (by omega) (i + k)) ⟨h4, h5⟩
  rw [← hv] at hb
  have hs := mul_step (B := 10000) ys L i k _ _ cy v (by omega) hv h6
  exact ⟨hb.1, by omega, by rw [List.length_set]; exact h1, h2.set _ (by omega), fun j hj => by rw [set_getD _ _ _ _ (by omega)]; exact h3 j hj, hb.2.2.1, hb.2.2.2, hs⟩
theorem MulI.row {n m i : Nat} {zs ys L : List Int} {cy : Int} (h : MulI n m zs ys i m cy L) (hi : i < n) (hm : ys.length = m) : MulI n m zs ys (i + 1) 0 0 (L.set (i + m) cy) := by
  obtain ⟨h1, h2, h3, h4, h5, h6⟩ := h
  subst hm
  have hs := mul_row (B := 10000) ys L i _ _ cy (by omega) (h3 _ (Nat.le_refl _)) h6
  refine ⟨by rw [List.length_set]; exact h1, h2.set _ ⟨h4, h5⟩, fun j hj => by rw [set_getD _ _ _ _ (by omega)]; exact h3 j (by omega), by omega, by omega, ?_⟩
  rw [hs, dv_take, List.take_zero, show dv 10000 [] = 0 from rfl]
  grind
theorem MulI.done {n m : Nat} {zs ys L : List Int} (h : MulI n m zs ys n 0 0 L) (hn : zs.length = n) : Dig 10000 L ∧ L.length = n + m ∧ dv 10000 L = dv 10000 zs * dv 10000 ys := by
  obtain ⟨h1, h2, h3, h4, h5, h6⟩ := h
  refine ⟨h2, h1, ?_⟩
  rw [List.take_of_length_le (by omega), List.take_zero, show dv 10000 [] = 0 from rfl] at h6
  simpa using h6
/-- what a product of the reference holds while it is made -/
def MulE (w : World) (A E : Option Addr) (n c m f : Nat) (b1 b2 : Bool) (zs ys : List Int) (wr : World) : Prop :=
  Blk2 wr w.heap.size 26 (.bool b1) (.slice A n c) ∧ Blk2 wr (w.heap.size + 1) 26 (.bool b2) (.slice E m f) ∧ Blk2 wr (w.heap.size + 1 + 1) 26 (.bool false) (.slice none 0 0) ∧ Sl .i64 wr w.heap.size A n zs ∧ Sl .i64 wr w.heap.size E m ys ∧ Below w.heap.size w wr
section
variable {w wr : World} {A E : Option Addr} {n c m f : Nat} {b1 b2 : Bool} {zs ys : List Int}
theorem MulE.drewN (h : MulE w A E n c m f b1 b2 zs ys wr) (q : Nat) : MulE w A E n c m f b1 b2 zs ys (wr.drewN q) := ⟨h.1, h.2.1, h.2.2.1, h.2.2.2.1, h.2.2.2.2.1, below_drewN h.2.2.2.2.2 q⟩
theorem MulE.keep {w' : World} (h : MulE w A E n c m f b1 b2 zs ys wr) (hb : Below (w.heap.size + 1 + 1 + 1) wr w') : MulE w A E n c m f b1 b2 zs ys w' :=
  have hb0 := hb.mono (show w.heap.size ≤ w.heap.size + 1 + 1 + 1 by omega)
  ⟨(hb.block _ (by omega)).trans h.1, (hb.block _ (by omega)).trans h.2.1, (hb.block _ (by omega)).trans h.2.2.1, h.2.2.2.1.below hb0, h.2.2.2.2.1.below hb0, h.2.2.2.2.2.trans hb0⟩
theorem MulE.setg (h : MulE w A E n c m f b1 b2 zs ys wr) {g o : Nat} {u : Value} (hg : w.heap.size + 1 + 1 + 1 ≤ g) : MulE w A E n c m f b1 b2 zs ys (wr.setCell ⟨g, o, none⟩ u) :=
  h.keep ((Below.refl _ _).setCell (p := ⟨g, o, none⟩) hg u)
end
theorem row_made {k : IntKind} {base n g : Nat} {t : TypeId} {w : World} (h : w.ownsRow base t 1 (.slice (some ⟨g, 0, none⟩) n n) n (madeCells (Value.int k 0).cells (n * 1)).toList) : RowW k w g t (List.replicate n 0) := by
  have e : (madeCells (Value.int k 0).cells (n * 1)).toList = (List.replicate n (0 : Int)).map (Value.int k) := by
    rw [show (Value.int k 0).cells = #[Value.int k 0] from rfl, Nat.mul_one, toList_madeCells_one, List.map_replicate]
  rw [e] at h
  exact RowW.of_own h

set_option maxRecDepth 100000 in
set_option maxHeartbeats 4000000 in
theorem mul_any (x y : Int) (u v : Value) (w : World) (hx : RepN w w.heap.size x u) (hy : RepN w w.heap.size y v) (bx : Bits 100000 x) (by_ : Bits 100000 y) :
    Calls Tryz.prog 11 #[u, v] w (NewN (x * y) w) := by
  obtain ⟨i0, hi, hz0, hz1, hz2⟩ := info_parts int_info
  obtain ⟨A, n, c, zs, rfl, hs, hn, hc, hA, hd, ht, hv, hl⟩ := hx.parts (m := 10000) bx (by omega)
  obtain ⟨E, m, f, ys, rfl, ks, km, kf, kE, kd, kt, kv, kl⟩ := hy.parts (m := 10000) by_ (by omega)
  obtain ⟨b1, hb1⟩ : ∃ b, b = decide (x < 0) := ⟨_, rfl⟩
  obtain ⟨b2, hb2⟩ : ∃ b, b = decide (y < 0) := ⟨_, rfl⟩
  have HV : Hid ((if (!(b1 == b2)) = true then -(dv 10000 zs * dv 10000 ys) else dv 10000 zs * dv 10000 ys) = x * y) := by
    show (if (!(b1 == b2)) = true then -(dv 10000 zs * dv 10000 ys) else dv 10000 zs * dv 10000 ys) = x * y
    rw [hv, kv, hb1, hb2]
    by_cases h1 : x < 0
    · rw [show (x.natAbs : Int) = -x by omega]
      by_cases h2 : y < 0
      · rw [show (y.natAbs : Int) = -y by omega]; simp [h1, h2]; grind
      · rw [show (y.natAbs : Int) = y by omega]; simp [h1, h2]; grind
    · rw [show (x.natAbs : Int) = x by omega]
      by_cases h2 : y < 0
      · rw [show (y.natAbs : Int) = -y by omega]; simp [h1, h2]; grind
      · rw [show (y.natAbs : Int) = y by omega]; simp [h1, h2]
  rw [← hb1, ← hb2]
  obtain ⟨W2, hW2, hB2, hS2, p1, p2, p3⟩ := boxes3 w 26 (.bool b1) (.slice A n c) (.bool b2) (.slice E m f) (.bool false) (.slice none 0 0)
  have HE := Lib.hid (show MulE w A E n c m f b1 b2 zs ys W2 from ⟨p1, p2, p3, hs.below hB2, ks.below hB2, hB2⟩)
  have HW := Lib.hid hW2
  have HN := Lib.hid hs.len
  have HM := Lib.hid ks.len
  have HZ := Lib.hid hd
  have HY := Lib.hid kd
  have HS2 := Lib.hid hS2
  have hnn : n + m ≤ 20000 := by omega
  clear hx hy bx by_ hs ks hA kE hd kd ht kt hv kv hb1 hb2 hW2 p1 p2 p3 hS2 hB2 hl kl
  go_enter Tryz.func11, Tryz.ntmps11
  go_wp2_with (at_make; rw [← HW.out]; refine wpList_make_full _ rfl _ _ _ rfl W2.heap.size 3 i0 _ 1 Tryz.underlying23 hi hz0 hz1 _ _ _ _ (n + m) rfl rfl (by simp) (by simp) (by rw [hz2]; omega) (by unfold maxLen; omega) (Nat.le_refl _) ?_; intro w4 hown4 hg4)
  have HR := Lib.hid (row_made hown4)
  have hsz := HS2.out
  have hlt4 : W2.heap.size < w4.heap.size := HR.out.lt
  have HE4 := Lib.hid (HE.out.keep (w' := w4) ((Below.refl _ _).grown hg4 (by omega) (fun k hk => by cases hk)))
  obtain ⟨G, hG⟩ : ∃ G, G = W2.heap.size := ⟨_, rfl⟩
  rw [← hG] at HR hsz ⊢
  have HGG := Lib.hid hsz
  have hGle : w.heap.size + 1 + 1 + 1 ≤ G := by omega
  clear hown4 hg4 hsz hlt4 hG HW HE HS2
  go_wp2_with fail
  go_loopw [6] (fun iv wr => ∃ (i : Nat) (L : List Int), i ≤ n ∧ iv = .int .i64 i ∧ Hid (MulI n m zs ys i 0 0 L) ∧ Hid (RowW .i64 wr G 3 L) ∧ Hid (MulE w A E n c m f b1 b2 zs ys wr)) (fun iv _ => n - (intOf iv).toNat)
  case atStart => exact ⟨0, List.replicate (n + m) 0, Nat.zero_le _, rfl, MulI.start n m zs ys, HR.out, HE4.out⟩
  case round =>
    obtain ⟨i, L, hin, rfl, HI, HRr, HEr⟩ := hrel
    have d0 := HEr.out.1.c1
    have d1 := HEr.out.2.1.c1
    have d2 := HEr.out.1.c0
    have d3 := HEr.out.2.1.c0
    by_cases hlt : i < n
    · go_wp2_with fail
      go_loopw [7, 8] (fun cv kv wi => ∃ (k : Nat) (L : List Int) (cy : Int), k ≤ m ∧ kv = .int .i64 k ∧ cv = .int .i64 cy ∧ 0 ≤ cy ∧ cy < 10000 ∧ Hid (MulI n m zs ys i k cy L) ∧ Hid (RowW .i64 wi G 3 L) ∧ Hid (MulE w A E n c m f b1 b2 zs ys wi)) (fun _ kv _ => m - (intOf kv).toNat)
      case atStart => exact ⟨0, L, 0, Nat.zero_le _, rfl, rfl, by omega, by omega, HI, HRr, HEr⟩
      case round =>
        clear d0 d1 d2 d3 HI HRr HEr
        rename World => wi
        obtain ⟨k, L, cy, hkm, rfl, rfl, hc0, hc1, HI, HRr, HEr⟩ := hrel
        have d0 := HEr.out.1.c1
        have d1 := HEr.out.2.1.c1
        have d2 := HEr.out.1.c0
        have d3 := HEr.out.2.1.c0
        by_cases hlk : k < m
        · have hIL := HI.out.1
          obtain ⟨ba, oa, rfl, _, hca⟩ := HEr.out.2.2.2.1.at_ (by omega)
          obtain ⟨bb, ob, rfl, _, hcb⟩ := HEr.out.2.2.2.2.1.at_ (by omega)
          have ca := hca i hlt
          have cb := hcb k hlk
          have cL := HRr.out.cell (i + k) (by omega)
          have hfz := HRr.out.free (i + k)
          have hda := HZ.out.get (by omega) i
          have hdb := HY.out.get (by omega) k
          have hdl := HI.out.2.1.get (by omega) (i + k)
          obtain ⟨hv0, hv1, hI2⟩ := HI.out.step hlt hlk HZ.out HY.out rfl
          have hbd := mul_bd (show (1 : Int) < 10000 by omega) hda hdb hdl ⟨hc0, hc1⟩
          have hxy0 := Int.mul_nonneg hda.1 hdb.1
          obtain ⟨p, hp⟩ : ∃ p, p = L[i + k]?.getD 0 := ⟨_, rfl⟩
          obtain ⟨q, hq⟩ : ∃ q, q = zs[i]?.getD 0 := ⟨_, rfl⟩
          obtain ⟨r, hr⟩ : ∃ r, r = ys[k]?.getD 0 := ⟨_, rfl⟩
          rw [← hp] at cL hdl hv0 hv1 hI2
          rw [← hq] at ca hda hv0 hv1 hI2 hxy0
          rw [← hr] at cb hdb hv0 hv1 hI2 hxy0
          obtain ⟨hp0, hp1⟩ := hdl
          obtain ⟨hq0, hq1⟩ := hda
          obtain ⟨hr0, hr1⟩ := hdb
          have hqr : q * r ≤ 99980001 := by
            have := Int.mul_le_mul (show q ≤ 9999 by omega) (show r ≤ 9999 by omega) hr0 (by omega)
            omega
          have HI2 := Lib.hid hI2
          have HR2 := Lib.hid (fun (qq : Nat) (v : Int) => (HRr.out.drewN qq).set_ (i + k) (by omega) v)
          have HE2 := Lib.hid (fun (qq : Nat) (v : Int) => (HEr.out.drewN qq).setg (g := G) (o := i + k) (u := .int .i64 v) hGle)
          clear hIL hca hcb hp hq hr hI2 hbd HI HRr HEr
          have s1 : IntKind.i64.wrap ((i : Int) + (k : Int)) = (i : Int) + (k : Int) := IntWalk.i64_in _ (by omega)
          have s2 : IntKind.i64.wrap (q * r) = q * r := IntWalk.i64_in _ (by omega)
          have s3 : IntKind.i64.wrap (p + q * r) = p + q * r := IntWalk.i64_in _ (by omega)
          have s4 : IntKind.i64.wrap (p + q * r + cy) = p + q * r + cy := IntWalk.i64_in _ (by omega)
          have s5 : ((i : Int) + (k : Int)).toNat = i + k := by omega
          have s6 : 0 ≤ (i : Int) + (k : Int) := by omega
          have s7 : (i : Int) + (k : Int) < (n : Int) + (m : Int) := by omega
          go_wp2_with fail
          go_quiet (fail)
          go_wp2_with fail
          have e1 := HI2.out.2.2.2.1
          have e2 := HI2.out.2.2.2.2.1
          exact ⟨⟨k + 1, _, _, by omega, by go_num, rfl, e1, e2, HI2.out, HR2.out _ _, HE2.out _ _⟩, by simp [intOf]; omega⟩
        · obtain rfl : k = m := by omega
          have hIL := HI.out.1
          have hcell := HRr.out.cell (i + k) (by omega)
          have hfz := HRr.out.free (i + k)
          have HI2 := Lib.hid (HI.out.row hlt HM.out)
          have HR2 := Lib.hid (HRr.out.set_ (i + k) (by omega) cy)
          have HE2 := Lib.hid (HEr.out.setg (g := G) (o := i + k) (u := .int .i64 cy) hGle)
          clear hIL
          go_wp2_with fail
          exact ⟨⟨i + 1, _, by omega, by go_num, HI2.out, HR2.out, HE2.out⟩, by simp [intOf]; omega⟩
    · obtain rfl : i = n := by omega
      obtain ⟨hD, hLn, hVV⟩ := HI.out.done HN.out
      have HSL := Lib.hid (HRr.out.sl 0 (i + m) wr.heap.size (by omega) HRr.out.lt)
      rw [List.drop_zero, List.take_of_length_le (by omega)] at HSL
      have HC := Lib.hid (normal_any (!(b1 == b2)) (some ⟨G, 0, none⟩) (i + m) (i + m) wr.heap.size L wr HSL.out (Nat.le_refl _) (Nat.le_refl _) (by unfold maxLen; omega) (by simp) hD)
      rw [hVV, HV.out] at HC
      clear hD hLn hVV
      go_wp2_with fail
      refine HC.out.mono ?_
      rintro e w5 h5
      obtain ⟨v5, rfl, hr, hb5⟩ := h5
      obtain ⟨d5, A5, n5, q5, rfl⟩ := hr.shape
      have hk := HEr.out.2.2.1.below hb5
      have hbb := HEr.out.2.2.2.2.2.trans (hb5.mono HEr.out.2.2.2.2.2.size)
      have f0 := hk.f0
      have f1 := hk.f1
      have c0 := hk.c0
      have c1 := hk.c1
      have HF := Lib.hid (newN_ret (hr.more hb5.size) hk hbb (by omega))
      clear hr hb5 hk hbb
      go_wp2_with fail
      exact bodyPost_ret (v := .agg #[.bool d5, .slice A5 n5 q5]) (by simp [results, Tryz.results11, go_sem, c0, c1]) rfl HF.out

/-! ### Sub -/
end Go.Proofs.YtgfhniiidejmoaaGreatDoor
namespace Go.Proofs.YtgfhniiidejmoaaGreatDoor
open Go.RowKit
set_option linter.unusedVariables false

/-! ### Of -/
theorem of_few {z M : Int} {k : Nat} {l : List Int} (hd : Dig 10000 l) (hl : l.length = k) (h : dv 10000 l + 10000 ^ k * M = z) (hM : 1 ≤ M) (hz : z ≤ 9223372036854775808) : k ≤ 4 := by
  rcases Nat.lt_or_ge 4 k with h1 | h1
  · have h2 := pow_mono' (show (0 : Int) < 10000 by omega) (show 5 ≤ k by omega)
    have h3 : (10000 : Int) ^ 5 = 100000000000000000000 := by decide
    have h4 := dv_nonneg (show (0 : Int) < 10000 by omega) hd
    have h5 := Int.mul_le_mul_of_nonneg_left hM (Int.le_of_lt (pow_pos' (show (0 : Int) < 10000 by omega) k))
    rw [Int.mul_one] at h5
    omega
  · exact h1
theorem own_parts {k : IntKind} {w : World} {base n : Nat} {e : TypeId} {v : Value} {zs : List Int} (h : w.ownsRow base e 1 v n (zs.map (Value.int k))) :
    ∃ A c, v = .slice A n c ∧ n ≤ c ∧ c ≤ maxLen ∧ Sl k w w.heap.size A n zs ∧ (A = none → c = 0) := by
  obtain ⟨A, c, rfl, h1, h2, h3⟩ := Sl.of_own h
  refine ⟨A, c, rfl, h1, h2, h3, ?_⟩
  rintro rfl
  rcases h.2 with ⟨h4, _⟩ | ⟨g, cap, cur, h4, _⟩
  · injection h4
  · injection h4 with h4; cases h4
def OfI (z M : Int) (k : Nat) (l : List Int) : Prop := l.length = k ∧ Dig 10000 l ∧ dv 10000 l + 10000 ^ k * M = z
theorem OfI.step {z M : Int} {k : Nat} {l : List Int} (h : OfI z M k l) : OfI z (M / 10000) (k + 1) (l ++ [M % 10000]) := by
  obtain ⟨h1, h2, h3⟩ := h
  refine ⟨by simp [h1], h2.app (Dig.cons (by omega) Dig.nil), ?_⟩
  rw [dv_snoc, h1, Int.pow_succ, Int.mul_assoc, Int.add_assoc, ← Int.mul_add, show M % 10000 + 10000 * (M / 10000) = M by omega]
  exact h3

set_option maxRecDepth 100000 in
set_option maxHeartbeats 2000000 in
theorem of_pos (n : Int) (w : World) (h0 : 0 ≤ n) (h1 : n ≤ 9223372036854775807) :
    Calls Tryz.prog 8 #[.int .i64 n] w (NewN n w) := by
  obtain ⟨i0, hi, hz0, hz1, hz2⟩ := info_parts int_info
  have hneg : decide (n < 0) = false := decide_eq_false (by omega)
  have HB0 := Lib.hid (Blk2.new w 26 (.bool false) (.slice none 0 0))
  have HA0 := Lib.hid ((Below.refl w.heap.size w).alloc (Nat.le_refl _) (.cells #[.bool false, .slice none 0 0] 26))
  go_enter Tryz.func8, Tryz.ntmps8
  go_wp2_with fail
  go_loopw [0, 3] (fun nv dd wr => ∃ (M : Int) (k : Nat) (l : List Int), 0 ≤ M ∧ M ≤ n ∧ nv = .int .i64 M ∧ wr.ownsRow (w.heap.size + 1) 3 1 dd k (l.map (Value.int .i64)) ∧ Hid (OfI n M k l) ∧ Hid (Blk2 wr w.heap.size 26 (.bool false) (.slice none 0 0)) ∧ Below w.heap.size w wr) (fun nv _ _ => (intOf nv).toNat)
  case atStart => exact ⟨n, 0, [], h0, Int.le_refl _, rfl, World.ownsRow_nil _ _ _ _, by show OfI n n 0 []; exact ⟨rfl, Dig.nil, by simp [dv]⟩, HB0.out, HA0.out⟩
  case round =>
    clear hneg HB0 HA0
    obtain ⟨M, k, l, hM0, hM1, rfl, hown, HI, HBk, hb⟩ := hrel
    have HO := Lib.hid hown
    have HB := Lib.hid hb
    have hsz := HBk.out.lt
    rcases Int.lt_or_eq_of_le hM0 with hpos | rfl
    · have hk4 := of_few HI.out.2.1 HI.out.1 HI.out.2.2 (by omega) (by omega)
      have hne : M ≠ 0 := by omega
      have E1 := Lib.hid (show l.map (Value.int .i64) ++ [Value.int .i64 (M % 10000)] = (l ++ [M % 10000]).map (Value.int .i64) by simp)
      have HI2 := Lib.hid HI.out.step
      have hr1 : k + 1 ≤ maxLen := by unfold maxLen; omega
      have hr2 : (k + 1) * 8 ≤ 140737488355328 := by omega
      have hq0 : 0 ≤ M % 10000 := by omega
      have hq1 : ¬ (M % 10000 < 0) := by omega
      have hown := HO.out
      clear hb
      go_wp2_with (at_builtin; refine wpList_append_own _ rfl _ _ _ rfl (w.heap.size + 1) 3 i0 _ 1 8 Tryz.underlying23 hi hz0 hz1 hz2 rfl (by omega) _ k (l.map (Value.int .i64)) rfl (hown.alloc _) ⟨wr.heap.size, 0, none⟩ 1 1 [.int .i64 (M % 10000)] rfl rfl (cell_one_new _ _ _) (by simp [Value.oneCell']) hr1 hr2 (by simp; omega) ?_; intro v5 w5 hown5 hg5 hnil5; rw [E1.out] at hown5; have HB5 := Lib.hid ((HB.out.alloc HB.out.size _).trans (below_of_grown hg5 (by simp; omega) (fun g hg => by have := (hown.lt g hg).1; omega))); have HK5 := Lib.hid ((HBk.out.below ((Below.refl _ _).alloc (Nat.le_refl _) _)).grown hg5 (fun e => by have := (hown.lt w.heap.size e.symm).1; omega)); have O5 := Lib.hid hown5; clear hown5 hg5 hnil5)
      go_wp2_with fail
      exact ⟨⟨M / 10000, k + 1, l ++ [M % 10000], by omega, by omega, rfl, O5.out, HI2.out, HK5.out, HB5.out⟩, by simp [intOf]; omega⟩
    · obtain ⟨A1, k1, rfl, s1, s2, s3, s4⟩ := own_parts HO.out
      have HC := Lib.hid (normal_any false A1 k k1 wr.heap.size l wr s3 (Nat.le_refl _) s1 s2 s4 HI.out.2.1)
      have hV := HI.out.2.2
      rw [Int.mul_zero, Int.add_zero] at hV
      rw [hV] at HC
      clear s1 s2 s3 s4 hb hV
      have HZ : Hid ((if (false : Bool) = true then -n else n) = n) := by show (if (false : Bool) = true then -n else n) = n; simp
      go_wp2_with fail
      refine HC.out.mono ?_
      rintro e w5 h5
      obtain ⟨v5, rfl, hr, hb5⟩ := h5
      obtain ⟨d5, A5, n5, q5, rfl⟩ := hr.shape
      have hk := HBk.out.below hb5
      have hbb := HB.out.trans (hb5.mono HB.out.size)
      have f0 := hk.f0
      have f1 := hk.f1
      have c0 := hk.c0
      have c1 := hk.c1
      have HF := Lib.hid (newN_ret (hr.more hb5.size) hk hbb (by omega))
      clear hr hb5 hk hbb
      go_wp2_with fail
      exact bodyPost_ret (v := .agg #[.bool d5, .slice A5 n5 q5]) (by simp [results, Tryz.results8, go_sem, c0, c1]) rfl (by have h := HF.out; rw [HZ.out] at h; exact h)
set_option maxRecDepth 100000 in
set_option maxHeartbeats 2000000 in
theorem of_neg (n : Int) (w : World) (h0 : n < 0) (h1 : -9223372036854775808 ≤ n) :
    Calls Tryz.prog 8 #[.int .i64 n] w (NewN n w) := by
  obtain ⟨i0, hi, hz0, hz1, hz2⟩ := info_parts int_info
  have hneg : decide (n < 0) = true := decide_eq_true (by omega)
  have HB0 := Lib.hid (Blk2.new w 26 (.bool false) (.slice none 0 0))
  have HA0 := Lib.hid ((Below.refl w.heap.size w).alloc (Nat.le_refl _) (.cells #[.bool false, .slice none 0 0] 26))
  go_enter Tryz.func8, Tryz.ntmps8
  go_wp2_with fail
  go_loopw [0, 3] (fun nv dd wr => ∃ (M : Int) (k : Nat) (l : List Int), 0 ≤ M ∧ M ≤ -n ∧ nv = .int .i64 (-M) ∧ wr.ownsRow (w.heap.size + 1) 3 1 dd k (l.map (Value.int .i64)) ∧ Hid (OfI (-n) M k l) ∧ Hid (Blk2 wr w.heap.size 26 (.bool false) (.slice none 0 0)) ∧ Below w.heap.size w wr) (fun nv _ _ => (-(intOf nv)).toNat)
  case atStart => exact ⟨-n, 0, [], by omega, Int.le_refl _, by go_num, World.ownsRow_nil _ _ _ _, by show OfI (-n) (-n) 0 []; exact ⟨rfl, Dig.nil, by simp [dv]⟩, HB0.out, HA0.out⟩
  case round =>
    clear hneg HB0 HA0
    obtain ⟨M, k, l, hM0, hM1, rfl, hown, HI, HBk, hb⟩ := hrel
    have HO := Lib.hid hown
    have HB := Lib.hid hb
    have hsz := HBk.out.lt
    rcases Int.lt_or_eq_of_le hM0 with hpos | rfl
    · have hk4 := of_few HI.out.2.1 HI.out.1 HI.out.2.2 (by omega) (by omega)
      have hne : M ≠ 0 := by omega
      have htm : (-M).tmod 10000 = -(M % 10000) := by rw [Int.neg_tmod, Int.tmod_eq_emod_of_nonneg (by omega)]
      have htd : (-M).tdiv 10000 = -(M / 10000) := by rw [Int.neg_tdiv, Int.tdiv_eq_ediv_of_nonneg (by omega)]
      have E1 := Lib.hid (show l.map (Value.int .i64) ++ [Value.int .i64 (M % 10000)] = (l ++ [M % 10000]).map (Value.int .i64) by simp)
      have HI2 := Lib.hid HI.out.step
      have hr1 : k + 1 ≤ maxLen := by unfold maxLen; omega
      have hr2 : (k + 1) * 8 ≤ 140737488355328 := by omega
      have hq0 : 0 ≤ M % 10000 := by omega
      have hq1 : ¬ (M % 10000 < 0) := by omega
      have hown := HO.out
      clear hb
      by_cases hz : M % 10000 = 0
      · have E0 := Lib.hid (show l.map (Value.int .i64) ++ [Value.int .i64 0] = (l ++ [M % 10000]).map (Value.int .i64) by rw [hz]; simp)
        go_wp2_with (at_builtin; refine wpList_append_own _ rfl _ _ _ rfl (w.heap.size + 1) 3 i0 _ 1 8 Tryz.underlying23 hi hz0 hz1 hz2 rfl (by omega) _ k (l.map (Value.int .i64)) rfl (hown.alloc _) ⟨wr.heap.size, 0, none⟩ 1 1 [.int .i64 0] rfl rfl (cell_one_new _ _ _) (by simp [Value.oneCell']) hr1 hr2 (by simp; omega) ?_; intro v5 w5 hown5 hg5 hnil5; rw [E0.out] at hown5; have HB5 := Lib.hid ((HB.out.alloc HB.out.size _).trans (below_of_grown hg5 (by simp; omega) (fun g hg => by have := (hown.lt g hg).1; omega))); have HK5 := Lib.hid ((HBk.out.below ((Below.refl _ _).alloc (Nat.le_refl _) _)).grown hg5 (fun e => by have := (hown.lt w.heap.size e.symm).1; omega)); have O5 := Lib.hid hown5; clear hown5 hg5 hnil5)
        go_wp2_with fail
        exact ⟨⟨M / 10000, k + 1, l ++ [M % 10000], by omega, by omega, by go_num, O5.out, HI2.out, HK5.out, HB5.out⟩, by simp [intOf]; omega⟩
      · have hz' : -(M % 10000) < 0 := by omega
        go_wp2_with (at_builtin; refine wpList_append_own _ rfl _ _ _ rfl (w.heap.size + 1) 3 i0 _ 1 8 Tryz.underlying23 hi hz0 hz1 hz2 rfl (by omega) _ k (l.map (Value.int .i64)) rfl (hown.alloc _) ⟨wr.heap.size, 0, none⟩ 1 1 [.int .i64 (M % 10000)] rfl rfl (cell_one_new _ _ _) (by simp [Value.oneCell']) hr1 hr2 (by simp; omega) ?_; intro v5 w5 hown5 hg5 hnil5; rw [E1.out] at hown5; have HB5 := Lib.hid ((HB.out.alloc HB.out.size _).trans (below_of_grown hg5 (by simp; omega) (fun g hg => by have := (hown.lt g hg).1; omega))); have HK5 := Lib.hid ((HBk.out.below ((Below.refl _ _).alloc (Nat.le_refl _) _)).grown hg5 (fun e => by have := (hown.lt w.heap.size e.symm).1; omega)); have O5 := Lib.hid hown5; clear hown5 hg5 hnil5)
        go_wp2_with fail
        exact ⟨⟨M / 10000, k + 1, l ++ [M % 10000], by omega, by omega, by go_num, O5.out, HI2.out, HK5.out, HB5.out⟩, by simp [intOf]; omega⟩
    · obtain ⟨A1, k1, rfl, s1, s2, s3, s4⟩ := own_parts HO.out
      have HC := Lib.hid (normal_any true A1 k k1 wr.heap.size l wr s3 (Nat.le_refl _) s1 s2 s4 HI.out.2.1)
      have hV := HI.out.2.2
      rw [Int.mul_zero, Int.add_zero] at hV
      rw [hV] at HC
      clear s1 s2 s3 s4 hb hV
      have HZ : Hid ((if (true : Bool) = true then -(-n) else -n) = n) := by show (if (true : Bool) = true then -(-n) else -n) = n; simp
      go_wp2_with fail
      refine HC.out.mono ?_
      rintro e w5 h5
      obtain ⟨v5, rfl, hr, hb5⟩ := h5
      obtain ⟨d5, A5, n5, q5, rfl⟩ := hr.shape
      have hk := HBk.out.below hb5
      have hbb := HB.out.trans (hb5.mono HB.out.size)
      have f0 := hk.f0
      have f1 := hk.f1
      have c0 := hk.c0
      have c1 := hk.c1
      have HF := Lib.hid (newN_ret (hr.more hb5.size) hk hbb (by omega))
      clear hr hb5 hk hbb
      go_wp2_with fail
      exact bodyPost_ret (v := .agg #[.bool d5, .slice A5 n5 q5]) (by simp [results, Tryz.results8, go_sem, c0, c1]) rfl (by have h := HF.out; rw [HZ.out] at h; exact h)
theorem of_any (n : Int) (w : World) (h0 : -9223372036854775808 ≤ n) (h1 : n ≤ 9223372036854775807) :
    Calls Tryz.prog 8 #[.int .i64 n] w (NewN n w) := by
  rcases Int.lt_or_le n 0 with h | h
  · exact of_neg n w h h0
  · exact of_pos n w h h1
end Go.Proofs.YtgfhniiidejmoaaGreatDoor
namespace Go.Proofs.YtgfhniiidejmoaaGreatDoor
open Go.RowKit
set_option linter.unusedVariables false

def DigitPost (q : Int) (w : World) (e : Ending) (w' : World) : Prop := ∃ lo hi : Int, e = .returned (.tuple #[.int .i64 lo, .int .i64 hi]) ∧ 0 ≤ lo ∧ lo ≤ q ∧ q ≤ hi ∧ hi ≤ 9999 ∧ ∃ k, w' = w.drewN k
theorem DigitPost.mk {q : Int} (lo hi : Int) {w : World} (k : Nat) (h0 : 0 ≤ lo) (h1 : lo ≤ q) (h2 : q ≤ hi) (h3 : hi ≤ 9999) : DigitPost q w (.returned (.tuple #[.int .i64 lo, .int .i64 hi])) (w.drewN k) := ⟨lo, hi, rfl, h0, h1, h2, h3, k, rfl⟩
end Go.Proofs.YtgfhniiidejmoaaGreatDoor
namespace Go.Proofs.YtgfhniiidejmoaaGreatDoor
open Go.RowKit
set_option linter.unusedVariables false

end Go.Proofs.YtgfhniiidejmoaaGreatDoor
