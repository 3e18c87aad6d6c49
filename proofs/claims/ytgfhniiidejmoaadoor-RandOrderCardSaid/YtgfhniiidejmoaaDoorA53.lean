/- Layer 5's laws: RandOrder. -/
import Derived.Test.YtgfhniiidejmoaaDoorA43
import Derived.Test.YtgfhniiidejmoaaDoorA52
import Derived.Test.YtgfhniiidejmoaaDoorA48
import Derived.Test.YtgfhniiidejmoaaDoorA39
namespace Go.Proofs.YtgfhniiidejmoaaDoor
open Go.RowKit Go.Shelf
set_option linter.unusedVariables false

theorem four_at (k : IntKind) (w : World) (t : TypeId) (a b c d : Int) (g : Nat) (hg : w.heap.size = g) : Sl k (w.alloc (.cells #[.int k a, .int k b, .int k c, .int k d] t)) (w.alloc (.cells #[.int k a, .int k b, .int k c, .int k d] t)).heap.size (some ⟨g, 0, none⟩) 4 [a, b, c, d] := by
  subst hg
  refine ⟨rfl, .inr ⟨w.heap.size, 0, rfl, by simp, fun j hj => ?_⟩⟩
  have : j = 0 ∨ j = 1 ∨ j = 2 ∨ j = 3 := by omega
  rcases this with rfl | rfl | rfl | rfl <;> (rw [cell_of_row _ _ _ _ _ _ (heap_alloc_new w _)]; rfl)
theorem two_at (k : IntKind) (w : World) (t : TypeId) (a b : Int) (g : Nat) (hg : w.heap.size = g) : Sl k (w.alloc (.cells #[.int k a, .int k b] t)) (w.alloc (.cells #[.int k a, .int k b] t)).heap.size (some ⟨g, 0, none⟩) 2 [a, b] := by
  subst hg; exact two_cells k w t a b
def OrdA (seed x z a e : Int) : Prop := ∀ w, RoundsAt w → Calls Tryd.prog 24 #[.int .u64 seed, .int .i64 x, .int .i64 z] w fun r w' => r = .returned (.tuple #[.int .i64 a, .int .i64 e]) ∧ Below w.heap.size w w'
def OrdR (seed x z a e : Int) : Prop := ∀ w, Calls Tryd.prog 25 #[.int .u64 seed, .int .i64 x, .int .i64 z] w fun r w' => r = .returned (.tuple #[.int .i64 a, .int .i64 e]) ∧ Below w.heap.size w w'
def PlcA (seed x z a e : Int) : Prop := ∀ w, RoundsAt w → Calls Tryd.prog 26 #[.int .u64 seed, .int .i64 x, .int .i64 z] w fun r w' => r = .returned (.tuple #[.int .i64 a, .int .i64 e]) ∧ Below w.heap.size w w'
theorem placeE_ok {x z : Int} (h : placeE x z = 0) : 1 ≤ x ∧ x ≤ 1099511627776 ∧ 0 ≤ z ∧ z < x := by
  unfold placeE at h
  split at h
  · omega
  · split at h
    · omega
    · omega
theorem placeA (seed x z : Int) : ∃ c g, PlcA seed x z c g ∧ g = placeE x z := by
  by_cases h : placeE x z = 0
  · obtain ⟨h1, h2, h3, h4⟩ := placeE_ok h
    obtain ⟨n, rfl⟩ := Int.eq_ofNat_of_zero_le (show 0 ≤ x by omega)
    obtain ⟨k, rfl⟩ := Int.eq_ofNat_of_zero_le h3
    obtain ⟨y, t, hit⟩ := ordB_hits seed n k (by omega) (by omega)
    exact ⟨y, 0, fun w hR => place_good seed n k y t w (by omega) (by omega) hR hit, h.symm⟩
  · refine ⟨0, placeE x z, fun w hR => ?_, rfl⟩
    refine (place_bad seed x z w h).mono ?_
    rintro e w' ⟨rfl, rfl⟩; exact ⟨rfl, Below.refl _ _⟩
theorem order_both (seed x z : Int) : ∃ a e c g d : Int, OrdA seed x z a e ∧ OrdR seed x z a e ∧ PlcA seed x a c g ∧ PlcA seed x z d e ∧ (e = 0 → g = 0 ∧ c = z) := by
  by_cases h : placeE x z = 0
  · obtain ⟨d, g', hd, hg'⟩ := placeA seed x z
    rw [h] at hg'; subst hg'
    obtain ⟨h1, h2, h3, h4⟩ := placeE_ok h
    obtain ⟨n, rfl⟩ := Int.eq_ofNat_of_zero_le (show 0 ≤ x by omega)
    obtain ⟨k, rfl⟩ := Int.eq_ofNat_of_zero_le h3
    obtain ⟨y, t, hit⟩ := ord_hits seed n k (by omega) (by omega)
    exact ⟨y, 0, k, 0, d, fun w hR => order_good seed n k y t w (by omega) (by omega) hR hit, fun w => rorder_good seed n k y t w (by omega) (by omega) hit, fun w hR => place_good seed n y k t w (by omega) hit.2.2.1 hR (ord_back (by omega) (by omega) hit), hd, fun _ => ⟨rfl, rfl⟩⟩
  · obtain ⟨c, g, hc, hg⟩ := placeA seed x 0
    refine ⟨0, placeE x z, c, g, 0, fun w hR => ?_, fun w => ?_, hc, fun w hR => ?_, fun h' => absurd h' h⟩
    · refine (order_bad seed x z w h).mono ?_
      rintro e w' ⟨rfl, rfl⟩; exact ⟨rfl, Below.refl _ _⟩
    · refine (rorder_bad seed x z w h).mono ?_
      rintro e w' ⟨rfl, rfl⟩; exact ⟨rfl, Below.refl _ _⟩
    · refine (place_bad seed x z w h).mono ?_
      rintro e w' ⟨rfl, rfl⟩; exact ⟨rfl, Below.refl _ _⟩

set_option maxRecDepth 100000 in
set_option maxHeartbeats 8000000 in
theorem randOrder_law (seed k n i : Int) (w : World) (hk0 : -9223372036854775808 ≤ k) (hk1 : k ≤ 9223372036854775807) (hn0 : -9223372036854775808 ≤ n) (hn1 : n ≤ 9223372036854775807) (hi0 : -9223372036854775808 ≤ i) (hi1 : i ≤ 9223372036854775807) (hR : RoundsAt w) :
    Calls Tryd.prog 6 #[.int .u64 seed, .int .i64 k, .int .i64 n, .int .i64 i] w fun e w' => e = .returned (.bool true) ∧ Below w.heap.size w w' := by
  have hbk := aroundI_bd k 1000 (by omega)
  have hbn := aroundI_bd n 1099511627776 (by omega)
  have hb3 := aroundI_bd n 3 (by omega)
  have HAK := Lib.hid (around63 k 1000 w hk0 hk1 (by omega) (by omega))
  have HAN := Lib.hid (fun w => around63 n 1099511627776 w hn0 hn1 (by omega) (by omega))
  have HAB := Lib.hid (fun w => bound_any n 1 w hn0 hn1 (by omega) (by omega))
  obtain ⟨zk, hzk⟩ : ∃ z, z = aroundI k 1000 := ⟨_, rfl⟩
  obtain ⟨zn, hzn⟩ : ∃ z, z = aroundI n 1099511627776 := ⟨_, rfl⟩
  obtain ⟨zb, hzb⟩ : ∃ z, z = aroundI n (2 * 1 + 1) - 1 := ⟨_, rfl⟩
  rw [← hzk] at hbk HAK
  rw [← hzn] at hbn HAN
  rw [← hzb] at HAB
  have hzb0 : -1 ≤ zb ∧ zb ≤ 1 := by rw [hzb]; have h := aroundI_bd n (2 * 1 + 1) (by omega); omega
  obtain ⟨k0, k1⟩ := hbk
  obtain ⟨n0, n1⟩ := hbn
  obtain ⟨b0, b1⟩ := hzb0
  have HBD := Lib.hid (fun w => rbound_any (4 * zk) w (by omega) (by omega))
  clear hzk hzn hzb hb3 hk0 hk1
  have HAI := Lib.hid (fun m h1 h2 w => around63 i m w hi0 hi1 h1 h2)
  have HB := Lib.hid (Below.refl w.heap.size w)
  have HR := Lib.hid hR
  clear hR
  go_enter Tryd.func6, Tryd.ntmps6
  go_wp2_with fail
  refine HAK.out.mono ?_
  rintro e w1 ⟨rfl, rfl⟩
  go_wp2_with fail
  refine (HBD.out _).mono ?_
  rintro e w1 ⟨r, rfl, hr0, hr1, rfl⟩
  go_wp2_with fail
  refine (HAN.out _).mono ?_
  rintro e w1 ⟨rfl, rfl⟩
  go_wp2_with fail
  refine (HAB.out _).mono ?_
  rintro e w1 ⟨rfl, rfl⟩
  clear HAK HBD HAN HAB
  go_wp2_with fail
  have hs := four_at .i64 w 3 r (1 + zn) n (1099511627776 + zb) w.heap.size rfl
  have b := al_below w (.cells #[.int .i64 r, .int .i64 (1 + zn), .int .i64 n, .int .i64 (1099511627776 + zb)] 3)
  replace HB := Lib.hid (bstep HB.out b)
  obtain ⟨W, hW⟩ : ∃ W, W = w.alloc (.cells #[.int .i64 r, .int .i64 (1 + zn), .int .i64 n, .int .i64 (1099511627776 + zb)] 3) := ⟨_, rfl⟩
  obtain ⟨A, hA⟩ : ∃ A : Option Addr, A = some ⟨w.heap.size, 0, none⟩ := ⟨_, rfl⟩
  obtain ⟨L, hL⟩ : ∃ L, L = [r, 1 + zn, n, 1099511627776 + zb] := ⟨_, rfl⟩
  have HLB := Lib.hid (show ∀ j, j < 4 → -9223372036854775808 ≤ L[j]?.getD 0 ∧ L[j]?.getD 0 ≤ 9223372036854775807 from fun j hj => by
    have : j = 0 ∨ j = 1 ∨ j = 2 ∨ j = 3 := by omega
    rcases this with rfl | rfl | rfl | rfl <;> (rw [hL]; simp; omega))
  rw [← hW] at hs HB ⊢
  rw [← hA] at hs ⊢
  rw [← hL] at hs
  have HS := Lib.hid hs
  clear hW hA hL hs b hr0 hr1
  go_loopw [10] (fun jv wr => ∃ j : Nat, j ≤ 4 ∧ jv = .int .i64 j ∧ Hid (Sl .i64 wr wr.heap.size A 4 L) ∧ Hid (Below w.heap.size w wr)) (fun jv _ => 4 - (intOf jv).toNat)
  case atStart => exact ⟨0, by omega, rfl, HS, HB⟩
  case round =>
    clear HS HB
    obtain ⟨j, hj, rfl, HS, HB⟩ := hrel
    by_cases hlt : j < 4
    · obtain ⟨b, off, rfl, hb, hcl⟩ := HS.out.at_ (by omega)
      have hcell := hcl j hlt
      have hxb := HLB.out j hlt
      clear hcl
      obtain ⟨x, hx⟩ : ∃ x, L[j]?.getD 0 = x := ⟨_, rfl⟩
      rw [hx] at hcell hxb
      obtain ⟨hx0, hx1⟩ := hxb
      clear hx
      have hji : (j : Int) < 4 := by omega
      obtain ⟨M, hM⟩ : ∃ M, M = max (1 : Int) x := ⟨_, rfl⟩
      have hM1 : 1 ≤ M := by omega
      have hM2 : M ≤ 9223372036854775807 := by omega
      have HM := Lib.hid hM
      have HAJ := Lib.hid (fun w => HAI.out M hM1 hM2 w)
      obtain ⟨y, hy⟩ : ∃ y, y = aroundI i M := ⟨_, rfl⟩
      rw [← hy] at HAJ
      clear hM hy
      go_wp2_with fail
      rw [← HM.out]
      refine (HAJ.out _).mono ?_
      rintro e w2 ⟨rfl, rfl⟩
      go_wp2_with fail
      have hs := two_at .i64 wr 3 y i wr.heap.size rfl
      have bb := al_below wr (.cells #[.int .i64 y, .int .i64 i] 3)
      replace HB := Lib.hid (bstep HB.out bb)
      replace HS := Lib.hid ((HS.out.below bb).more bb.size)
      have HC := Lib.hid (rb_cell hcell bb)
      obtain ⟨V, hV⟩ : ∃ V, V = wr.alloc (.cells #[.int .i64 y, .int .i64 i] 3) := ⟨_, rfl⟩
      obtain ⟨A2, hA2⟩ : ∃ A2 : Option Addr, A2 = some ⟨wr.heap.size, 0, none⟩ := ⟨_, rfl⟩
      obtain ⟨L2, hL2⟩ : ∃ L2, L2 = [y, i] := ⟨_, rfl⟩
      rw [← hV] at hs HB HS HC ⊢
      rw [← hA2] at hs ⊢
      rw [← hL2] at hs
      have HS2 := Lib.hid hs
      clear hV hA2 hL2 hs bb hcell hb HAJ HM
      go_loopw [12] (fun qv wi => ∃ q : Nat, q ≤ 2 ∧ qv = .int .i64 q ∧ Hid (Sl .i64 wi wi.heap.size (some ⟨b, off, none⟩) 4 L) ∧ Hid (wi.cell? ⟨b, off + j, none⟩ = some (.int .i64 x)) ∧ Hid (Sl .i64 wi wi.heap.size A2 2 L2) ∧ Hid (Below w.heap.size w wi)) (fun qv _ => 2 - (intOf qv).toNat)
      case atStart => exact ⟨0, by omega, rfl, HS, HC, HS2, HB⟩
      case round =>
        clear HS HC HS2 HB
        obtain ⟨q, hq, rfl, HS, HC, HS2, HB⟩ := hrel
        by_cases hql : q < 2
        · obtain ⟨b2, off2, rfl, hb2, hcl⟩ := HS2.out.at_ (by omega)
          have hcell2 := hcl q hql
          clear hcl
          obtain ⟨z, hz⟩ : ∃ z, L2[q]?.getD 0 = z := ⟨_, rfl⟩
          rw [hz] at hcell2
          clear hz hb2
          have hqi : (q : Int) < 2 := by omega
          obtain ⟨a, er, c, ge, d, h1, h2, h3, h4, h5⟩ := order_both seed x z
          have H1 := Lib.hid h1
          have H2 := Lib.hid h2
          have H3 := Lib.hid h3
          have H4 := Lib.hid h4
          have H5 := Lib.hid h5
          have e1 : (a != a) = false := by simp
          have e2 : (er != er) = false := by simp
          clear h1 h2 h3 h4 h5
          have c1 := HC.out
          have c2 := hcell2
          have HRw := Lib.hid (HR.out.below HB.out)
          clear hcell2
          go_wp2_with fail
          have KP := Lib.hid (show ∀ W, Below wr.heap.size wr W → W.cell? ⟨b, off + j, none⟩ = some (.int .i64 x) ∧ W.cell? ⟨b2, off2 + q, none⟩ = some (.int .i64 z) ∧ Below wr.heap.size wr W from fun W hb => ⟨cell_below (c1) hb, cell_below (c2) hb, hb⟩)
          go_region_held3 (fun w' => w'.cell? ⟨b, off + j, none⟩ = some (.int .i64 x) ∧ w'.cell? ⟨b2, off2 + q, none⟩ = some (.int .i64 z) ∧ Below wr.heap.size wr w')
            (first | with_reducible exact KP.out _ (Below.refl _ _) | with_reducible exact KP.out _ (below_drew (Below.refl _ _)) | with_reducible exact KP.out _ ((by first | assumption | exact And.right (And.right (by assumption)))) | with_reducible exact KP.out _ (below_drew (by first | assumption | exact And.right (And.right (by assumption)))) | with_reducible exact KP.out _ (bal (by first | assumption | exact And.right (And.right (by assumption))) _) | with_reducible exact KP.out _ (bal (Below.refl _ _) _) | with_reducible exact KP.out _ (below_drew (bal (Below.refl _ _) _)) | with_reducible exact KP.out _ (bal (bal (Below.refl _ _) _) _) | with_reducible exact KP.out _ (below_drew (bal (bal (Below.refl _ _) _) _)) | with_reducible exact KP.out _ (below_drew (below_drew (bal (bal (Below.refl _ _) _) _))) | with_reducible exact KP.out _ (below_off (by first | assumption | exact And.right (And.right (by assumption))) (by omega)))
            (first
              | (go_at_call 24
                 refine (H1.out _ (HRw.out.below (by first | assumption | exact And.right (And.right (by assumption))))).mono ?_
                 rintro e w3 ⟨rfl, bn⟩
                 have hbn : Below wr.heap.size wr w3 := bstep (by first | assumption | exact And.right (And.right (by assumption))) bn))
          clear KP bn
          replace c1 := rb_cell c1 hbn
          replace c2 := rb_cell c2 hbn
          replace HS := Lib.hid ((HS.out.below hbn).more hbn.size)
          replace HS2 := Lib.hid ((HS2.out.below hbn).more hbn.size)
          replace HB := Lib.hid (bstep HB.out hbn)
          replace HRw := Lib.hid (HRw.out.below hbn)
          clear hbn
          go_wp2_with fail
          have KP := Lib.hid (show ∀ W, Below w3.heap.size w3 W → W.cell? ⟨b, off + j, none⟩ = some (.int .i64 x) ∧ W.cell? ⟨b2, off2 + q, none⟩ = some (.int .i64 z) ∧ Below w3.heap.size w3 W from fun W hb => ⟨cell_below (c1) hb, cell_below (c2) hb, hb⟩)
          go_region_held3 (fun w' => w'.cell? ⟨b, off + j, none⟩ = some (.int .i64 x) ∧ w'.cell? ⟨b2, off2 + q, none⟩ = some (.int .i64 z) ∧ Below w3.heap.size w3 w')
            (first | with_reducible exact KP.out _ (Below.refl _ _) | with_reducible exact KP.out _ (below_drew (Below.refl _ _)) | with_reducible exact KP.out _ ((by first | assumption | exact And.right (And.right (by assumption)))) | with_reducible exact KP.out _ (below_drew (by first | assumption | exact And.right (And.right (by assumption)))) | with_reducible exact KP.out _ (bal (by first | assumption | exact And.right (And.right (by assumption))) _) | with_reducible exact KP.out _ (bal (Below.refl _ _) _) | with_reducible exact KP.out _ (below_drew (bal (Below.refl _ _) _)) | with_reducible exact KP.out _ (bal (bal (Below.refl _ _) _) _) | with_reducible exact KP.out _ (below_drew (bal (bal (Below.refl _ _) _) _)) | with_reducible exact KP.out _ (below_drew (below_drew (bal (bal (Below.refl _ _) _) _))) | with_reducible exact KP.out _ (below_off (by first | assumption | exact And.right (And.right (by assumption))) (by omega)))
            (first
              | (go_at_call 25
                 refine (H2.out _).mono ?_
                 rintro e w4 ⟨rfl, bn⟩
                 have hbn : Below w3.heap.size w3 w4 := bstep (by first | assumption | exact And.right (And.right (by assumption))) bn))
          clear KP bn
          replace c1 := rb_cell c1 hbn
          replace c2 := rb_cell c2 hbn
          replace HS := Lib.hid ((HS.out.below hbn).more hbn.size)
          replace HS2 := Lib.hid ((HS2.out.below hbn).more hbn.size)
          replace HB := Lib.hid (bstep HB.out hbn)
          replace HRw := Lib.hid (HRw.out.below hbn)
          clear hbn
          go_wp2_with fail
          refine (H3.out _ HRw.out).mono ?_
          rintro e w5 ⟨rfl, hbn⟩
          replace c1 := rb_cell c1 hbn
          replace c2 := rb_cell c2 hbn
          replace HS := Lib.hid ((HS.out.below hbn).more hbn.size)
          replace HS2 := Lib.hid ((HS2.out.below hbn).more hbn.size)
          replace HB := Lib.hid (bstep HB.out hbn)
          replace HRw := Lib.hid (HRw.out.below hbn)
          clear hbn
          go_wp2_with fail
          have KP := Lib.hid (show ∀ W, Below w5.heap.size w5 W → W.cell? ⟨b, off + j, none⟩ = some (.int .i64 x) ∧ W.cell? ⟨b2, off2 + q, none⟩ = some (.int .i64 z) ∧ Below w5.heap.size w5 W from fun W hb => ⟨cell_below (c1) hb, cell_below (c2) hb, hb⟩)
          go_region_held3 (fun w' => w'.cell? ⟨b, off + j, none⟩ = some (.int .i64 x) ∧ w'.cell? ⟨b2, off2 + q, none⟩ = some (.int .i64 z) ∧ Below w5.heap.size w5 w')
            (first | with_reducible exact KP.out _ (Below.refl _ _) | with_reducible exact KP.out _ (below_drew (Below.refl _ _)) | with_reducible exact KP.out _ ((by first | assumption | exact And.right (And.right (by assumption)))) | with_reducible exact KP.out _ (below_drew (by first | assumption | exact And.right (And.right (by assumption)))) | with_reducible exact KP.out _ (bal (by first | assumption | exact And.right (And.right (by assumption))) _) | with_reducible exact KP.out _ (bal (Below.refl _ _) _) | with_reducible exact KP.out _ (below_drew (bal (Below.refl _ _) _)) | with_reducible exact KP.out _ (bal (bal (Below.refl _ _) _) _) | with_reducible exact KP.out _ (below_drew (bal (bal (Below.refl _ _) _) _)) | with_reducible exact KP.out _ (below_drew (below_drew (bal (bal (Below.refl _ _) _) _))) | with_reducible exact KP.out _ (below_off (by first | assumption | exact And.right (And.right (by assumption))) (by omega)))
            (first
              | (go_at_call 26
                 refine (H4.out _ (HRw.out.below (by first | assumption | exact And.right (And.right (by assumption))))).mono ?_
                 rintro e w6 ⟨rfl, bn⟩
                 have hbn : Below w5.heap.size w5 w6 := bstep (by first | assumption | exact And.right (And.right (by assumption))) bn))
          clear KP bn
          replace c1 := rb_cell c1 hbn
          replace c2 := rb_cell c2 hbn
          replace HS := Lib.hid ((HS.out.below hbn).more hbn.size)
          replace HS2 := Lib.hid ((HS2.out.below hbn).more hbn.size)
          replace HB := Lib.hid (bstep HB.out hbn)
          replace HRw := Lib.hid (HRw.out.below hbn)
          clear hbn
          replace HC := Lib.hid c1
          by_cases he : er = 0
          · obtain ⟨rfl, rfl⟩ := H5.out he
            subst he
            have e3 : (c != c) = false := by simp
            go_wp2_with fail
            go_roundw
            case rel => exact ⟨q + 1, by omega, by go_num, HS, HC, HS2, HB⟩
            case measure => simp [intOf]; omega
          · have e3 : (er == 0) = false := by simpa using he
            clear he
            go_wp2_with fail
            go_roundw
            case rel => exact ⟨q + 1, by omega, by go_num, HS, HC, HS2, HB⟩
            case measure => simp [intOf]; omega
        · obtain rfl : q = 2 := by omega
          go_wp2_with fail
          go_roundw
          case rel => exact ⟨j + 1, by omega, by go_num, HS, HB⟩
          case measure => simp [intOf]; omega
    · obtain rfl : j = 4 := by omega
      clear HS
      go_wp2_with fail
      refine (rlives_any _ (HR.out.below HB.out)).mono ?_
      rintro e w8 ⟨rfl, b⟩
      replace HB := Lib.hid (bstep HB.out b)
      clear b
      go_wp2_with fail
      go_ret
      exact ⟨rfl, HB.out⟩
end Go.Proofs.YtgfhniiidejmoaaDoor
