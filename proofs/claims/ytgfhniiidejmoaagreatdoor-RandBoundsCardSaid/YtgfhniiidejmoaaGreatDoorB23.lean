/- Contracts of package wide's numbers: slices.Clone, guess. -/
import Derived.Test.YtgfhniiidejmoaaGreatDoorB22
import Derived.Lib.SliceRun
namespace Go.Proofs.YtgfhniiidejmoaaGreatDoor
open Go.RowKit
set_option linter.unusedVariables false

/-- an own row that reads zs, or nothing -/
def OwnU (zs : List Int) (w : World) (e : Ending) (w' : World) : Prop :=
  ∃ A n c, e = .returned (.slice A n c) ∧ zs.length = n ∧ n ≤ c ∧ c ≤ maxLen ∧ (A = none → c = 0) ∧ (n = 0 ∨ ∃ g, A = some ⟨g, 0, none⟩ ∧ w.heap.size ≤ g ∧ RowW .u32 w' g 91 zs) ∧ Below w.heap.size w w'
theorem OwnU.sl {zs : List Int} {w : World} {e : Ending} {w' : World} (h : OwnU zs w e w') : ∃ A n c, e = .returned (.slice A n c) ∧ n ≤ c ∧ c ≤ maxLen ∧ (A = none → c = 0) ∧ Sl .u32 w' w'.heap.size A n zs ∧ Below w.heap.size w w' := by
  obtain ⟨A, n, c, rfl, hl, hc, hm, hA, h, hb⟩ := h
  refine ⟨A, n, c, rfl, hc, hm, hA, ?_, hb⟩
  rcases h with rfl | ⟨g, rfl, hg, hr⟩
  · exact ⟨hl, .inl rfl⟩
  · have hs := hr.sl 0 n w'.heap.size (by omega) hr.lt
    rwa [List.drop_zero, List.take_of_length_le (by omega)] at hs
theorem OwnU.new {zs : List Int} {x : Int} {w : World} {e : Ending} {w' : World} (h : OwnU zs w e w') (hd : Dig 4294967296 zs) (ht : Top zs) (hx : dv 4294967296 zs = x) : NewU x w e w' := by
  obtain ⟨A, n, c, rfl, hc, hm, hA, hs, hb⟩ := h.sl
  exact ⟨A, n, c, zs, rfl, ⟨hs, hc, hm, hA, hd, ht, hx⟩, hb⟩
theorem own_ownU {zs : List Int} {n : Nat} {w w' : World} {v : Value} (hl : zs.length = n) (h : w'.ownsRow w.heap.size 91 1 v n (zs.map (Value.int .u32))) (hb : Below w.heap.size w w') (hn : v ≠ .slice none 0 0) : OwnU zs w (.returned v) w' := by
  have h' := h
  rcases h.2 with ⟨rfl, rfl⟩ | ⟨g, cap, cur, rfl, hbg, hg, hnc, hm, hcs, ht⟩
  · exact absurd rfl hn
  · exact ⟨_, n, cap, rfl, hl, hnc, hm, (by intro h; cases h), .inr ⟨g, rfl, hbg, RowW.of_own h'⟩, hb⟩
set_option maxHeartbeats 1000000 in
theorem clone_any (A : Option Addr) (n c : Nat) (zs : List Int) (w : World) (h : Sl .u32 w w.heap.size A n zs) (hA : A = none → c = 0) (hnc : n ≤ c) (hn : n ≤ 1000000) :
    Calls Tryz.prog 64 #[.slice A n c] w (OwnU zs w) := by
  obtain ⟨i0, hi, hz0, hz1, hz2⟩ := info_parts u32_info
  have q32 : ∀ (w : World) (a : Option Addr) (n c n' c' : Nat), (binOp .eql 34 (.slice a n c) (.slice none n' c')).run Tryz.prog w = .ok (.bool a.isNone) w := fun w a n c n' c' => Lib.run_eql_slice_nil w _ _ a n c n' c' Tryz.underlying34
  rcases A with _ | ad
  · obtain rfl := hA rfl
    obtain rfl : n = 0 := by omega
    obtain rfl : zs = [] := List.length_eq_zero_iff.1 h.len
    clear h hA
    go_enter Tryz.func64, Tryz.ntmps64
    go_wp2_with fail
    go_ret
    exact ⟨none, 0, 0, rfl, rfl, Nat.le_refl _, by unfold maxLen; omega, fun _ => rfl, .inl rfl, Below.refl _ _⟩
  · have HS := Lib.hid h
    clear h hA
    go_enter Tryz.func64, Tryz.ntmps64
    go_wp2_with (at_builtin; refine wpList_append_own _ rfl _ _ 34 rfl w.heap.size 91 i0 (.int .u32 0) 1 4 Tryz.underlying34 hi hz0 hz1 hz2 rfl (by decide) _ _ _ rfl (World.ownsRow_made w #[] 0 (Nat.le_refl _) (Nat.zero_le _) rfl) ad n c (zs.map (Value.int .u32)) rfl ?qc1 ?qc2 ?qc3 ?qc4 ?qc5 ?qc6 ?_)
    case qc1 => simp [HS.out.len]
    case qc2 =>
      intro j u hj
      have hjn : j < n := by
        have := (List.getElem?_eq_some_iff.1 hj).1
        simpa [HS.out.len] using this
      obtain ⟨ad', hae, hc⟩ := HS.out.src (by rw [List.length_map, HS.out.len]; omega)
      obtain rfl : ad = ad' := by injection hae
      exact Lib.cell?_alloc_some _ (hc j u hj)
    case qc3 => intro u hu; obtain ⟨x, _, rfl⟩ := List.mem_map.1 hu; rfl
    case qc4 => unfold maxLen; omega
    case qc5 => omega
    case qc6 => simp
    intro v' w1 hown hgrow hnil
    have HF := Lib.hid (own_ownU (zs := zs) (n := n) HS.out.len (by simpa using hown) (((Below.refl _ w).alloc (Nat.le_refl _) _).grown hgrow (by simp) (by intro k hk; simp [Value.ownBlock] at hk; omega)) hnil)
    clear hown hgrow
    go_wp2_with fail
    go_ret
    exact HF.out
def minI (a b : Int) : Int := if a ≤ b then a else b
set_option maxHeartbeats 1000000 in
theorem guess_any (g off l c : Nat) (E : Option Addr) (f : Nat) (zs ys : List Int) (w : World) (h : Sl .u32 w w.heap.size (some ⟨g, off, none⟩) (l + 1) zs) (hc : l + 1 ≤ c) (k : Sl .u32 w w.heap.size E l ys) (hz : Dig 4294967296 zs) (hy : Dig 4294967296 ys) (hl : 0 < l) (hn : l ≤ 100000) (h0 : 0 < ys[l - 1]?.getD 0) :
    Calls Tryz.prog 82 #[.slice (some ⟨g, off, none⟩) (l + 1) c, .slice E l f] w fun e w' => e = .returned (.int .u32 (minI ((zs[l - 1]?.getD 0 + 4294967296 * zs[l]?.getD 0) / ys[l - 1]?.getD 0) 4294967295)) ∧ w = w' := by
  have hs2 : Sl .u32 w w.heap.size (some ⟨g, off + (l - 1), none⟩) (l + 1 - (l - 1)) (zs.drop (l - 1)) := by
    refine ⟨by rw [List.length_drop, h.len], .inr ⟨g, off + (l - 1), rfl, ?_, fun j hj => ?_⟩⟩
    · obtain ⟨b, o, e, hb, _⟩ := h.at_ (by omega)
      obtain rfl : g = b := by injection e with e; injection e
      exact hb
    · obtain ⟨b, o, e, hb, hcl⟩ := h.at_ (by omega)
      have hoff : off = o := by injection e with e; injection e
      obtain rfl : g = b := by injection e with e; injection e
      subst hoff
      rw [List.getElem?_drop, Nat.add_assoc]
      exact hcl _ (by omega)
  have H0 := Lib.hid (word_any (some ⟨g, off + (l - 1), none⟩) (l + 1 - (l - 1)) (c - (l - 1)) (zs.drop (l - 1)) w hs2 (hz.drop _) (by omega))
  have H1 := Lib.hid (nat_at E l f (l - 1) ys w k hy (by omega) (by omega))
  have b0 := hz.get (show (0 : Int) < 4294967296 by omega) (l - 1)
  have b1 := hz.get (show (0 : Int) < 4294967296 by omega) l
  have b2 := hy.get (show (0 : Int) < 4294967296 by omega) (l - 1)
  rw [List.getElem?_drop, List.getElem?_drop, show l - 1 + 0 = l - 1 by omega, show l - 1 + 1 = l by omega] at H0
  obtain ⟨x, hx⟩ : ∃ x, x = zs[l - 1]?.getD 0 + 4294967296 * zs[l]?.getD 0 := ⟨_, rfl⟩
  obtain ⟨y, hy'⟩ : ∃ y, y = ys[l - 1]?.getD 0 := ⟨_, rfl⟩
  rw [← hx] at H0 ⊢
  rw [← hy'] at H1 b2 h0 ⊢
  have x0 : 0 ≤ x := by omega
  have x1 : x ≤ 18446744073709551615 := by omega
  have y1 : y < 4294967296 := b2.2
  clear b0 b1 b2 h k hz hy hs2 hx hy'
  have e1 : ((l : Int) - 1).toNat = l - 1 := by omega
  have e0 : IntKind.i64.wrap ((l : Int) - 1) = (l : Int) - 1 := IntWalk.i64_in _ (by omega)
  have e2 : (l : Int) - 1 = ((l - 1 : Nat) : Int) := by omega
  have htd : x.tdiv y = x / y := Int.tdiv_eq_ediv_of_nonneg x0
  have hq0 : 0 ≤ x / y := Int.ediv_nonneg x0 (by omega)
  have hq1 : x / y ≤ x := Int.ediv_le_self _ x0
  obtain ⟨Q, hQ⟩ : ∃ Q, Q = x / y := ⟨_, rfl⟩
  rw [← hQ] at hq0 hq1 htd ⊢
  have hd0 : (y == 0) = false := by simp; omega
  have hw : IntKind.u64.wrap Q = Q := IntWalk.u64_in _ (by omega)
  clear hQ
  by_cases hm : Q ≤ 4294967295
  · have hr : minI Q 4294967295 = Q := if_pos hm
    rw [hr]
    go_enter Tryz.func82, Tryz.ntmps82
    go_wp2_with fail
    refine H0.out.mono ?_
    rintro e w1 ⟨rfl, rfl⟩
    go_wp2_with fail
    refine H1.out.mono ?_
    rintro e w1 ⟨rfl, rfl⟩
    go_wp2_with fail
    go_ret
    exact ⟨rfl, rfl⟩
  · have hr : minI Q 4294967295 = 4294967295 := if_neg hm
    rw [hr]
    go_enter Tryz.func82, Tryz.ntmps82
    go_wp2_with fail
    refine H0.out.mono ?_
    rintro e w1 ⟨rfl, rfl⟩
    go_wp2_with fail
    refine H1.out.mono ?_
    rintro e w1 ⟨rfl, rfl⟩
    go_wp2_with fail
    go_ret
    exact ⟨rfl, rfl⟩
end Go.Proofs.YtgfhniiidejmoaaGreatDoor
