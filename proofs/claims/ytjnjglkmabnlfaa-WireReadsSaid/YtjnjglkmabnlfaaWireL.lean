/- Contracts of the reader's other methods. -/
import Derived.Test.YtjnjglkmabnlfaaWireR
namespace Go.Proofs.Ytjnjglkmabnlfaa
open Go.RowKit
set_option linter.unusedVariables false

/-! ### Int -/
theorem xor_i64 (x : Int) (h : i64 x) : bits BinOp.xor IntKind.i64 (-1) x = -x - 1 := by
  show IntKind.i64.wrap ((BitVec.ofInt 64 (-1) ^^^ BitVec.ofInt 64 x).toNat : Int) = _
  have e : BitVec.ofInt 64 (-1) = BitVec.allOnes 64 := by decide
  rw [e, BitVec.allOnes_xor, BitVec.toNat_not, IntKind.wrap_i64]
  have := ofInt_toNat x
  have hl := (BitVec.ofInt 64 x).isLt
  unfold i64 at h
  omega
theorem unzigzag_any (z : Int) (w : World) (h : u64 z) :
    Calls Try.prog 61 #[.int .u64 z] w fun e w' => e = .returned (.int .i64 (unzig z)) ∧ w = w' := by
  obtain ⟨h0, h1⟩ := h
  by_cases hz : z % 2 = 1
  · have hx := xor_i64 (z / 2) (by unfold i64; omega)
    have hz1 : (z % 2 == 1) = true := by simpa using hz
    have HZ := Lib.hid hz
    clear hz
    go_enter Try.func61, Try.ntmps61
    go_wp2
    go_ret
    exact ⟨ret_int (by rw [unzig, if_pos HZ.out]), rfl⟩
  · have hz1 : (z % 2 == 1) = false := by simpa using hz
    have HZ := Lib.hid hz
    clear hz
    go_enter Try.func61, Try.ntmps61
    go_wp2
    go_ret
    exact ⟨ret_int (by rw [unzig, if_neg HZ.out]), rfl⟩
theorem r_int (p B : Nat) (s : RS) (w : World) (h : RdW w p B s) :
    Calls Try.prog 46 #[.pointer (some ⟨p, 0, none⟩)] w fun e w' => e = .returned (.int .i64 (rdI s).1) ∧ RdW w' p B (rdI s).2 ∧ w.grownBy w' (some p) := by
  have hu := (rdU_ok s h.ok).1
  go_enter Try.func46, Try.ntmps46
  go_wp2_with fail
  refine (r_uint p B s _ h).mono ?_
  rintro e w1 ⟨rfl, h1, hg1⟩
  go_wp2_with fail
  refine (unzigzag_any _ _ hu).mono ?_
  rintro e w1 ⟨rfl, rfl⟩
  go_wp2_with fail
  go_ret
  exact ⟨rfl, h1, hg1⟩

/-! ### Bool -/
theorem rdB_bad (s : RS) (h : s.er ≠ 0) : rdB s = (false, s) := by unfold rdB; rw [if_neg h]
theorem r_bool (p B : Nat) (s : RS) (w : World) (h : RdW w p B s) :
    Calls Try.prog 48 #[.pointer (some ⟨p, 0, none⟩)] w fun e w' => e = .returned (.bool (rdB s).1) ∧ RdW w' p B (rdB s).2 ∧ w.grownBy w' (some p) := by
  by_cases he : s.er = 0
  · obtain ⟨bs, er⟩ := s
    simp only at he
    subst he
    cases bs with
    | nil =>
      go_enter Try.func48, Try.ntmps48
      go_wp2_with fail
      refine (r_octet_nil p B _ h).mono ?_
      rintro e w1 ⟨rfl, h1, hg1⟩
      go_wp2_with fail
      go_ret
      exact ⟨rfl, h1, hg1⟩
    | cons b t =>
      by_cases hb : 1 < b
      · have hr : rdB ⟨b :: t, 0⟩ = (false, bad 2) := by simp [rdB, hb]
        rw [hr]
        clear hr
        have hbn : (b == 1) = false := by simp; omega
        go_enter Try.func48, Try.ntmps48
        go_wp2_with fail
        refine (r_octet_cons p B b t _ h).mono ?_
        rintro e w1 ⟨rfl, h1, hg1⟩
        obtain ⟨A, n, c, _, c1, _, f1, _, _, _⟩ := h1.cells
        have H1 := Lib.hid h1
        clear h1
        go_wp2_with fail
        go_ret
        exact ⟨rfl, H1.out.fail 2 (.inl rfl), grown_trans hg1 (grown_set _ _ _ _)⟩
      · have hr : rdB ⟨b :: t, 0⟩ = (b == 1, ⟨t, 0⟩) := by simp [rdB, hb]
        rw [hr]
        clear hr
        go_enter Try.func48, Try.ntmps48
        go_wp2_with fail
        refine (r_octet_cons p B b t _ h).mono ?_
        rintro e w1 ⟨rfl, h1, hg1⟩
        go_wp2_with fail
        go_ret
        exact ⟨rfl, h1, hg1⟩
  · rw [rdB_bad s he]
    go_enter Try.func48, Try.ntmps48
    go_wp2_with fail
    refine (r_octet_bad p B s _ h he).mono ?_
    rintro e w1 ⟨rfl, h1, hg1⟩
    go_wp2_with fail
    go_ret
    exact ⟨rfl, h1, hg1⟩

/-! ### End -/
theorem r_end (p B : Nat) (s : RS) (w : World) (h : RdW w p B s) (hl : s.bs.length ≤ 1000000) :
    Calls Try.prog 24 #[.pointer (some ⟨p, 0, none⟩)] w fun e w' => e = .returned (.int .i64 (endE s)) ∧ w = w' := by
  obtain ⟨A, n, c, c0, c1, _, _, h2, h3, h4⟩ := h.cells
  unfold maxLen at h3
  by_cases he : s.er = 0
  · have hn := h4 he
    by_cases hz : 0 < n
    · have hE : endE s = 2 := by unfold endE; rw [if_pos ⟨he, by omega⟩]
      rw [he] at c1
      rw [hE]
      have hne : (s.er == 0) = true := by simpa using he
      clear hE hn h4 he
      go_enter Try.func24, Try.ntmps24
      go_wp2
      go_ret
      exact ⟨rfl, rfl⟩
    · have hE : endE s = s.er := by unfold endE; rw [if_neg (by omega)]
      rw [hE]
      obtain rfl : n = 0 := by omega
      rw [he] at c1 ⊢
      clear hE hn h4 he
      go_enter Try.func24, Try.ntmps24
      go_wp2
      go_ret
      exact ⟨rfl, rfl⟩
  · have hE : endE s = s.er := by unfold endE; rw [if_neg (fun h => he h.1)]
    rw [hE]
    have hne : (s.er == 0) = false := by simpa using he
    clear hE h4 he
    go_enter Try.func24, Try.ntmps24
    go_wp2
    go_ret
    exact ⟨rfl, rfl⟩

/-! ### Read -/
theorem r_read (A : Option Addr) (n c : Nat) (zs : List Int) (w : World) (h : Sl .u8 w w.heap.size A n zs) (hA : A = none → c = 0) (hn : n ≤ 1000000) (hz : ∀ b ∈ zs, byteI b) :
    Calls Try.prog 20 #[.slice A n c] w fun e w' => ∃ p, e = .returned (.pointer (some ⟨p, 0, none⟩)) ∧ w.heap.size ≤ p ∧ RdW w' p w'.heap.size ⟨zs, 0⟩ ∧ Below w.heap.size w w' := by
  go_enter Try.func20, Try.ntmps20
  go_wp2_with fail
  refine (clone_any A n c zs _ h hA hn).mono ?_
  rintro e w1 ⟨v, rfl, hown, hb⟩
  obtain ⟨A1, c1, rfl, hnc, hcm, hA1, hsl⟩ := own_sl (k := .u8) hown
  have HS := Lib.hid hsl
  have HA := Lib.hid hA1
  clear hsl hown hA1
  go_wp2_with fail
  go_ret
  have hw2 : Below w1.heap.size w1 (w1.alloc (.cells #[.slice A1 n c1, .int .i64 0] 77)) := (Below.refl _ _).alloc (Nat.le_refl _) _
  exact ⟨_, rfl, hb.size, ⟨A1, n, c1, Blk2.new _ _ _ _, hnc, hcm, HA.out, fun _ => (HS.out.below hw2).more hw2.size, ⟨hz, fun h => absurd rfl h, .inl rfl⟩, Nat.le_refl _⟩, hb.trans (hw2.mono hb.size)⟩
end Go.Proofs.Ytjnjglkmabnlfaa
