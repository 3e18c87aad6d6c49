/- Contracts of package wide's numbers: the closures, at, trimmed. -/
import Derived.Test.YtpilpceclmppgaaDoorRefB
import Derived.Test.YtpilpceclmppgaaDoorBlk
import Derived.Test.YtpilpceclmppgaaDoorRowW
import Derived.Test.YtpilpceclmppgaaDoorNums
namespace Go.Proofs.YtpilpceclmppgaaDoor
open Go.RowKit
set_option linter.unusedVariables false

def slLenU : Value → Nat
  | .slice _ k _ => k
  | _ => 0
/-- block g is one cell -/
def Box1 (w : World) (g : Nat) (t : TypeId) (v : Value) : Prop := w.heap[g]? = some (.cells #[v] t (0, 0))
theorem Box1.c0 {w : World} {g : Nat} {t : TypeId} {v : Value} (h : Box1 w g t v) : w.cell? ⟨g, 0, none⟩ = some v := cell_of_one h
theorem Box1.f0 {w : World} {g : Nat} {t : TypeId} {v : Value} (h : Box1 w g t v) : w.frozen? ⟨g, 0, none⟩ = false := free_of_one h
theorem Box1.lt {w : World} {g : Nat} {t : TypeId} {v : Value} (h : Box1 w g t v) : g < w.heap.size := lt_of_block h
theorem Box1.new (w : World) (t : TypeId) (v : Value) : Box1 (w.alloc (.cells #[v] t)) w.heap.size t v := heap_alloc_new w _
theorem Box1.below {w w' : World} {g B : Nat} {t : TypeId} {v : Value} (h : Box1 w g t v) (hb : Below B w w') (hg : g < B) : Box1 w' g t v := (hb.block g hg).trans h
theorem Box1.set_ {w : World} {g : Nat} {t : TypeId} {v : Value} (h : Box1 w g t v) (u : Value) : Box1 (w.setCell ⟨g, 0, none⟩ u) g t u := one_setCell h
theorem Box1.far {w : World} {g : Nat} {t : TypeId} {v : Value} (h : Box1 w g t v) {p : Addr} (hp : g ≠ p.block) (u : Value) : Box1 (w.setCell p u) g t v := (Below.heap_setCell w p u g hp).trans h
theorem Box1.drewN {w : World} {g : Nat} {t : TypeId} {v : Value} (h : Box1 w g t v) (q : Nat) : Box1 (w.drewN q) g t v := h

theorem carry_any (g : Nat) (s c : Int) (w : World) (h : Box1 w g 83 (.int .u64 c)) (h0 : 0 ≤ s) (h1 : 0 ≤ c) (h2 : s + c ≤ 18446744073709551615) :
    Calls Tryd.prog 96 #[.int .u64 s, .pointer (some ⟨g, 0, none⟩)] w fun e w' => e = .returned (.int .u32 ((s + c) % 4294967296)) ∧ w' = w.setCell ⟨g, 0, none⟩ (.int .u64 ((s + c) / 4294967296)) := by
  have c0 := h.c0
  have f0 := h.f0
  clear h
  go_enter Tryd.func96, Tryd.ntmps96
  go_wp2_with fail
  go_ret
  exact ⟨rfl, rfl⟩
/-- what is borrowed from the next place -/
def borI (d l b : Int) : Int := if d - l - b < 0 then 1 else 0
theorem bor_wrap {d l b : Int} (h0 : 0 ≤ d ∧ d ≤ 4294967295) (h1 : 0 ≤ l ∧ l ≤ 4294967295) (h2 : 0 ≤ b ∧ b ≤ 1) :
    IntKind.u64.wrap (IntKind.u64.wrap (d - l) - b) % 4294967296 = (d - l - b) % 4294967296 ∧ IntKind.u64.wrap (IntKind.u64.wrap (d - l) - b) / 9223372036854775808 = borI d l b := by
  rw [IntKind.wrap_u64, IntKind.wrap_u64]
  unfold borI
  split <;> omega
theorem borrow_any (g : Nat) (d l b : Int) (w : World) (h : Box1 w g 83 (.int .u64 b)) (h0 : 0 ≤ d ∧ d ≤ 4294967295) (h1 : 0 ≤ l ∧ l ≤ 4294967295) (h2 : 0 ≤ b ∧ b ≤ 1) :
    Calls Tryd.prog 97 #[.int .u32 d, .int .u32 l, .pointer (some ⟨g, 0, none⟩)] w fun e w' => e = .returned (.int .u32 ((d - l - b) % 4294967296)) ∧ w' = w.setCell ⟨g, 0, none⟩ (.int .u64 (borI d l b)) := by
  have c0 := h.c0
  have f0 := h.f0
  clear h
  obtain ⟨d0, d1⟩ := h0
  obtain ⟨l0, l1⟩ := h1
  obtain ⟨b0, b1⟩ := h2
  have HW := Lib.hid (bor_wrap ⟨d0, d1⟩ ⟨l0, l1⟩ ⟨b0, b1⟩)
  go_enter Tryd.func97, Tryd.ntmps97
  go_wp2_with fail
  go_ret
  exact ⟨ret_int HW.out.1, by rw [HW.out.2]⟩
theorem nat_at (A : Option Addr) (n c i : Nat) (zs : List Int) (w : World) (h : Sl .u32 w w.heap.size A n zs) (hd : Dig 4294967296 zs) (hn : n ≤ 1000000) (hi : i ≤ 2000000) :
    Calls Tryd.prog 73 #[.slice A n c, .int .i64 i] w fun e w' => e = .returned (.int .u64 (zs[i]?.getD 0)) ∧ w = w' := by
  have hl := h.len
  by_cases hlt : i < n
  · obtain ⟨bl, off, rfl, hbl, hcl⟩ := h.at_ (by omega)
    have hcell := hcl i hlt
    have hb := hd.get (by omega) i
    obtain ⟨x, hx⟩ : ∃ x, x = zs[i]?.getD 0 := ⟨_, rfl⟩
    rw [← hx] at hcell hb ⊢
    obtain ⟨hb0, hb1⟩ := hb
    clear hcl h hl hx
    go_enter Tryd.func73, Tryd.ntmps73
    go_wp2
    go_ret
    exact ⟨rfl, rfl⟩
  · have e : zs[i]?.getD 0 = 0 := by rw [List.getElem?_eq_none (by omega)]; rfl
    rw [e]
    clear h hl e
    go_enter Tryd.func73, Tryd.ntmps73
    go_wp2
    go_ret
    exact ⟨rfl, rfl⟩

/-- a number of package wide: its digits to the base 2^32 -/
def NatR (w : World) (B : Nat) (x : Int) (A : Option Addr) (n c : Nat) (zs : List Int) : Prop := Sl .u32 w B A n zs ∧ n ≤ c ∧ c ≤ maxLen ∧ (A = none → c = 0) ∧ Dig 4294967296 zs ∧ Top zs ∧ dv 4294967296 zs = x
theorem NatR.below {w w' : World} {B : Nat} {x : Int} {A : Option Addr} {n c : Nat} {zs : List Int} (h : NatR w B x A n c zs) (hb : Below B w w') : NatR w' B x A n c zs := ⟨h.1.below hb, h.2⟩
theorem NatR.more {w : World} {B B' : Nat} {x : Int} {A : Option Addr} {n c : Nat} {zs : List Int} (h : NatR w B x A n c zs) (hb : B ≤ B') : NatR w B' x A n c zs := ⟨h.1.more hb, h.2⟩
/-- what trimmed returns -/
def TrimPost (B : Nat) (A : Option Addr) (c : Nat) (zs : List Int) (w : World) (e : Ending) (w' : World) : Prop := ∃ k, e = .returned (.slice A k c) ∧ k ≤ zs.length ∧ NatR w B (dv 4294967296 zs) A k c (zs.take k) ∧ w = w'
set_option maxHeartbeats 1000000 in
theorem trimmed_any (A : Option Addr) (n c B : Nat) (zs : List Int) (w : World) (h : Sl .u32 w B A n zs) (hn : n ≤ c) (hc : c ≤ maxLen) (hA : A = none → c = 0) (hd : Dig 4294967296 zs) :
    Calls Tryd.prog 71 #[.slice A n c] w (TrimPost B A c zs w) := by
  have hc' := hc
  unfold maxLen at hc'
  have HL := Lib.hid h.len
  have HS := Lib.hid h
  have HD := Lib.hid hd
  have HA := Lib.hid hA
  have HC := Lib.hid hc
  have HF := Lib.hid (fun (k : Nat) (hk : k ≤ n) (ht : Top (zs.take k)) (hv : dv 4294967296 (zs.take k) = dv 4294967296 zs) => show TrimPost B A c zs w (.returned (.slice A k c)) w from ⟨k, rfl, by rw [h.len]; exact hk, ⟨h.take k hk, by omega, hc, hA, hd.take k, ht, hv⟩, rfl⟩)
  clear h hA hd hc
  go_enter Tryd.func71, Tryd.ntmps71
  go_wp2_with fail
  go_loop [0] (fun d => ∃ k : Nat, k ≤ n ∧ d = .slice A k c ∧ Hid (dv 4294967296 (zs.take k) = dv 4294967296 zs)) (fun d => slLenU d)
  case atStart => exact ⟨n, Nat.le_refl _, rfl, by rw [List.take_of_length_le (by rw [HL.out]; omega)]; exact rfl⟩
  case round =>
    obtain ⟨k, hk, rfl, HV⟩ := hrel
    rcases Nat.eq_zero_or_pos k with rfl | hk0
    · have HR := Lib.hid (HF.out 0 (by omega) (by simp [Top]) HV.out)
      go_wp2_with fail
      go_ret
      exact HR.out
    · obtain ⟨k, rfl⟩ : ∃ j, k = j + 1 := ⟨k - 1, by omega⟩
      obtain ⟨bl, off, rfl, hbl, hcl⟩ := HS.out.at_ (by omega)
      have hcell := hcl k (by omega)
      obtain ⟨x, hx⟩ : ∃ x, x = zs[k]?.getD 0 := ⟨_, rfl⟩
      rw [← hx] at hcell
      have HX := Lib.hid hx
      clear hcl hx
      by_cases hx0 : x = 0
      · subst hx0
        have HV2 := Lib.hid (show dv 4294967296 (zs.take k) = dv 4294967296 zs by rw [← strip_step 4294967296 zs k HX.out.symm]; exact HV)
        go_wp2_with fail
        first
          | (go_round
             case rel => exact ⟨k, by omega, rfl, HV2.out⟩
             case measure => simp [slLenU])
          | exact ⟨⟨k, by omega, rfl, HV2.out⟩, by simp [slLenU]⟩
      · have hxf : (x == 0) = false := by simpa using hx0
        have HT := Lib.hid (show Top (zs.take (k + 1)) by
          unfold Top
          rw [List.getLast?_eq_getElem?, List.length_take, HL.out, Nat.min_eq_left hk, List.getElem?_take]
          rw [if_pos (by omega), show k + 1 - 1 = k by omega]
          intro e
          have := HX.out
          rw [e] at this
          exact hx0 this)
        have HR := Lib.hid (HF.out (k + 1) hk HT.out HV.out)
        go_wp2_with fail
        go_ret
        exact HR.out
end Go.Proofs.YtpilpceclmppgaaDoor
