/- The iterator over the words of a slice: its contract. -/
import Derived.RangeFuncNested
import Derived.RangeFuncBound
import Derived.RangeFuncCalls
import Derived.RangeFuncLeaves
import Derived.RangeFuncBox
import Derived.Shelf.Abstract
import Derived.OwnWalkIn
import Derived.TacticsInMore
import Derived.LoopNIn
import Derived.LoopIn
import Derived.Maps.AppendAt
import Derived.Test.YtgfhniiidejmoaaGreatDoorB03
namespace Go.Proofs.YtgfhniiidejmoaaGreatDoor
open Go.RowKit Go.Shelf
set_option linter.unusedVariables false
attribute [local go_sem] Oper.semAt_some

def lenV : Value → Nat
  | .slice _ n _ => n
  | _ => 0
theorem Sl.drop_none {k : IntKind} {w : World} {B : Nat} {A : Option Addr} (zs : List Int) (j : Nat) (h : zs.length ≤ j) : Sl k w B A 0 (zs.drop j) := by
  rw [List.drop_eq_nil_of_le h]; exact Sl.nil _ _ _ _
/-- behind the first m of them -/
theorem Sl.hcut {k : IntKind} {w : World} {B n : Nat} {b off : Nat} {zs : List Int} (h : Sl k w B (some ⟨b, off, none⟩) n zs) (m : Nat) (hm : m ≤ n) (hn : 0 < n) : Sl k w B (some ⟨b, off + m, none⟩) (n - m) (zs.drop m) := by
  refine ⟨by rw [List.length_drop, h.1], ?_⟩
  obtain ⟨b', off', hA, hlt, hc⟩ := h.at_ hn
  cases hA
  refine .inr ⟨b, off + m, rfl, hlt, fun j hj => ?_⟩
  rw [show off + m + j = off + (m + j) from by omega, hc (m + j) (by omega), List.getElem?_drop]
/-- what a round must keep: the block that the slice lies in -/
def KeepS (A : Option Addr) (n : Nat) (W W' : World) : Prop := W.heap.size ≤ W'.heap.size ∧ (0 < n → ∀ ad, A = some ad → W'.heap[ad.block]? = W.heap[ad.block]?)
theorem KeepS.refl (A : Option Addr) (n : Nat) (W : World) : KeepS A n W W := ⟨Nat.le_refl _, fun _ _ _ => rfl⟩
theorem keepS_t {A : Option Addr} {n : Nat} {a b c : World} (h : KeepS A n a b) (k : KeepS A n b c) : KeepS A n a c :=
  ⟨Nat.le_trans h.1 k.1, fun hn ad ha => (k.2 hn ad ha).trans (h.2 hn ad ha)⟩
theorem keepS_b {A : Option Addr} {n : Nat} {w : World} (hA : 0 < n → ∀ ad, A = some ad → ad.block < w.heap.size) (W : World) (l : Nat) (o o' : Obj) (hl : w.heap.size ≤ l) (h : W.heap[l]? = some o) (h1 : o.isCells = false) (h2 : o.isWalk = false) : KeepS A n W (W.putObj l o') := by
  have hb := belowK_b (w := w) (Nat.le_refl _) W l o o' hl h h1 h2
  exact ⟨hb.size, fun hn ad ha => hb.block _ (hA hn ad ha)⟩
theorem Sl.keepS {k : IntKind} {w w' : World} {B n m : Nat} {A A0 : Option Addr} {zs : List Int} (h : Sl k w B A n zs) (hk : KeepS A0 m w w') (hm : n ≤ m) (hA : 0 < n → ∀ ad, A = some ad → ∃ ad0, A0 = some ad0 ∧ ad0.block = ad.block) : Sl k w' B A n zs := by
  refine ⟨h.1, ?_⟩
  rcases h.2 with h0 | ⟨b, off, rfl, hlt, hc⟩
  · exact .inl h0
  · by_cases hn : n = 0
    · exact .inl hn
    · refine .inr ⟨b, off, rfl, hlt, fun j hj => ?_⟩
      obtain ⟨ad0, h1, h2⟩ := hA (by omega) _ rfl
      have h3 := hk.2 (by omega) ad0 h1
      rw [h2] at h3
      exact (World.cell?_of_block (a := ⟨b, off + j, none⟩) h3).trans (hc j hj)
theorem wordAt_eq (zs : List Int) (i : Nat) (h : 8 * i ≤ zs.length) : wordAt zs i = leI ((zs.drop (8 * i)).take 8) := by
  unfold wordAt seg
  by_cases h8 : 8 * i + 8 ≤ zs.length
  · rw [Nat.min_eq_left h8, show 8 * i + 8 - 8 * i = 8 from by omega]
  · rw [Nat.min_eq_right (by omega), List.take_of_length_le (by simp), List.take_of_length_le (by simp; omega)]

set_option maxRecDepth 100000 in
set_option maxHeartbeats 2000000 in
theorem words1_in (n : Nat) (hn : 1 ≤ n) (l Bs len cap : Nat) (A : Option Addr) (zs : List Int) (hlen : len ≤ 1000000) (hcap : len ≤ cap) (hz : ∀ b ∈ zs, byteI b) (J Jx : List Int → World → Prop)
    (hY : ∀ pre x W, J pre W → pre.length < (len + 7) / 8 → YieldAt Fence.wide (n - 1) Tryz.prog l #[.int .u64 x] W fun e W' =>
      (e = .returned (.bool true) ∧ J (pre ++ [x]) W' ∧ KeepS A len W W') ∨ (e = .returned (.bool false) ∧ Jx (pre ++ [x]) W'))
    (W : World) (hBs : W.cell? ⟨Bs, 0, none⟩ = some (.slice A len cap)) (hS : Sl .u8 W W.heap.size A len zs) (h0 : J [] W) :
    CallsIn Fence.wide n Tryz.prog 122 #[.func (.yield l) #[] #[], .pointer (some ⟨Bs, 0, none⟩)] W fun e W' => (∃ v, e = .returned v) ∧
      ((∃ ys, ys = wordsI zs ∧ J ys W') ∨ (∃ pre, (∃ k, k ≤ (len + 7) / 8 ∧ pre = wordsUpto zs k) ∧ Jx pre W')) := by
  have HL := Lib.hid hS.len
  have HS := Lib.hid hS
  have HZ := Lib.hid hz
  clear hz hS
  refine callsIn_of_wp Tryz.func122 rfl trivial ?_ rfl
  simp only [Tryz.ntmps122, List.size_toArray, List.length_cons, List.length_nil, Nat.reduceAdd, Nat.reduceSub, Array.replicate_succ, Array.replicate_zero, List.push_toArray, List.append_toArray, List.nil_append, List.cons_append]
  gi_wp2
  gi_loopw [3] (fun r wr => ∃ (k n' c' : Nat) (A' : Option Addr), r = .slice A' n' c' ∧ 8 * k < len + 8 ∧ n' = len - 8 * k ∧ n' ≤ c' ∧ Sl .u8 wr wr.heap.size A' n' (zs.drop (8 * k)) ∧ J (wordsUpto zs k) wr ∧ (0 < n' → ∀ ad, A' = some ad → ∃ ad0, A = some ad0 ∧ ad0.block = ad.block)) (fun r _ => lenV r)
  case atStart => exact ⟨0, len, cap, A, rfl, by omega, by omega, hcap, by simpa using HS.out, by simpa [wordsUpto] using h0, fun _ ad h => ⟨ad, h, rfl⟩⟩
  case round =>
    obtain ⟨k, n', c', A', rfl, hk, hn', hc', hsl, hJ, hadr⟩ := hrel
    have HN := Lib.hid hn'
    have hle : n' ≤ 1000000 := by omega
    have HSL := Lib.hid hsl
    by_cases hlt : 0 < n'
    · obtain ⟨fn, tmps, assign, body, hy, hR⟩ := hY _ (wordAt zs k) wr hJ (by rw [wordsUpto_len]; omega)
      have hfw := first_any A' n' c' (zs.drop (8 * k)) wr hle hc' hsl (fun b hb => HZ.out b (List.mem_of_mem_drop hb))
      rw [← wordAt_eq zs k (by rw [HL.out]; omega)] at hfw
      have HFW := Lib.hid hfw
      clear hfw hsl hn'
      obtain ⟨b, off, rfl, hb, _⟩ := HSL.out.at_ hlt
      gi_wp2_with (refine ⟨trivial, ?_⟩; gi_at_call 123; refine (callsIn_wide.2 HFW.out).mono ?_; rintro e w' ⟨rfl, rfl⟩)
      refine hR.mono ?_
      rintro e W3 (⟨rfl, hJ3, hk3⟩ | ⟨rfl, hJx3⟩)
      · have HJ3 := Lib.hid hJ3
        have HSL3 := Lib.hid ((HSL.out.keepS hk3 (by have := HN.out; omega) hadr).more hk3.1)
        obtain ⟨ad0, hA0, hA1⟩ := hadr hlt _ rfl
        have HA0 := Lib.hid hA0
        have HA1 := Lib.hid hA1
        have hc3 := hc'
        clear hJ3 hJ hR hA0 hA1 hadr
        by_cases h8 : n' < 8
        · gi_wp2
          exact ⟨⟨k + 1, 0, _, _, rfl, by have := HN.out; omega, by have := HN.out; omega, Nat.zero_le _, Sl.drop_none zs _ (by have := HN.out; rw [HL.out]; omega), by rw [wordsUpto_succ]; exact HJ3.out, fun h => absurd h (by omega)⟩, by simp [lenV]; omega⟩
        · gi_wp2
          refine ⟨⟨k + 1, n' - 8, c' - 8, _, rfl, by have := HN.out; omega, by have := HN.out; omega, by omega, ?_, by rw [wordsUpto_succ]; exact HJ3.out, fun _ ad h => ⟨ad0, HA0.out, ?_⟩⟩, by simp [lenV]; omega⟩
          rotate_left
          · rw [HA1.out]; split at h <;> (cases h; rfl)
          have hcut := HSL3.out.hcut 8 (by omega) hlt
          rw [List.drop_drop, show 8 * k + 8 = 8 * (k + 1) from by omega] at hcut
          by_cases hcc : c' = 8
          · exact ⟨hcut.1, .inl (by omega)⟩
          · rw [if_neg hcc]; exact hcut
      · gi_wp2
        refine bodyPost_ret (results_none rfl _ _ _) rfl ?_
        exact ⟨⟨_, rfl⟩, .inr ⟨_, ⟨k + 1, by have := HN.out; omega, (wordsUpto_succ _ _).symm⟩, hJx3⟩⟩
    · obtain rfl : n' = 0 := by omega
      clear hsl hn'
      gi_wp2
      go_end0
      refine ⟨⟨_, rfl⟩, .inl ⟨_, ?_, hJ⟩⟩
      rw [wordsI, HL.out, show k = (len + 7) / 8 from by have := HN.out; omega]

set_option maxHeartbeats 400000 in
theorem wordsOf_in (n : Nat) (A : Option Addr) (len cap : Nat) (w : World) :
    CallsIn Fence.wide n Tryz.prog 114 #[.slice A len cap] w fun e w' => e = .returned (.func (.func 122) #[] #[.pointer (some ⟨w.heap.size, 0, none⟩)]) ∧ w' = w.alloc (.cells #[.slice A len cap] 72) := by
  refine callsIn_of_wp Tryz.func114 rfl trivial ?_ rfl
  simp only [Tryz.ntmps114, List.size_toArray, List.length_cons, List.length_nil, Nat.reduceAdd, Nat.reduceSub, Array.replicate_succ, Array.replicate_zero, List.push_toArray, List.append_toArray, List.nil_append, List.cons_append]
  gi_wp2
  go_ret
  exact ⟨rfl, rfl⟩

theorem words_stops (n : Nat) (hn : 1 ≤ n) (Bs len cap : Nat) (A : Option Addr) (zs : List Int) (hlen : len ≤ 1000000) (hcap : len ≤ cap) (hz : ∀ b ∈ zs, byteI b) (w : World) (hBs : Bs < w.heap.size)
    (hc : w.cell? ⟨Bs, 0, none⟩ = some (.slice A len cap)) (hS : Sl .u8 w w.heap.size A len zs) :
    SeqStopsK Fence.wide n Tryz.prog 122 #[.pointer (some ⟨Bs, 0, none⟩)] (fun x : Int => #[Value.int .u64 x]) (KeepS A len) (fun ys => ys = wordsI zs) (fun pre => ∃ k, k ≤ (len + 7) / 8 ∧ pre = wordsUpto zs k) ((len + 7) / 8) w := fun l J Jx W hW _ _ hY h0 =>
  words1_in n hn l Bs len cap A zs hlen hcap hz J Jx hY W ((hW.cell (p := ⟨Bs, 0, none⟩) hBs).trans hc) ((hS.below hW).more hW.size) h0
end Go.Proofs.YtgfhniiidejmoaaGreatDoor
