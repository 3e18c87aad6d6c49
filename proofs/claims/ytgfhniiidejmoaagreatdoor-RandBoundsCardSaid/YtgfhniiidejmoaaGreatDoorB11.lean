/- The contracts of hash.Sum, hash.Bytes. · Words of streams: rand.Word, rand.Split and the reference's. · The words of a stream by an iterator; the test of Below; taking words until one fits. -/
import Derived.Test.YtgfhniiidejmoaaGreatDoorB04
import Derived.Test.YtgfhniiidejmoaaGreatDoorB05
import Derived.Test.YtgfhniiidejmoaaGreatDoorB01
import Derived.Test.YtgfhniiidejmoaaGreatDoorB06
import Derived.Test.YtgfhniiidejmoaaGreatDoorB03
import Derived.Test.YtgfhniiidejmoaaGreatDoorB08
import Derived.Test.YtgfhniiidejmoaaGreatDoorB09
import Derived.Test.YtgfhniiidejmoaaGreatDoorB10
namespace Go.Proofs.YtgfhniiidejmoaaGreatDoor
open Go.RowKit Go.Shelf
set_option linter.unusedVariables false
attribute [local go_sem] Oper.semAt_some

set_option maxRecDepth 100000 in
set_option maxHeartbeats 2000000 in
theorem hash_sum (s : ByteArray) (B : Option Addr) (m d : Nat) (ws : List Int) (w : World) (hs : s.size ≤ 1000000) (hm : m ≤ 1000000) (h : Sl .i64 w w.heap.size B m ws) :
    Calls Tryz.prog 104 #[.string s, .slice B m d] w fun e w' => e = .returned (.int .u64 (sumI (sB s) ws)) ∧ Below w.heap.size w w' := by
  have HL := Lib.hid h.len
  have HS := Lib.hid h
  clear h
  obtain ⟨w0, hw0⟩ : ∃ w0, w0 = w.alloc (.cells #[.int .u64 0] 22) := ⟨_, rfl⟩
  obtain ⟨cap, w1, hconv, hb1, hsz1, hsl1, hcap1, hcap2⟩ := conv_bytes (P := Tryz.prog) w0 9 72 5 s (by unfold maxLen; omega) Tryz.underlying9 Tryz.underlying72 Tryz.underlying5
  subst hw0
  refine (callsIn_wide (n := 8)).1 ?_
  refine callsIn_of_wp_marks Tryz.func104 rfl trivial ?_ rfl
  simp only [Tryz.ntmps104, List.size_toArray, List.length_cons, List.length_nil, Nat.reduceAdd, Nat.reduceSub, Array.replicate_succ, Array.replicate_zero, List.push_toArray, List.append_toArray, List.nil_append, List.cons_append]
  gi_wp2_with (refine ⟨trivial, ?_⟩; gi_at_call 114; refine (wordsOf_in 7 _ _ _ _).mono ?_; rintro e w' ⟨rfl, rfl⟩)
  have hsw : w.heap.size + 1 < w1.heap.size := by simpa using hsz1
  have hB01 : Below w.heap.size w w1 := ((Below.refl _ w).alloc (Nat.le_refl _) _).trans (hb1.mono (by simp))
  have hB0 : Below w.heap.size w (w1.alloc (.cells #[.slice (some ⟨w.heap.size + 1, 0, none⟩) s.size cap] 72)) := hB01.alloc hB01.size _
  have bS0 : Boxed w1 w.heap.size 22 (.int .u64 0) := (hb1.block w.heap.size (by simp)).trans (Boxed.new w 22 (.int .u64 0))
  have bN := Boxed.new w1 72 (.slice (some ⟨w.heap.size + 1, 0, none⟩) s.size cap)
  have hsl : Sl .u8 w1 w1.heap.size (some ⟨w.heap.size + 1, 0, none⟩) s.size (sB s) := by simpa using hsl1
  have hslA : Sl .u8 (w1.alloc (.cells #[.slice (some ⟨w.heap.size + 1, 0, none⟩) s.size cap] 72)) w1.heap.size (some ⟨w.heap.size + 1, 0, none⟩) s.size (sB s) := hsl.below ((Below.refl _ w1).alloc (Nat.le_refl _) _)
  refine wpIn_rangeFunc_ownG rfl (by omega) (gf := 122) (lb := #[.pointer (some ⟨w1.heap.size, 0, none⟩)]) rfl trivial (enters_of Tryz.func122 (by kernel_rfl) rfl)
    (words_stops 7 (by omega) w1.heap.size s.size cap (some ⟨w.heap.size + 1, 0, none⟩) (sB s) hs hcap1 (sB_byte s) _ (by simp) bN.cell (hslA.more (by simp))) keepS_t (keepS_b (by intro _ ad h; cases h; simp; omega)) (Below.refl _ _) (fun _ => rfl)
    (fun pre W => Boxed W w.heap.size 22 (.int .u64 (foldM 0 pre)) ∧ Below w.heap.size w W)
    (fun _ _ _ => False)
    (OwnFrom.and (Own.from (boxed_own _ _ (fun pre => .int .u64 (foldM 0 pre))) _) (ownFrom_below (Nat.le_refl _) (by simp; omega)))
    (fun _ _ _ _ _ hs _ _ => hs)
    ⟨bS0.alloc _, hB0⟩
    (fun x => { tmps := #[.string s, .slice B m d, undef, undef, .int .u64 0, .pointer (some ⟨w.heap.size, 0, none⟩), .int .u64 x, undef, undef, .string s, .slice (some ⟨w.heap.size + 1, 0, none⟩) s.size cap, .func (.func 122) #[] #[.pointer (some ⟨w1.heap.size, 0, none⟩)], .int .u64 x, undef, undef, undef, undef, undef, undef, undef, undef, undef, undef, undef, undef, undef, undef, undef, undef, undef, undef, undef, undef, undef, undef, undef, undef, undef, undef], defers := [] }) ?assign ?body ?done ?stop
  case assign =>
    intro l x W K hK
    gi_wp2
    exact hK
  case body =>
    rintro l pre x W ⟨hbx, hB⟩ _
    have hc := hbx.cell
    have hf := hbx.frozen
    gi_wp2_with (refine ⟨trivial, ?_⟩; gi_at_call 115; refine (CallsIn.inRound l (callsIn_wide.2 (hash_mix _ _ _))).mono ?_; rintro e w' ⟨rfl, rfl⟩)
    refine ⟨(KeepsOthers.setCell _ _ _).from _, ⟨by simp, fun _ ad h => ?_⟩, ?_, hB.setCell (p := ⟨w.heap.size, 0, none⟩) (Nat.le_refl _) _⟩
    · cases h
      exact Below.heap_setCell _ _ _ _ (by simp)
    · rw [foldM_snoc]; exact hbx.set _
  case done =>
    rintro D ys W hD rfl ⟨hbx, hB⟩ hK
    have hc := hbx.cell
    have hf := hbx.frozen
    clear hslA hsl bN bS0 hB0 hsl1 hconv hb1
    gi_wp2_with (refine ⟨trivial, ?_⟩; gi_at_call 115; refine (callsIn_wide.2 (hash_mix _ _ _)).mono ?_; rintro e w' ⟨rfl, rfl⟩)
    have hDw : w.heap.size < D := by simp at hD; omega
    obtain ⟨S2, hS2⟩ : ∃ S2, S2 = mixI (mixI (foldM 0 (wordsI (sB s))) ↑s.size) ↑m := ⟨_, rfl⟩
    have HS2 := Lib.hid hS2
    clear hc hf
    gi_loopw [28] (fun i wr => ∃ k : Nat, k ≤ m ∧ i = .int .i64 k ∧ Boxed wr w.heap.size 22 (.int .u64 (foldM S2 ((ws.take k).map toU))) ∧ Below w.heap.size w wr ∧ wr.heap[D]? = some (.deferred (some []))) (fun i _ => m - (intOf i).toNat)
    case atStart =>
      refine ⟨0, Nat.zero_le _, rfl, ?_, (hB.setCell (p := ⟨w.heap.size, 0, none⟩) (Nat.le_refl _) _).setCell (p := ⟨w.heap.size, 0, none⟩) (Nat.le_refl _) _, (KeepsOthers.setCell _ _ _).same D _ ((KeepsOthers.setCell _ _ _).same D _ hK rfl) rfl⟩
      have := (hbx.set (.int .u64 (mixI (foldM 0 (wordsI (sB s))) ↑s.size))).set (.int .u64 S2)
      rw [hS2] at this ⊢
      exact this
    case round =>
      obtain ⟨k, hk, rfl, hbx2, hB2, hK2⟩ := hrel
      have hc := hbx2.cell
      have hf := hbx2.frozen
      have HBX := Lib.hid hbx2
      have HKK := Lib.hid hK2
      clear hS2 hK hK2 hbx2
      by_cases hlt : k < m
      · obtain ⟨b, off, rfl, hb, hcl⟩ := HS.out.at_ (by omega)
        have hcell := (hB2.cell (p := ⟨b, off + k, none⟩) hb).trans (hcl k hlt)
        have HT := Lib.hid (take_snoc_map toU ws k (by rw [HL.out]; exact hlt))
        clear hcl
        gi_wp2_with (refine ⟨trivial, ?_⟩; gi_at_call 115; refine (callsIn_wide.2 (hash_mix _ _ _)).mono ?_; rintro e w' ⟨rfl, rfl⟩)
        go_roundw
        case rel =>
          refine ⟨k + 1, by omega, by go_num, ?_, hB2.setCell (p := ⟨w.heap.size, 0, none⟩) (Nat.le_refl _) _, (KeepsOthers.setCell _ _ _).same D _ HKK.out rfl⟩
          rw [HT.out, foldM_snoc, toU_def, List.map_take]
          exact HBX.out.set _
        case measure => simp [intOf]; omega
      · obtain rfl : m = k := by omega
        gi_wp2_with (refine ⟨trivial, ?_⟩; gi_at_call 115; refine (callsIn_wide.2 (hash_mix _ _ _)).mono ?_; rintro e w' ⟨rfl, rfl⟩)
        refine ⟨by simp, .inl ⟨_, _, rfl, run_takeDeferred HKK.out, ?_⟩⟩
        have hres : mixI (foldM S2 (List.take m (List.map toU ws))) 0 = sumI (sB s) ws := by
          rw [List.take_of_length_le (by simp [HL.out]), HS2.out, sumI, sB_len, HL.out]
        exact ⟨_, results_tmp (t := 4) rfl _ _ _, ret_int hres, hB2.trans (belowK_b (w := w) (Nat.le_refl _) wr D _ _ (by omega) HKK.out rfl rfl)⟩
  case stop =>
    rintro D c pre W _ _ h _
    exact h.elim

/-! ### Bytes -/
end Go.Proofs.YtgfhniiidejmoaaGreatDoor
namespace Go.Proofs.YtgfhniiidejmoaaGreatDoor
open Go.RowKit
set_option linter.unusedVariables false

/-- the word at an index -/
def wordI (lab : List Int) (seed i : Int) : Int := sumI lab [wrap64 seed, i]
theorem sumI_u64 (lab ws : List Int) : u64 (sumI lab ws) := mixI_u64 _ _
theorem wordI_u64 (lab : List Int) (seed i : Int) : 0 ≤ wordI lab seed i ∧ wordI lab seed i ≤ 18446744073709551615 := sumI_u64 _ _

set_option maxHeartbeats 400000 in
theorem sword_any (seed i : Int) (s : ByteArray) (w : World) (hs : s.size ≤ 1000000) :
    Calls Tryz.prog 84 #[.int .u64 seed, .string s, .int .i64 i] w fun e w' => e = .returned (.int .u64 (wordI (sB s) seed i)) ∧ Below w.heap.size w w' := by
  go_enter Tryz.func84, Tryz.ntmps84
  go_wp2_with fail
  refine (hash_sum _ _ 2 2 [wrap64 seed, i] _ hs (by omega) (two_cells .i64 w _ (wrap64 seed) i)).mono ?_
  rintro e w4 ⟨rfl, hb4⟩
  go_wp2
  go_ret
  exact ⟨rfl, ((Below.refl _ w).alloc (Nat.le_refl _) _).trans (hb4.mono (by simp))⟩

end Go.Proofs.YtgfhniiidejmoaaGreatDoor
namespace Go.Proofs.YtgfhniiidejmoaaGreatDoor
open Go.RowKit Go.Shelf
set_option linter.unusedVariables false
attribute [local go_sem] Oper.semAt_some

set_option maxHeartbeats 400000 in
theorem words_in (n : Nat) (seed i : Int) (s : ByteArray) (w : World) :
    CallsIn Fence.wide n Tryz.prog 69 #[.int .u64 seed, .string s, .int .i64 i] w fun e w' => e = .returned (.func (.func 90) #[] #[.pointer (some ⟨w.heap.size + 1 + 1, 0, none⟩), .pointer (some ⟨w.heap.size, 0, none⟩), .pointer (some ⟨w.heap.size + 1, 0, none⟩)]) ∧
      w' = ((w.alloc (.cells #[.int .u64 seed] 22)).alloc (.cells #[.string s] 9)).alloc (.cells #[.int .i64 i] 3) := by
  refine callsIn_of_wp Tryz.func69 rfl trivial ?_ rfl
  simp only [Tryz.ntmps69, List.size_toArray, List.length_cons, List.length_nil, Nat.reduceAdd, Nat.reduceSub, Array.replicate_succ, Array.replicate_zero, List.push_toArray, List.append_toArray, List.nil_append, List.cons_append]
  gi_wp2
  go_ret
  exact ⟨rfl, rfl⟩

theorem rwords_any (seed i : Int) (s : ByteArray) (w : World) :
    Calls Tryz.prog 69 #[.int .u64 seed, .string s, .int .i64 i] w fun e w' => e = .returned (.func (.func 90) #[] #[.pointer (some ⟨w.heap.size + 1 + 1, 0, none⟩), .pointer (some ⟨w.heap.size, 0, none⟩), .pointer (some ⟨w.heap.size + 1, 0, none⟩)]) ∧
      w' = ((w.alloc (.cells #[.int .u64 seed] 22)).alloc (.cells #[.string s] 9)).alloc (.cells #[.int .i64 i] 3) := callsIn_wide.1 (words_in 0 seed i s w)
/-- a value of the iterator over words: word and next index -/
def encW (lab : List Int) (seed i : Int) (j : Nat) : Array Value := #[.int .u64 (wordI lab seed (i + j)), .int .i64 (i + j + 1)]

set_option maxRecDepth 100000 in
set_option maxHeartbeats 2000000 in
theorem words1_on (n : Nat) (hn : 1 ≤ n) (seed i : Int) (s : ByteArray) (hs : s.size ≤ 1000000) (hi0 : 0 ≤ i) (hi1 : i ≤ 1000000000) (b1 b2 b3 : Nat) (w : World) (l1 : b1 < w.heap.size) (l2 : b2 < w.heap.size) (l3 : b3 < w.heap.size)
    (c1 : w.cell? ⟨b1, 0, none⟩ = some (.int .i64 i)) (c2 : w.cell? ⟨b2, 0, none⟩ = some (.int .u64 seed)) (c3 : w.cell? ⟨b3, 0, none⟩ = some (.string s)) :
    SeqOn Fence.wide n Tryz.prog 90 #[.pointer (some ⟨b1, 0, none⟩), .pointer (some ⟨b2, 0, none⟩), .pointer (some ⟨b3, 0, none⟩)] (encW (sB s) seed i) (fun k x _ => x = k) (Below w.heap.size) 64 w := by
  intro l J Jx A hA hJb hJN hY h0
  have d1 := (hA.cell (p := ⟨b1, 0, none⟩) l1).trans c1
  have HC2 := Lib.hid c2
  have HC3 := Lib.hid c3
  clear c1 c2 c3
  refine callsIn_of_wp Tryz.func90 rfl trivial ?_ rfl
  simp only [Tryz.ntmps90, List.size_toArray, List.length_cons, List.length_nil, Nat.reduceAdd, Nat.reduceSub, Array.replicate_succ, Array.replicate_zero, List.push_toArray, List.append_toArray, List.nil_append, List.cons_append]
  gi_wp2
  gi_loopw [5] (fun r wr => ∃ k : Nat, r = .int .i64 (i + k) ∧ J k wr ∧ Below w.heap.size w wr) (fun r _ => (i + 64 - intOf r).toNat)
  case atStart => exact ⟨0, by simp, h0, hA⟩
  case round =>
    obtain ⟨k, rfl, hJ, hB⟩ := hrel
    have hk := hJN k wr hJ
    have d2 := (hB.cell (p := ⟨b2, 0, none⟩) l2).trans HC2.out
    have d3 := (hB.cell (p := ⟨b3, 0, none⟩) l3).trans HC3.out
    clear d1
    gi_wp2_with (refine ⟨trivial, ?_⟩; gi_at_call 84; refine (callsIn_wide.2 (sword_any seed (i + k) s wr hs)).mono ?_; rintro e w2 ⟨rfl, hb⟩; obtain ⟨fn, tmps, assign, body, hy, hR⟩ := hY k k w2 (hJb k wr w2 hJ hb) rfl; have HB2 := Lib.hid (hB.trans (hb.mono hB.size)); clear hb; simp only [encW] at hy)
    refine hR.mono ?_
    rintro e W3 (⟨rfl, hJ3, hk3⟩ | ⟨rfl, hJx3⟩)
    · have HJ3 := Lib.hid hJ3
      have HB3 := Lib.hid (HB2.out.trans hk3)
      clear hJ3 hk3 hJ hB hR
      gi_wp2
      go_roundw
      case rel => exact ⟨k + 1, by simp [Int.add_assoc], HJ3.out, HB3.out⟩
      case measure => simp [intOf]; omega
    · gi_wp2
      go_end0
      exact ⟨⟨_, rfl⟩, hJx3⟩

set_option maxHeartbeats 400000 in
theorem below1_any (x r : Int) (b : Nat) (w : World) (hx : 0 ≤ x) (hx1 : x ≤ 18446744073709551615) (hr : 0 ≤ r) (hr1 : r ≤ 18446744073709551615) (hc : w.cell? ⟨b, 0, none⟩ = some (.int .u64 r)) :
    Calls Tryz.prog 70 #[.int .u64 x, .pointer (some ⟨b, 0, none⟩)] w fun e w' => e = .returned (.bool (decide (x ≤ 18446744073709551615 - r))) ∧ w = w' := by
  go_enter Tryz.func70, Tryz.ntmps70
  go_wp2
  go_ret
  exact ⟨rfl, rfl⟩
end Go.Proofs.YtgfhniiidejmoaaGreatDoor
