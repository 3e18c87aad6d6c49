/- The contracts of hash.Sum, hash.Bytes. -/
import Derived.Test.YtocooajlfpngdaaGreatDoorA50
import Derived.Test.YtocooajlfpngdaaGreatDoorA22
import Derived.Test.YtocooajlfpngdaaGreatDoorA48
import Derived.Test.YtocooajlfpngdaaGreatDoorA07
import Derived.Test.YtocooajlfpngdaaGreatDoorA47
namespace Go.Proofs.YtocooajlfpngdaaGreatDoor
open Go.RowKit Go.Shelf
set_option linter.unusedVariables false
attribute [local go_sem] Oper.semAt_some

set_option maxRecDepth 100000 in
set_option maxHeartbeats 2000000 in
theorem hash_sum (s : ByteArray) (B : Option Addr) (m d : Nat) (ws : List Int) (w : World) (hs : s.size ≤ 1000000) (hm : m ≤ 1000000) (h : Sl .i64 w w.heap.size B m ws) :
    Calls Tryz.prog 93 #[.string s, .slice B m d] w fun e w' => e = .returned (.int .u64 (sumI (sB s) ws)) ∧ Below w.heap.size w w' := by
  have HL := Lib.hid h.len
  have HS := Lib.hid h
  clear h
  obtain ⟨w0, hw0⟩ : ∃ w0, w0 = w.alloc (.cells #[.int .u64 0] 87) := ⟨_, rfl⟩
  obtain ⟨cap, w1, hconv, hb1, hsz1, hsl1, hcap1, hcap2⟩ := conv_bytes (P := Tryz.prog) w0 9 76 5 s (by unfold maxLen; omega) Tryz.underlying9 Tryz.underlying76 Tryz.underlying5
  subst hw0
  refine (callsIn_wide (n := 8)).1 ?_
  refine callsIn_of_wp_marks Tryz.func93 rfl trivial ?_ rfl
  simp only [Tryz.ntmps93, List.size_toArray, List.length_cons, List.length_nil, Nat.reduceAdd, Nat.reduceSub, Array.replicate_succ, Array.replicate_zero, List.push_toArray, List.append_toArray, List.nil_append, List.cons_append]
  gi_wp2_with (refine ⟨trivial, ?_⟩; gi_at_call 92; refine (wordsOf_in 7 _ _ _ _).mono ?_; rintro e w' ⟨rfl, rfl⟩)
  have hsw : w.heap.size + 1 < w1.heap.size := by simpa using hsz1
  have hB01 : Below w.heap.size w w1 := ((Below.refl _ w).alloc (Nat.le_refl _) _).trans (hb1.mono (by simp))
  have hB0 : Below w.heap.size w (w1.alloc (.cells #[.slice (some ⟨w.heap.size + 1, 0, none⟩) s.size cap] 76)) := hB01.alloc hB01.size _
  have bS0 : Boxed w1 w.heap.size 87 (.int .u64 0) := (hb1.block w.heap.size (by simp)).trans (Boxed.new w 87 (.int .u64 0))
  have bN := Boxed.new w1 76 (.slice (some ⟨w.heap.size + 1, 0, none⟩) s.size cap)
  have hsl : Sl .u8 w1 w1.heap.size (some ⟨w.heap.size + 1, 0, none⟩) s.size (sB s) := by simpa using hsl1
  have hslA : Sl .u8 (w1.alloc (.cells #[.slice (some ⟨w.heap.size + 1, 0, none⟩) s.size cap] 76)) w1.heap.size (some ⟨w.heap.size + 1, 0, none⟩) s.size (sB s) := hsl.below ((Below.refl _ w1).alloc (Nat.le_refl _) _)
  refine wpIn_rangeFunc_ownG rfl (by omega) (gf := 117) (lb := #[.pointer (some ⟨w1.heap.size, 0, none⟩)]) rfl trivial (enters_of Tryz.func117 (by kernel_rfl) rfl)
    (words_stops 7 (by omega) w1.heap.size s.size cap (some ⟨w.heap.size + 1, 0, none⟩) (sB s) hs hcap1 (sB_byte s) _ (by simp) bN.cell (hslA.more (by simp))) keepS_t (keepS_b (by intro _ ad h; cases h; simp; omega)) (Below.refl _ _) (fun _ => rfl)
    (fun pre W => Boxed W w.heap.size 87 (.int .u64 (foldM 0 pre)) ∧ Below w.heap.size w W)
    (fun _ _ _ => False)
    (OwnFrom.and (Own.from (boxed_own _ _ (fun pre => .int .u64 (foldM 0 pre))) _) (ownFrom_below (Nat.le_refl _) (by simp; omega)))
    (fun _ _ _ _ _ hs _ _ => hs)
    ⟨bS0.alloc _, hB0⟩
    (fun x => { tmps := #[.string s, .slice B m d, undef, undef, .int .u64 0, .pointer (some ⟨w.heap.size, 0, none⟩), .int .u64 x, undef, undef, .string s, .slice (some ⟨w.heap.size + 1, 0, none⟩) s.size cap, .func (.func 117) #[] #[.pointer (some ⟨w1.heap.size, 0, none⟩)], .int .u64 x, undef, undef, undef, undef, undef, undef, undef, undef, undef, undef, undef, undef, undef, undef, undef, undef, undef, undef, undef, undef, undef, undef, undef, undef, undef, undef], defers := [] }) ?assign ?body ?done ?stop
  case assign =>
    intro l x W K hK
    gi_wp2
    exact hK
  case body =>
    rintro l pre x W ⟨hbx, hB⟩ _
    have hc := hbx.cell
    have hf := hbx.frozen
    gi_wp2_with (refine ⟨trivial, ?_⟩; gi_at_call 119; refine (CallsIn.inRound l (callsIn_wide.2 (hash_mix _ _ _))).mono ?_; rintro e w' ⟨rfl, rfl⟩)
    refine ⟨(KeepsOthers.setCell _ _ _).from _, ⟨by simp, fun _ ad h => ?_⟩, ?_, hB.setCell (p := ⟨w.heap.size, 0, none⟩) (Nat.le_refl _) _⟩
    · cases h
      exact Below.heap_setCell _ _ _ _ (by simp)
    · rw [foldM_snoc]; exact hbx.set _
  case done =>
    rintro D ys W hD rfl ⟨hbx, hB⟩ hK
    have hc := hbx.cell
    have hf := hbx.frozen
    clear hslA hsl bN bS0 hB0 hsl1 hconv hb1
    gi_wp2_with (refine ⟨trivial, ?_⟩; gi_at_call 119; refine (callsIn_wide.2 (hash_mix _ _ _)).mono ?_; rintro e w' ⟨rfl, rfl⟩)
    have hDw : w.heap.size < D := by simp at hD; omega
    obtain ⟨S2, hS2⟩ : ∃ S2, S2 = mixI (mixI (foldM 0 (wordsI (sB s))) ↑s.size) ↑m := ⟨_, rfl⟩
    have HS2 := Lib.hid hS2
    clear hc hf
    gi_loopw [28] (fun i wr => ∃ k : Nat, k ≤ m ∧ i = .int .i64 k ∧ Boxed wr w.heap.size 87 (.int .u64 (foldM S2 ((ws.take k).map toU))) ∧ Below w.heap.size w wr ∧ wr.heap[D]? = some (.deferred (some []))) (fun i _ => m - (intOf i).toNat)
    case atStart =>
      refine ⟨0, Nat.zero_le _, rfl, ?_, (hB.setCell (p := ⟨w.heap.size, 0, none⟩) (Nat.le_refl _) _).setCell (p := ⟨w.heap.size, 0, none⟩) (Nat.le_refl _) _, (KeepsOthers.setCell _ _ _).same D _ ((KeepsOthers.setCell _ _ _).same D _ hK rfl) rfl⟩
      have := (hbx.set (.int .u64 (mixI (foldM 0 (wordsI (sB s))) ↑s.size))).set (.int .u64 S2)
      rw [hS2] at this ⊢
      exact this
    case round =>
      obtain ⟨k, hk, rfl, hbx2, hB2, hK2⟩ := hrel
      have hc := hbx2.cell
      have hf := hbx2.frozen
      have HBX := Lib.hid hbx2
      have HKK := Lib.hid hK2
      clear hS2 hK hK2 hbx2
      by_cases hlt : k < m
      · obtain ⟨b, off, rfl, hb, hcl⟩ := HS.out.at_ (by omega)
        have hcell := (hB2.cell (p := ⟨b, off + k, none⟩) hb).trans (hcl k hlt)
        have HT := Lib.hid (take_snoc_map toU ws k (by rw [HL.out]; exact hlt))
        clear hcl
        gi_wp2_with (refine ⟨trivial, ?_⟩; gi_at_call 119; refine (callsIn_wide.2 (hash_mix _ _ _)).mono ?_; rintro e w' ⟨rfl, rfl⟩)
        go_roundw
        case rel =>
          refine ⟨k + 1, by omega, by go_num, ?_, hB2.setCell (p := ⟨w.heap.size, 0, none⟩) (Nat.le_refl _) _, (KeepsOthers.setCell _ _ _).same D _ HKK.out rfl⟩
          rw [HT.out, foldM_snoc, toU_def, List.map_take]
          exact HBX.out.set _
        case measure => simp [intOf]; omega
      · obtain rfl : m = k := by omega
        gi_wp2_with (refine ⟨trivial, ?_⟩; gi_at_call 119; refine (callsIn_wide.2 (hash_mix _ _ _)).mono ?_; rintro e w' ⟨rfl, rfl⟩)
        refine ⟨by simp, .inl ⟨_, _, rfl, run_takeDeferred HKK.out, ?_⟩⟩
        have hres : mixI (foldM S2 (List.take m (List.map toU ws))) 0 = sumI (sB s) ws := by
          rw [List.take_of_length_le (by simp [HL.out]), HS2.out, sumI, sB_len, HL.out]
        exact ⟨_, results_tmp (t := 4) rfl _ _ _, ret_int hres, hB2.trans (belowK_b (w := w) (Nat.le_refl _) wr D _ _ (by omega) HKK.out rfl rfl)⟩
  case stop =>
    rintro D c pre W _ _ h _
    exact h.elim

/-! ### Bytes -/
set_option maxRecDepth 100000 in
set_option maxHeartbeats 2000000 in
theorem hash_bytes (s : ByteArray) (B : Option Addr) (m d : Nat) (zs : List Int) (w : World) (hs : s.size ≤ 1000000) (hm : m ≤ 1000000) (hd : m ≤ d) (h : Sl .u8 w w.heap.size B m zs) (hz : ∀ b ∈ zs, byteI b) :
    Calls Tryz.prog 58 #[.string s, .slice B m d] w fun e w' => e = .returned (.int .u64 (bytesI (sB s) zs)) ∧ Below w.heap.size w w' := by
  have HL := Lib.hid h.len
  have HS := Lib.hid h
  have HZ := Lib.hid hz
  clear h hz
  obtain ⟨i0, hi, hz0, hz1, hz2⟩ := info_parts int_info
  refine (callsIn_wide (n := 8)).1 ?_
  refine callsIn_of_wp_marks Tryz.func58 rfl trivial ?_ rfl
  simp only [Tryz.ntmps58, List.size_toArray, List.length_cons, List.length_nil, Nat.reduceAdd, Nat.reduceSub, Array.replicate_succ, Array.replicate_zero, List.push_toArray, List.append_toArray, List.nil_append, List.cons_append]
  gi_wp2_with (first
    | (gi_at_make; refine wpListIn_make_own _ rfl _ _ _ rfl w.heap.size 3 i0 _ 1 Tryz.underlying22 hi hz0 hz1 _ _ _ (m / 8 + 2) rfl rfl (by omega) (by rw [hz2]; omega) (by unfold maxLen; omega) (Nat.le_refl _) ?_; intro w1 hown1 hg1)
    | (refine ⟨trivial, ?_⟩; gi_at_call 92; refine (wordsOf_in 7 _ _ _ _).mono ?_; rintro e w' ⟨rfl, rfl⟩))
  have hsz1 : w.heap.size ≤ w1.heap.size := hg1.size
  have hb1 : Below w.heap.size w w1 := below_of_grown hg1 (Nat.le_refl _) (by simp)
  have bO := Boxed.new w1 22 (.slice (some ⟨w.heap.size, 0, none⟩) 0 (m / 8 + 2))
  have bN := Boxed.new (w1.alloc (.cells #[.slice (some ⟨w.heap.size, 0, none⟩) 0 (m / 8 + 2)] 22)) 76 (.slice B m d)
  rw [World.size_alloc] at bN
  have hB0 : Below w.heap.size w ((w1.alloc (.cells #[.slice (some ⟨w.heap.size, 0, none⟩) 0 (m / 8 + 2)] 22)).alloc (.cells #[.slice B m d] 76)) := (hb1.alloc hb1.size _).alloc (by simp; omega) _
  have hslA := (HS.out.below hB0).more (B' := ((w1.alloc (.cells #[.slice (some ⟨w.heap.size, 0, none⟩) 0 (m / 8 + 2)] 22)).alloc (.cells #[.slice B m d] 76)).heap.size) hB0.size
  have hBlt : 0 < m → ∀ ad, B = some ad → ad.block < w.heap.size := by
    intro h0 ad hA
    obtain ⟨b, off, hA', hlt, _⟩ := HS.out.at_ h0
    rw [hA] at hA'; cases hA'; exact hlt
  refine wpIn_rangeFunc_ownG rfl (by omega) (gf := 117) (lb := #[.pointer (some ⟨w1.heap.size + 1, 0, none⟩)]) rfl trivial (enters_of Tryz.func117 (by kernel_rfl) rfl)
    (words_stops 7 (by omega) (w1.heap.size + 1) m d B zs hm hd HZ.out _ (by simp) bN.cell hslA) keepS_t (keepS_b (by intro h0 ad h; have := hBlt h0 ad h; simp; omega)) (Below.refl _ _) (fun _ => rfl)
    (fun pre W => (∃ v, Boxed W w1.heap.size 22 v ∧ W.ownsRow w.heap.size 3 1 v pre.length ((pre.map wrap64).map (Value.int .i64)) ∧ True) ∧ Below w.heap.size w W)
    (fun _ _ _ => False)
    (OwnFrom.and (Own.from (holdsRow_own w.heap.size w1.heap.size 22 3 1 (fun pre : List Int => pre.length) (fun pre : List Int => (pre.map wrap64).map (Value.int .i64)) (fun _ _ => True)) _) (ownFrom_below (Nat.le_refl _) (by simp; omega)))
    (fun _ _ _ _ _ hs _ _ => hs)
    ⟨⟨_, bO.alloc _, (hown1.alloc _).alloc _, trivial⟩, hB0⟩
    (fun x => { tmps := #[.string s, .slice B m d, undef, undef, .int .u64 0, .pointer (some ⟨w1.heap.size, 0, none⟩), .int .u64 x, .slice B m d, .int .i64 ↑m, .int .i64 (↑m / 8), .int .i64 (↑m / 8 + 2), .slice (some ⟨w.heap.size, 0, none⟩) 0 (m / 8 + 2), .slice B m d, .func (.func 117) #[] #[.pointer (some ⟨w1.heap.size + 1, 0, none⟩)], .int .u64 x, undef, undef, undef, undef, undef, undef, undef, undef, undef, undef, undef, undef, undef], defers := [] }) ?assign ?body ?done ?stop
  case assign =>
    intro l x W K hK
    gi_wp2
    exact hK
  case body =>
    rintro l pre x W ⟨⟨v, hv, hrow, _⟩, hB⟩ hlt
    have hc := hv.cell
    have hpl : pre.length ≤ 125000 := by omega
    gi_wp2_with (gi_at_builtin; refine wpListIn_append_own _ rfl _ _ 22 rfl w.heap.size 3 i0 (.int .i64 0) 1 8 Tryz.underlying22 hi hz0 hz1 hz2 rfl (by decide) _ _ _ rfl (hrow.alloc _) ⟨W.heap.size, 0, none⟩ 1 1 [.int .i64 (wrap64 x)] rfl rfl (cell_one_new _ _ _) (by simp [Value.oneCell']) (by unfold maxLen; omega) (by omega) (by have := hB.size; simp; omega) ?_; intro v' w1' hown' hgrow _; obtain ⟨g', cap', rfl⟩ := ownsRow_succ hown'; obtain ⟨hv1, hv2, hr2, hk2, hb2⟩ := hv.appended (by decide) hrow hB.size hsz1 hown' hgrow; have hc1 := hv1.cell; have hf1 := hv1.frozen)
    exact ⟨hk2.from _, keepS_below hb2 hBlt, ⟨_, hv2, by simpa using hr2, trivial⟩, hB.trans hb2⟩
  case done =>
    rintro D ys W hD rfl ⟨⟨v, hv, hrow, _⟩, hB⟩ hK
    have hc := hv.cell
    have hwl : (wordsI zs).length = (m + 7) / 8 := by rw [wordsI, wordsUpto_len, HL.out]
    rw [hwl] at hrow
    have hK125 : (m + 7) / 8 ≤ 125000 := by omega
    obtain ⟨k, hk⟩ : ∃ k, k = (m + 7) / 8 := ⟨_, rfl⟩
    rw [← hk] at hrow hK125
    clear hk hwl hslA bN bO hB0 hown1 hg1
    have e1 : ((wordsI zs).map wrap64).map (Value.int .i64) ++ [Value.int .i64 (m : Int)] = ((wordsI zs).map wrap64 ++ [(m : Int)]).map (Value.int .i64) := by rw [List.map_append]; rfl
    have E1 := Lib.hid e1
    clear e1
    gi_wp2_with (gi_at_builtin; refine wpListIn_append_own _ rfl _ _ 22 rfl w.heap.size 3 i0 (.int .i64 0) 1 8 Tryz.underlying22 hi hz0 hz1 hz2 rfl (by decide) _ _ _ rfl (hrow.alloc _) ⟨W.heap.size, 0, none⟩ 1 1 [.int .i64 (m : Int)] rfl rfl (cell_one_new _ _ _) (by simp [Value.oneCell']) (by unfold maxLen; omega) (by omega) (by have := hB.size; simp; omega) ?_; intro v' w1' hown' hgrow _; obtain ⟨g', cap', rfl⟩ := ownsRow_succ hown'; obtain ⟨hv1, hv2, hr2, hk2, hb2⟩ := hv.appended (by decide) hrow hB.size hsz1 hown' hgrow; have hc1 := hv1.cell; have hf1 := hv1.frozen)
    have hK3 := hk2.same D _ hK rfl
    have hDlt := (Array.getElem?_eq_some_iff.1 hK3).1
    rw [E1.out] at hr2
    obtain ⟨A3, c3, hv3, _, _, hsl3⟩ := Sl.of_own hr2
    cases hv3
    refine ⟨trivial, (callsIn_wide.2 (hash_sum s _ (k + 1) cap' _ _ hs (by omega) hsl3)).mono ?_⟩
    rintro e w4 ⟨rfl, hb4⟩
    have hK4 := (hb4.block D hDlt).trans hK3
    have hB4 : Below w.heap.size w w4 := (hB.trans hb2).trans (hb4.mono (hB.trans hb2).size)
    gi_wp2
    refine ⟨by simp, .inl ⟨_, _, rfl, run_takeDeferred hK4, ?_⟩⟩
    exact ⟨_, results_tmp (t := 4) rfl _ _ _, ret_int (by rw [bytesI, HL.out]), hB4.trans (belowK_b (w := w) (Nat.le_refl _) w4 D _ _ (by simp at hD; omega) hK4 rfl rfl)⟩
  case stop =>
    rintro D c pre W _ _ h _
    exact h.elim
end Go.Proofs.YtocooajlfpngdaaGreatDoor
