/- The laws' own functions on values: write, encode; the reference's Same. -/
import Derived.Test.YtjnjglkmabnlfaaVals
namespace Go.Proofs.Ytjnjglkmabnlfaa
open Go.RowKit
set_option linter.unusedVariables false

/-- a value as an argument -/
def vAgg (v : V) (Ab : Option Addr) (cb : Nat) (Al : Option Addr) (cl : Nat) : Value := .agg #[.int .i64 v.k, .int .u64 v.u, .int .i64 v.n, .slice Ab v.b.length cb, .slice Al v.l.length cl]
theorem sB_strOf' (zs : List Int) (h : ∀ b ∈ zs, byteI b) : sB (strOf zs) = zs := sB_strOf zs h

set_option maxHeartbeats 2000000 in
theorem write_any (p : Nat) (bs : List Int) (v : V) (Ab Al : Option Addr) (cb cl : Nat) (w : World) (h : Wr w p bs) (hv : VOk w p v Ab cb Al cl) (hc : v.can) (hl : bs.length + v.b.length + 10 * v.l.length + 20 ≤ 1000000) :
    Calls Try.prog 14 #[.pointer (some ⟨p, 0, none⟩), vAgg v Ab cb Al cl] w fun e w' => e = .returned (.tuple #[]) ∧ Wr w' p (bs ++ encV v) ∧ Below p w w' := by
  obtain ⟨k, u, n, b, l⟩ := v
  obtain ⟨hb, hL⟩ := hv
  unfold vAgg
  simp only at *
  have hpw := h.lt
  have hal : Below w.heap.size w (w.alloc (.cells #[.int .i64 k, .int .u64 u, .int .i64 n, .slice Ab b.length cb, .slice Al l.length cl] 28)) := (Below.refl _ _).alloc (Nat.le_refl _) _
  have W1 := Lib.hid (h.below hal)
  have Q1 := Lib.hid (hal.mono (Nat.le_of_lt hpw))
  have RB := Lib.hid (hb.below Q1.out)
  have RL := Lib.hid (hL.below Q1.out)
  clear h hb hL hal
  rcases hc with ⟨h1, h2, h3, h4, h5⟩ | ⟨h1, h2, h3, h4, h5⟩ | ⟨h1, h2, h3, h4, h5⟩ | ⟨h1, h2, h3, h4, h6, h5⟩ | ⟨h1, h2, h3, h4, h5, h6⟩
  all_goals simp only at h1 h2 h3 h4 h5
  · have HE := Lib.hid (show encV ⟨k, u, n, b, l⟩ = encU u by simp [encV, h1])
    subst h1
    have H2 := Lib.hid h2
    clear h2 h3 h4 h5
    go_enter Try.func14, Try.ntmps14
    go_wp2_with fail
    refine (w_uint p bs u _ W1.out H2.out (by omega)).mono ?_
    rintro e w1 ⟨rfl, h1, hb1⟩
    go_wp2_with fail
    go_end0
    exact ⟨rfl, by rw [HE.out]; exact h1, Q1.out.trans hb1⟩
  · have HE := Lib.hid (show encV ⟨k, u, n, b, l⟩ = encU (zig n) by simp [encV, h1])
    subst h1
    have H3 := Lib.hid h3
    clear h2 h3 h4 h5
    go_enter Try.func14, Try.ntmps14
    go_wp2_with fail
    refine (w_int p bs n _ W1.out H3.out (by omega)).mono ?_
    rintro e w1 ⟨rfl, h1, hb1⟩
    go_wp2_with fail
    go_end0
    exact ⟨rfl, by rw [HE.out]; exact h1, Q1.out.trans hb1⟩
  · have HE := Lib.hid (show encV ⟨k, u, n, b, l⟩ = [bitI (n == 1)] by
      rcases h3 with rfl | rfl <;> simp [encV, h1, bitI])
    subst h1
    clear h2 h3 h4 h5
    go_enter Try.func14, Try.ntmps14
    go_wp2_with fail
    refine (w_bool p bs _ _ W1.out (by omega)).mono ?_
    rintro e w1 ⟨rfl, h1, hb1⟩
    go_wp2_with fail
    go_end0
    exact ⟨rfl, by rw [HE.out]; exact h1, Q1.out.trans hb1⟩
  · have HE := Lib.hid (show encV ⟨k, u, n, b, l⟩ = encR b by rcases h1 with rfl | rfl <;> simp [encV])
    have H6 := Lib.hid h6
    clear h2 h3 h4 h5 h6
    rcases h1 with rfl | rfl
    · have hconv := conv_sl (P := Try.prog) (w.alloc (.cells #[.int .i64 3, .int .u64 u, .int .i64 n, .slice Ab b.length cb, .slice Al l.length cl] 28)) 24 9 5 Ab b.length cb p b Try.underlying24 Try.underlying5 Try.underlying9 RB.out.1 H6.out
      go_enter Try.func14, Try.ntmps14
      go_wp2_with fail
      refine (w_text p bs (strOf b) _ W1.out (by rw [strOf_size]; omega)).mono ?_
      rintro e w1 ⟨rfl, h1, hb1⟩
      rw [sB_strOf b H6.out] at h1
      go_wp2_with fail
      go_end0
      exact ⟨rfl, by rw [HE.out]; exact h1, Q1.out.trans hb1⟩
    · go_enter Try.func14, Try.ntmps14
      go_wp2_with fail
      refine (w_raw p bs Ab b.length cb b _ W1.out RB.out.1 RB.out.2.2.2.1 (by omega)).mono ?_
      rintro e w1 ⟨rfl, h1, hb1⟩
      go_wp2_with fail
      go_end0
      exact ⟨rfl, by rw [HE.out]; exact h1, Q1.out.trans hb1⟩
  · have HE := Lib.hid (show encV ⟨k, u, n, b, l⟩ = encL l by simp [encV, h1])
    subst h1
    have H6 := Lib.hid h6
    clear h2 h3 h4 h5 h6
    go_enter Try.func14, Try.ntmps14
    go_wp2_with fail
    refine (w_ints p bs Al l.length cl l _ W1.out RL.out.1 H6.out (by omega)).mono ?_
    rintro e w1 ⟨rfl, h1, hb1⟩
    go_wp2_with fail
    go_end0
    exact ⟨rfl, by rw [HE.out]; exact h1, Q1.out.trans hb1⟩

/-! ### Same, of equal values -/
set_option maxHeartbeats 1000000 in
theorem same_eq (v : V) (Ab Al Bb Bl : Option Addr) (cb cl db dl : Nat) (w : World) (hb : Sl .u8 w w.heap.size Ab v.b.length v.b) (hl : Sl .i64 w w.heap.size Al v.l.length v.l)
    (kb : Sl .u8 w w.heap.size Bb v.b.length v.b) (kl : Sl .i64 w w.heap.size Bl v.l.length v.l) (h1 : v.b.length ≤ 1000000) (h2 : v.l.length ≤ 1000000) :
    Calls Try.prog 21 #[vAgg v Ab cb Al cl, vAgg v Bb db Bl dl] w fun e w' => e = .returned (.bool true) ∧ Below w.heap.size w w' := by
  obtain ⟨k, u, n, b, l⟩ := v
  unfold vAgg
  simp only at *
  have hal : Below w.heap.size w ((w.alloc (.cells #[.int .i64 k, .int .u64 u, .int .i64 n, .slice Ab b.length cb, .slice Al l.length cl] 28)).alloc (.cells #[.int .i64 k, .int .u64 u, .int .i64 n, .slice Bb b.length db, .slice Bl l.length dl] 28)) := two_alloc _ _ _
  have Q := Lib.hid hal
  have S1 := Lib.hid ((hb.below hal).more hal.size)
  have S2 := Lib.hid ((kb.below hal).more hal.size)
  have T1 := Lib.hid ((hl.below hal).more hal.size)
  have T2 := Lib.hid ((kl.below hal).more hal.size)
  clear hb hl kb kl hal
  go_enter Try.func21, Try.ntmps21
  go_wp2_with fail
  refine (sameBytes Ab Bb b.length cb db b b _ (by unfold maxLen; omega) S1.out S2.out).mono ?_
  rintro e w1 ⟨rfl, q1, rfl⟩
  rw [decide_eq_true (rfl : b = b)]
  go_wp2_with fail
  refine (sameInts Al Bl l.length cl dl l l _ (by unfold maxLen; omega) (T1.out.drewN q1) (T2.out.drewN q1)).mono ?_
  rintro e w2 ⟨rfl, q2, rfl⟩
  rw [decide_eq_true (rfl : l = l)]
  go_wp2
  go_ret
  exact ⟨rfl, below_drewN Q.out (q1 + q2)⟩

/-! ### encode -/
theorem encVs_snoc (vs : List V) (v : V) : encVs (vs ++ [v]) = encVs vs ++ encV v := by simp [encVs]
theorem encVs_take (vs : List V) (k : Nat) (h : k < vs.length) : encVs (vs.take (k + 1)) = encVs (vs.take k) ++ encV vs[k] := by
  rw [List.take_succ_eq_append_getElem h, encVs_snoc]
theorem encV_len (v : V) (h : v.can) : (encV v).length ≤ v.b.length + 10 * v.l.length + 10 := by
  obtain ⟨k, u, n, b, l⟩ := v
  rcases h with ⟨h1, h2, h3, h4, h5⟩ | ⟨h1, h2, h3, h4, h5⟩ | ⟨h1, h2, h3, h4, h5⟩ | ⟨h1, h2, h3, h4, h6, h5⟩ | ⟨h1, h2, h3, h4, h5, h6⟩
  all_goals simp only at h1 h2 h3 h4 h5
  · have := encU_len u h2; simp [encV, h1]; omega
  · have := encU_len (zig n) (zig_u64 n h3); simp [encV, h1]; omega
  · simp [encV, h1]
  · have := encR_len b h4
    rcases h1 with rfl | rfl <;> (simp [encV]; omega)
  · have := encL_len l h5 h6
    simp [encV, h1]; omega
/-- values of bounded length -/
def Vsz (m : Nat) (v : V) : Prop := v.can ∧ v.b.length + 10 * v.l.length ≤ m
theorem encVs_len (m : Nat) (vs : List V) (h : ∀ v ∈ vs, Vsz m v) : (encVs vs).length ≤ vs.length * (m + 10) := by
  induction vs with
  | nil => simp [encVs]
  | cons v vs ih =>
    have h1 := h v (by simp)
    have := encV_len v h1.1
    have := h1.2
    have := ih (fun x hx => h x (by simp [hx]))
    have e : encVs (v :: vs) = encV v ++ encVs vs := by simp [encVs]
    rw [e, List.length_append, List.length_cons, Nat.add_mul]; omega
theorem encVs_take_len (m : Nat) (vs : List V) (k : Nat) (h : ∀ v ∈ vs, Vsz m v) : (encVs (vs.take k)).length ≤ k * (m + 10) := by
  have := encVs_len m (vs.take k) (fun v hv => h v (List.mem_of_mem_take hv))
  exact Nat.le_trans this (Nat.mul_le_mul_right _ (List.length_take_le _ _))

set_option maxHeartbeats 2000000 in
theorem encode_any (A : Option Addr) (n c : Nat) (vs : List V) (w : World) (h : SlV w w.heap.size A n vs) (hn : n ≤ 20) (hc : n ≤ c) (hz : ∀ v ∈ vs, Vsz 1000 v) :
    Calls Try.prog 26 #[.slice A n c] w fun e w' => ∃ v, e = .returned v ∧ w'.ownsRow w.heap.size 5 1 v (encVs vs).length (cB (encVs vs)) ∧ Below w.heap.size w w' := by
  have HS := Lib.hid h
  have HL := Lib.hid h.len
  have HZ := Lib.hid hz
  clear h hz
  go_enter Try.func26, Try.ntmps26
  go_wp2_with fail
  have hal : Below w.heap.size w (w.alloc (.cells #[.slice none 0 0] 32)) := (Below.refl _ _).alloc (Nat.le_refl _) _
  go_loopw [4] (fun i wr => ∃ k : Nat, k ≤ n ∧ i = .int .i64 k ∧ Wr wr w.heap.size (encVs (vs.take k)) ∧ Below w.heap.size w wr) (fun i _ => n - (intOf i).toNat)
  case atStart => exact ⟨0, Nat.zero_le _, rfl, Wr.new w, hal⟩
  case round =>
    obtain ⟨k, hk, rfl, hwr, hbel⟩ := hrel
    have HW := Lib.hid hwr
    have HB := Lib.hid hbel
    clear hwr hbel
    by_cases hlt : k < n
    · have hkv : k < vs.length := by rw [HL.out]; exact hlt
      obtain ⟨g, Ab, cb, Al, cl, rfl, hg, hvok, k0, k1, k2, k3, k4⟩ := (HS.out.below HB.out).at_ k hlt hkv
      have hvz := HZ.out vs[k] (List.getElem_mem hkv)
      have hlen := encVs_take_len 1000 vs k HZ.out
      obtain ⟨v, hv⟩ : ∃ v, v = vs[k] := ⟨_, rfl⟩
      rw [← hv] at hvok k0 k1 k2 k3 k4 hvz
      have HV := Lib.hid hv
      have HVO := Lib.hid hvok
      clear hv hvok hal
      go_wp2_with fail
      refine (write_any w.heap.size _ v Ab Al cb cl _ HW.out HVO.out hvz.1 (by have := hvz.2; omega)).mono ?_
      rintro e w2 ⟨rfl, hw2, hb2⟩
      have HX := Lib.hid (show Wr w2 w.heap.size (encVs (vs.take (k + 1))) by rw [encVs_take vs k hkv, ← HV.out]; exact hw2)
      clear hw2 hlen
      go_wp2_with fail
      go_roundw
      case rel => exact ⟨k + 1, by omega, by go_num, HX.out, HB.out.trans hb2⟩
      case measure => simp [intOf]; omega
    · obtain rfl : k = n := by omega
      have hw := HW.out
      rw [List.take_of_length_le (by rw [HL.out]; omega)] at hw
      have HW2 := Lib.hid hw
      have hlen := encVs_take_len 1000 vs k HZ.out
      rw [List.take_of_length_le (by rw [HL.out]; omega)] at hlen
      clear hw hal
      go_wp2_with fail
      refine (w_done w.heap.size _ _ HW2.out (by omega)).mono ?_
      rintro e w3 ⟨v, rfl, hown, hb3⟩
      go_wp2_with fail
      go_ret
      exact ⟨_, rfl, own_mono hown HB.out.size, HB.out.trans (hb3.mono HB.out.size)⟩
end Go.Proofs.Ytjnjglkmabnlfaa
