/- The law WireOne: lemmas. -/
import Derived.Test.YtjnjglkmabnlfaaWireLX
namespace Go.Proofs.Ytjnjglkmabnlfaa
open Go.RowKit
set_option linter.unusedVariables false

theorem rdN_I_len : ∀ (k : Nat) (acc : List Int) (s : RS), s.ok → (rdN rdI k acc s).1.length ≤ acc.length + s.bs.length := by
  intro k
  induction k with
  | zero => intro acc s _; simp [rdN]
  | succ k ih =>
    intro acc s hs
    by_cases h : (rdI s).2.er = 0
    · rw [rdN_step _ _ _ _ h]
      have h1 := ih (acc ++ [(rdI s).1]) _ (rdI_ok s hs).2.1
      obtain ⟨_, h2⟩ := rdI_one s hs h
      have h3 := congrArg List.length h2
      have h4 := encU_pos (zig (rdI s).1)
      simp only [List.length_append, List.length_cons, List.length_nil] at h1 h3
      omega
    · rw [rdN_fail _ _ _ _ h]; simp
theorem rdL_I_len (s : RS) (hs : s.ok) : (rdL rdI s).1.length ≤ s.bs.length := by
  obtain ⟨_, h2, h3, _⟩ := rdU_ok s hs
  unfold rdL
  split
  · split
    · have := rdN_I_len (rdU s).1.toNat [] (rdU s).2 h2
      simp only [List.length_nil] at this
      omega
    · simp
  · simp
theorem rdV_can (k : Int) (s : RS) (hk : 0 ≤ k ∧ k < 6) (hs : s.ok) (hl : s.bs.length ≤ 1000000) : (rdV k s).1.can ∧ (rdV k s).1.b.length ≤ s.bs.length ∧ (rdV k s).1.l.length ≤ s.bs.length := by
  have hcase : k = 0 ∨ k = 1 ∨ k = 2 ∨ k = 3 ∨ k = 4 ∨ k = 5 := by omega
  have l1 := rdL_len s hs
  have l2 := rdL_I_len s hs
  rcases hcase with rfl | rfl | rfl | rfl | rfl | rfl
  · exact ⟨.inl ⟨rfl, (rdU_ok s hs).1, rfl, rfl, rfl⟩, Nat.zero_le _, Nat.zero_le _⟩
  · exact ⟨.inr (.inl ⟨rfl, rfl, (rdI_ok s hs).1, rfl, rfl⟩), Nat.zero_le _, Nat.zero_le _⟩
  · refine ⟨.inr (.inr (.inl ⟨rfl, rfl, ?_, rfl, rfl⟩)), Nat.zero_le _, Nat.zero_le _⟩
    show (if (rdB s).1 then (1 : Int) else 0) = 0 ∨ (if (rdB s).1 then (1 : Int) else 0) = 1
    cases (rdB s).1 <;> simp
  · exact ⟨.inr (.inr (.inr (.inl ⟨.inl rfl, rfl, rfl, Nat.le_trans l1 hl, rdL_byte s hs, rfl⟩))), l1, Nat.zero_le _⟩
  · exact ⟨.inr (.inr (.inr (.inl ⟨.inr rfl, rfl, rfl, Nat.le_trans l1 hl, rdL_byte s hs, rfl⟩))), l1, Nat.zero_le _⟩
  · exact ⟨.inr (.inr (.inr (.inr ⟨rfl, rfl, rfl, rfl, Nat.le_trans l2 hl, rdL_i64 s hs⟩))), Nat.zero_le _, l2⟩
theorem rdV_sz (k : Int) (s : RS) (hk : 0 ≤ k ∧ k < 6) (hs : s.ok) (hl : s.bs.length ≤ 1000) : Vsz 20000 (rdV k s).1 := by
  obtain ⟨a, b, c⟩ := rdV_can k s hk hs (by omega)
  exact ⟨a, by omega⟩

/-- encode, of greater values -/
theorem encode_big (A : Option Addr) (n c : Nat) (vs : List V) (w : World) (h : SlV w w.heap.size A n vs) (hn : n ≤ 20) (hc : n ≤ c) (hz : ∀ v ∈ vs, Vsz 20000 v) :
    Calls Try.prog 26 #[.slice A n c] w fun e w' => ∃ v, e = .returned v ∧ w'.ownsRow w.heap.size 5 1 v (encVs vs).length (cB (encVs vs)) ∧ Below w.heap.size w w' := by
  have HS := Lib.hid h
  have HL := Lib.hid h.len
  have HZ := Lib.hid hz
  clear h hz
  go_enter Try.func26, Try.ntmps26
  go_wp2_with fail
  have hal : Below w.heap.size w (w.alloc (.cells #[.slice none 0 0] 32)) := (Below.refl _ _).alloc (Nat.le_refl _) _
  go_loopw [4] (fun i wr => ∃ k : Nat, k ≤ n ∧ i = .int .i64 k ∧ Wr wr w.heap.size (encVs (vs.take k)) ∧ Below w.heap.size w wr) (fun i _ => n - (intOf i).toNat)
  case atStart => exact ⟨0, Nat.zero_le _, rfl, Wr.new w, hal⟩
  case round =>
    obtain ⟨k, hk, rfl, hwr, hbel⟩ := hrel
    have HW := Lib.hid hwr
    have HB := Lib.hid hbel
    clear hwr hbel
    by_cases hlt : k < n
    · have hkv : k < vs.length := by rw [HL.out]; exact hlt
      obtain ⟨g, Ab, cb, Al, cl, rfl, hg, hvok, k0, k1, k2, k3, k4⟩ := (HS.out.below HB.out).at_ k hlt hkv
      have hvz := HZ.out vs[k] (List.getElem_mem hkv)
      have hlen := encVs_take_len 20000 vs k HZ.out
      obtain ⟨v, hv⟩ : ∃ v, v = vs[k] := ⟨_, rfl⟩
      rw [← hv] at hvok k0 k1 k2 k3 k4 hvz
      have HV := Lib.hid hv
      have HVO := Lib.hid hvok
      clear hv hvok hal
      go_wp2_with fail
      refine (write_any w.heap.size _ v Ab Al cb cl _ HW.out HVO.out hvz.1 (by have := hvz.2; omega)).mono ?_
      rintro e w2 ⟨rfl, hw2, hb2⟩
      have HX := Lib.hid (show Wr w2 w.heap.size (encVs (vs.take (k + 1))) by rw [encVs_take vs k hkv, ← HV.out]; exact hw2)
      clear hw2 hlen
      go_wp2_with fail
      go_roundw
      case rel => exact ⟨k + 1, by omega, by go_num, HX.out, HB.out.trans hb2⟩
      case measure => simp [intOf]; omega
    · obtain rfl : k = n := by omega
      have hw := HW.out
      rw [List.take_of_length_le (by rw [HL.out]; omega)] at hw
      have HW2 := Lib.hid hw
      have hlen := encVs_take_len 20000 vs k HZ.out
      rw [List.take_of_length_le (by rw [HL.out]; omega)] at hlen
      clear hw hal
      go_wp2_with fail
      refine (w_done w.heap.size _ _ HW2.out (by omega)).mono ?_
      rintro e w3 ⟨v, rfl, hown, hb3⟩
      go_wp2_with fail
      go_ret
      exact ⟨_, rfl, own_mono hown HB.out.size, HB.out.trans (hb3.mono HB.out.size)⟩

theorem SlV.reader {w w' : World} {B n p B' : Nat} {A : Option Addr} {vs : List V} {s : RS} (h : SlV w B A n vs) (hB : B ≤ w.heap.size) (hr : RdW w p B' s) (hg : w.grownBy w' (some p)) : SlV w' B A n vs := by
  obtain ⟨cs, h1, h2, h3⟩ := h
  obtain ⟨A', m, c, k1, _⟩ := hr
  refine ⟨cs, h1.grownT hg k1 (by decide) (by decide), h2, ?_⟩
  rcases h3 with h0 | ⟨g, rfl, hgB, hc⟩
  · exact .inl h0
  · refine .inr ⟨g, rfl, hgB, fun j hj => ?_⟩
    have hne : g ≠ p := by
      rintro rfl
      have h00 := hc 0 (by omega)
      rw [k1.c0] at h00
      obtain ⟨Ab, cb, Al, cl, _, k0, _⟩ := h1.at_ 0 (by omega)
      rw [show 5 * 0 = 0 from rfl] at k0
      rw [k0] at h00
      simp at h00
    exact (World.cell?_of_block (a := ⟨g, j, none⟩) (hg.block g (by omega) (fun e => hne (by injection e)))).trans (hc j hj)
theorem good_sz49 {v : V} (h : v.good) : Vsz 49 v := ⟨h.1, by have := h.2.1; have := h.2.2; omega⟩
/-- what an append of one value leaves -/
theorem got_step {w w2 w1 : World} {base k B p : Nat} {o v1 : Value} {vs : List V} {v : V} {Ab Al : Option Addr} {cb cl : Nat} {cs : List Value} {st : RS}
    (hrow : w.ownsRow base 28 5 o k cs) (hd : Desc w w.heap.size vs cs) (hl : vs.length = k) (hb : Below w.heap.size w w2) (hv : VOk w w.heap.size v Ab cb Al cl)
    (hown : w1.ownsRow base 28 5 v1 (k + 1) (cs ++ vCs v Ab cb Al cl)) (hg : w2.grownBy w1 o.ownBlock) (hbase : base ≤ w.heap.size) :
    OwnV w1 base v1 (k + 1) (vs ++ [v]) ∧ Below base w w1 := by
  have hrow2 := ownsRow_below' hrow hb
  exact ⟨OwnV.snoc hrow2 ((hd.below hb).more hb.size) hl ((hv.below hb).more hb.size) hown hg, below_row (hb.mono hbase) hg (Nat.le_trans hbase hb.size) (fun g hg' => (hrow2.lt g hg').1)⟩
theorem Rd.belowB {t : TypeId} {w w' : World} {p B : Nat} {s : RS} (h : Rd t w p B s) (hp : p < B) (hb : Below B w w') : Rd t w' p B s := by
  obtain ⟨A, n, c, h1, h2, h3, h4, h5, h6, h7⟩ := h
  exact ⟨A, n, c, (hb.block p hp).trans h1, h2, h3, h4, fun h0 => (h5 h0).below hb, h6, Nat.le_trans h7 hb.size⟩
theorem rdVs_sz (ks : List Int) (hk : ∀ k ∈ ks, 0 ≤ k ∧ k < 6) : ∀ s : RS, s.ok → s.bs.length ≤ 1000 → ∀ v ∈ (rdVs ks s).1, Vsz 20000 v := by
  induction ks with
  | nil => intro s _ _ v hv; simp [rdVs] at hv
  | cons k ks ih =>
    intro s hs hl v hv
    rw [rdVs] at hv
    rcases List.mem_cons.1 hv with rfl | hv
    · exact rdV_sz k s (hk k (by simp)) hs hl
    · have := rdV_st k s hs
      exact ih (fun x hx => hk x (by simp [hx])) _ this.1 (by omega) v hv
theorem rdVs_st (ks : List Int) : ∀ s : RS, s.ok → (rdVs ks s).2.ok ∧ (rdVs ks s).2.bs.length ≤ s.bs.length := by
  induction ks with
  | nil => intro s hs; exact ⟨hs, Nat.le_refl _⟩
  | cons k ks ih =>
    intro s hs
    have h1 := rdV_st k s hs
    have h2 := ih _ h1.1
    exact ⟨h2.1, Nat.le_trans h2.2 h1.2⟩
/-- P2.7 -/
theorem one_encoding (ks : List Int) (b : List Int) (hb : ∀ x ∈ b, byteI x) (h : endE (rdVs ks ⟨b, 0⟩).2 = 0) : encVs (rdVs ks ⟨b, 0⟩).1 = b := by
  have hs : (⟨b, 0⟩ : RS).ok := ⟨hb, by simp, .inl rfl⟩
  obtain ⟨e1, e2⟩ := endE_ok _ (rdVs_st ks _ hs).1 h
  obtain ⟨_, h2⟩ := rdVs_one ks ⟨b, 0⟩ (fun k _ s hs => (rdV_st k s hs).1) hs e1
  rw [e2, List.append_nil] at h2
  exact h2.symm
end Go.Proofs.Ytjnjglkmabnlfaa
