/- Contracts of package wide's numbers: divideBy. · Contracts of package wide's numbers: fromWord, word, compare. -/
import Derived.Test.YtgfhniiidejmoaaDoorA20
import Derived.Laws.BitsAllLaws
import Derived.Test.YtgfhniiidejmoaaDoorA06
namespace Go.Proofs.YtgfhniiidejmoaaDoor
open Go.RowKit
set_option linter.unusedVariables false

theorem or_add {r x : Int} (h0 : 0 ≤ r) (h1 : r < 4294967296) (h2 : 0 ≤ x) (h3 : x < 4294967296) : bits .or .u64 (r * 4294967296) x = r * 4294967296 + x := by
  rw [u64_or _ _ (by omega) (by omega) h2 (by omega)]
  have h := Nat.two_pow_add_eq_or_of_lt (i := 32) (b := x.toNat) (by omega) r.toNat
  have e : (r * 4294967296).toNat = 2 ^ 32 * r.toNat := by omega
  rw [e, ← h]
  omega
/-- a division by one digit under way: the places from k on are done -/
def QuoI (d : Int) (L0 : List Int) (k : Nat) (r : Int) (L : List Int) : Prop :=
  L.length = L0.length ∧ Dig 4294967296 L ∧ 0 ≤ r ∧ r < d ∧ dv 4294967296 (L.drop k) * d + r = dv 4294967296 (L0.drop k) ∧ ∀ j, j < k → L[j]?.getD 0 = L0[j]?.getD 0
theorem QuoI.start {d : Int} {L : List Int} (hd : Dig 4294967296 L) (h0 : 0 < d) : QuoI d L L.length 0 L := by
  refine ⟨rfl, hd, by omega, h0, ?_, fun _ _ => rfl⟩
  rw [List.drop_of_length_le (Nat.le_refl _)]; simp [dv]
theorem QuoI.step {d r : Int} {L0 L : List Int} {k : Nat} (h : QuoI d L0 (k + 1) r L) (hk : k < L0.length) (h0 : 0 < d) :
    0 ≤ L[k]?.getD 0 ∧ L[k]?.getD 0 < 4294967296 ∧ (r * 4294967296 + L[k]?.getD 0) / d < 4294967296 ∧ QuoI d L0 k ((r * 4294967296 + L[k]?.getD 0) % d) (L.set k ((r * 4294967296 + L[k]?.getD 0) / d)) := by
  obtain ⟨h1, h2, h3, h4, h5, h6⟩ := h
  have hg := h2.get (show (0 : Int) < 4294967296 by omega) k
  have he := h6 k (by omega)
  obtain ⟨x, hx⟩ : ∃ x, x = L[k]?.getD 0 := ⟨_, rfl⟩
  rw [← hx] at hg he ⊢
  have hq0 : 0 ≤ (r * 4294967296 + x) / d := Int.ediv_nonneg (by omega) (by omega)
  have hq1 : (r * 4294967296 + x) / d < 4294967296 := Int.ediv_lt_of_lt_mul h0 (by omega)
  have hm := Int.mul_ediv_add_emod (r * 4294967296 + x) d
  refine ⟨hg.1, hg.2, hq1, by rw [List.length_set]; exact h1, h2.set _ ⟨hq0, hq1⟩, Int.emod_nonneg _ (by omega), Int.emod_lt_of_pos _ h0, ?_, fun j hj => by rw [set_getD' _ _ _ _ (by omega)]; exact h6 j (by omega)⟩
  have e1 : L0.drop k = x :: L0.drop (k + 1) := by rw [List.drop_eq_getElem_cons hk, he, List.getElem?_eq_getElem hk]; rfl
  have e2 : (L.set k ((r * 4294967296 + x) / d)).drop k = (r * 4294967296 + x) / d :: L.drop (k + 1) := by
    rw [List.drop_eq_getElem_cons (by rw [List.length_set]; omega), List.getElem_set_self, List.drop_set_of_lt (by omega)]
  rw [e1, e2, dv, dv, ← h5]
  grind
def QuoPost (g : Nat) (d : Int) (L0 : List Int) (w : World) (e : Ending) (w' : World) : Prop :=
  ∃ r L, e = .returned (.int .u32 r) ∧ RowW .u32 w' g 116 L ∧ w.grownBy w' (some g) ∧ QuoI d L0 0 r L
set_option maxRecDepth 100000 in
set_option maxHeartbeats 4000000 in
theorem divideBy_any (g n c : Nat) (d : Int) (L0 : List Int) (w : World) (hL : RowW .u32 w g 116 L0) (hn : L0.length = n) (hn2 : n ≤ 100000) (hd : Dig 4294967296 L0) (h0 : 0 < d) (h1 : d < 4294967296) :
    Calls Tryd.prog 96 #[.slice (some ⟨g, 0, none⟩) n c, .int .u32 d] w (QuoPost g d L0 w) := by
  have HL := Lib.hid hL
  have HI0 := Lib.hid (QuoI.start hd h0)
  rw [hn] at HI0
  have HN := Lib.hid hn
  clear hL hd hn
  go_enter Tryd.func96, Tryd.ntmps96
  go_wp2_with fail
  go_loopw [5, 6] (fun rv iv wr => ∃ (k : Nat) (r : Int) (L : List Int), k ≤ n ∧ iv = .int .i64 ((k : Int) - 1) ∧ rv = .int .u64 r ∧ Hid (QuoI d L0 k r L) ∧ Hid (RowW .u32 wr g 116 L) ∧ Hid (w.grownBy wr (some g))) (fun _ iv _ => (intOf iv + 1).toNat)
  case atStart => exact ⟨n, 0, L0, Nat.le_refl _, rfl, rfl, HI0.out, HL.out, World.grownBy.refl _ _⟩
  case round =>
    clear HI0 HL
    obtain ⟨k, r, L, hk, rfl, rfl, HI, HL, HG⟩ := hrel
    have r0 := HI.out.2.2.1
    have r1 := HI.out.2.2.2.1
    rcases Nat.eq_zero_or_pos k with rfl | hk0
    · have HF := Lib.hid (show QuoPost g d L0 w (.returned (.int .u32 r)) wr from ⟨r, L, rfl, HL.out, HG.out, HI.out⟩)
      go_wp2_with fail
      go_ret
      exact HF.out
    · obtain ⟨j, rfl⟩ : ∃ j, k = j + 1 := ⟨k - 1, by omega⟩
      rw [show (((j + 1 : Nat) : Int) - 1) = (j : Int) by omega]
      obtain ⟨x0, x1, q1, hI2⟩ := HI.out.step (by rw [HN.out]; omega) h0
      have hc := HL.out.cell j (by rw [HI.out.1, HN.out]; omega)
      have hf := HL.out.free j
      obtain ⟨x, hx⟩ : ∃ x, x = L[j]?.getD 0 := ⟨_, rfl⟩
      rw [← hx] at x0 x1 q1 hI2 hc
      have HI2 := Lib.hid hI2
      have HL2 := Lib.hid (fun (v : Int) => HL.out.set_ j (by rw [HI.out.1, HN.out]; omega) v)
      have HG2 := Lib.hid (fun (v : Value) => grown_own (o := j) (u := v) HG.out)
      have hor := or_add r0 (by omega) x0 x1
      obtain ⟨V, hV⟩ : ∃ V, V = r * 4294967296 + x := ⟨_, rfl⟩
      rw [← hV] at hor q1 HI2
      have v0 : 0 ≤ V := by omega
      have v1 : V ≤ 18446744073709551615 := by omega
      have hq0 : 0 ≤ V / d := Int.ediv_nonneg v0 (by omega)
      have htd : V.tdiv d = V / d := Int.tdiv_eq_ediv_of_nonneg v0
      have htm : V.tmod d = V % d := Int.tmod_eq_emod_of_nonneg v0
      obtain ⟨Q, hQ⟩ : ∃ Q, Q = V / d := ⟨_, rfl⟩
      rw [← hQ] at hq0 htd q1 HI2
      have hw : IntKind.u64.wrap Q = Q := IntWalk.u64_in _ (by omega)
      have hm : Q % 4294967296 = Q := by omega
      have hd0 : (d == 0) = false := by simp; omega
      clear hI2 hx hV hQ
      go_wp2_with fail
      exact ⟨⟨j, V % d, L.set j Q, by omega, rfl, rfl, HI2.out, HL2.out _, HG2.out _⟩, by simp [intOf]⟩
end Go.Proofs.YtgfhniiidejmoaaDoor
namespace Go.Proofs.YtgfhniiidejmoaaDoor
open Go.RowKit
set_option linter.unusedVariables false

/-- a call that leaves the world alone, where the order has been drawn -/
theorem quiet_more {P : Program} {f : FuncId} {args : Array Value} {w : World} {a n : Nat} {v : Value} (h : ∀ W : World, Calls P f args W fun e w' => e = .returned v ∧ W = w') :
    Calls P f args (w.drewN (a + n)) fun e w'' => e = .returned v ∧ ∃ m, w'' = w.drewN (a + m) := (h _).mono fun _ _ ⟨he, hm⟩ => ⟨he, n, hm.symm⟩
theorem quiet_once {P : Program} {f : FuncId} {args : Array Value} {w : World} {n : Nat} {v : Value} (h : ∀ W : World, Calls P f args W fun e w' => e = .returned v ∧ W = w') :
    Calls P f args (w.drewN n) fun e w'' => e = .returned v ∧ ∃ m, w'' = w.drewN m := (h _).mono fun _ _ ⟨he, hm⟩ => ⟨he, n, hm.symm⟩
/-- a new number of package wide -/
def NewU (x : Int) (w : World) (e : Ending) (w' : World) : Prop := ∃ A n c zs, e = .returned (.slice A n c) ∧ NatR w' w'.heap.size x A n c zs ∧ Below w.heap.size w w'
theorem TrimPost.new {B c : Nat} {A : Option Addr} {zs : List Int} {w0 w : World} {e : Ending} {w' : World} (h : TrimPost B A c zs w e w') (hB : B ≤ w.heap.size) (hb : Below w0.heap.size w0 w) {x : Int} (hx : dv 4294967296 zs = x) : NewU x w0 e w' := by
  obtain ⟨k, rfl, hk, hr, rfl⟩ := h
  rw [hx] at hr
  exact ⟨A, k, c, _, rfl, hr.more hB, hb⟩
set_option maxHeartbeats 1000000 in
theorem fromWord_any (x : Int) (w : World) (h0 : 0 ≤ x) (h1 : x ≤ 18446744073709551615) :
    Calls Tryd.prog 57 #[.int .u64 x] w (NewU x w) := by
  have hal : Below w.heap.size w (w.alloc (.cells #[.int .u32 (x % 4294967296), .int .u32 (x / 4294967296)] 116)) := (Below.refl _ _).alloc (Nat.le_refl _) _
  have HT := Lib.hid (trimmed_any (some ⟨w.heap.size, 0, none⟩) 2 2 _ [x % 4294967296, x / 4294967296] (w.alloc (.cells #[.int .u32 (x % 4294967296), .int .u32 (x / 4294967296)] 116)) (two_cells .u32 w 116 (x % 4294967296) (x / 4294967296)) (Nat.le_refl _) (by unfold maxLen; omega) (by intro h; cases h) (Dig.cons (by omega) (Dig.cons (by omega) Dig.nil)))
  have HAL := Lib.hid hal
  have HX := Lib.hid (show dv 4294967296 [x % 4294967296, x / 4294967296] = x by simp [dv]; omega)
  have hm : x / 4294967296 % 4294967296 = x / 4294967296 := by omega
  clear hal
  go_enter Tryd.func57, Tryd.ntmps57
  go_wp2_with fail
  refine HT.out.mono ?_
  rintro e w1 h
  have hn := h.new (Nat.le_refl _) HAL.out HX.out
  obtain ⟨A, n, c, zs, rfl, hr, hb⟩ := hn
  have HF := Lib.hid (show NewU x w (.returned (.slice A n c)) w1 from ⟨A, n, c, zs, rfl, hr, hb⟩)
  clear h hr hb
  go_wp2_with fail
  go_ret
  exact HF.out
set_option maxHeartbeats 1000000 in
theorem word_any (A : Option Addr) (n c : Nat) (zs : List Int) (w : World) (h : Sl .u32 w w.heap.size A n zs) (hd : Dig 4294967296 zs) (hn : n ≤ 1000000) :
    Calls Tryd.prog 58 #[.slice A n c] w fun e w' => e = .returned (.int .u64 (zs[0]?.getD 0 + 4294967296 * zs[1]?.getD 0)) ∧ w = w' := by
  have H0 := Lib.hid (nat_at A n c 0 zs w h hd hn (by omega))
  have H1 := Lib.hid (nat_at A n c 1 zs w h hd hn (by omega))
  have b0 := hd.get (by omega) 0
  have b1 := hd.get (by omega) 1
  obtain ⟨x, hx⟩ : ∃ x, x = zs[0]?.getD 0 := ⟨_, rfl⟩
  obtain ⟨y, hy⟩ : ∃ y, y = zs[1]?.getD 0 := ⟨_, rfl⟩
  rw [← hx] at H0 b0 ⊢
  rw [← hy] at H1 b1 ⊢
  obtain ⟨x0, x1⟩ := b0
  obtain ⟨y0, y1⟩ := b1
  have hor : bits .or .u64 x (y * 4294967296) = x + 4294967296 * y := by
    rw [u64_or _ _ x0 (by omega) (by omega) (by omega)]
    have h := Nat.two_pow_add_eq_or_of_lt (i := 32) (b := x.toNat) (by omega) y.toNat
    have e : (y * 4294967296).toNat = 2 ^ 32 * y.toNat := by omega
    rw [e, Nat.or_comm, ← h]
    omega
  have HO := Lib.hid hor
  clear h hd hx hy
  go_enter Tryd.func58, Tryd.ntmps58
  go_wp2_with fail
  refine H0.out.mono ?_
  rintro e w1 ⟨rfl, rfl⟩
  go_wp2_with fail
  refine H1.out.mono ?_
  rintro e w1 ⟨rfl, rfl⟩
  go_wp2_with fail
  go_ret
  exact ⟨rfl, rfl⟩
def cmpI' (x y : Int) : Int := if x < y then -1 else if y < x then 1 else 0
theorem cmp_int (a b : Int) (w : World) : Calls Tryd.prog 98 #[.int .i64 a, .int .i64 b] w fun e w' => e = .returned (.int .i64 (cmpI' a b)) ∧ w = w' := by
  by_cases h1 : a < b
  · obtain ⟨r, hr⟩ : ∃ r, r = cmpI' a b := ⟨_, rfl⟩
    rw [← hr]
    obtain rfl : r = -1 := by rw [hr]; exact if_pos h1
    clear hr
    go_enter Tryd.func98, Tryd.ntmps98
    go_wp2
    go_ret
    exact ⟨rfl, rfl⟩
  · by_cases h2 : b < a
    · obtain ⟨r, hr⟩ : ∃ r, r = cmpI' a b := ⟨_, rfl⟩
      rw [← hr]
      obtain rfl : r = 1 := by rw [hr]; unfold cmpI'; rw [if_neg h1, if_pos h2]
      clear hr
      go_enter Tryd.func98, Tryd.ntmps98
      go_wp2
      go_ret
      exact ⟨rfl, rfl⟩
    · obtain ⟨r, hr⟩ : ∃ r, r = cmpI' a b := ⟨_, rfl⟩
      rw [← hr]
      obtain rfl : r = 0 := by rw [hr]; unfold cmpI'; rw [if_neg h1, if_neg h2]
      clear hr
      go_enter Tryd.func98, Tryd.ntmps98
      go_wp2
      go_ret
      exact ⟨rfl, rfl⟩
theorem cmp_u32 (a b : Int) (w : World) : Calls Tryd.prog 99 #[.int .u32 a, .int .u32 b] w fun e w' => e = .returned (.int .i64 (cmpI' a b)) ∧ w = w' := by
  by_cases h1 : a < b
  · obtain ⟨r, hr⟩ : ∃ r, r = cmpI' a b := ⟨_, rfl⟩
    rw [← hr]
    obtain rfl : r = -1 := by rw [hr]; exact if_pos h1
    clear hr
    go_enter Tryd.func99, Tryd.ntmps99
    go_wp2
    go_ret
    exact ⟨rfl, rfl⟩
  · by_cases h2 : b < a
    · obtain ⟨r, hr⟩ : ∃ r, r = cmpI' a b := ⟨_, rfl⟩
      rw [← hr]
      obtain rfl : r = 1 := by rw [hr]; unfold cmpI'; rw [if_neg h1, if_pos h2]
      clear hr
      go_enter Tryd.func99, Tryd.ntmps99
      go_wp2
      go_ret
      exact ⟨rfl, rfl⟩
    · obtain ⟨r, hr⟩ : ∃ r, r = cmpI' a b := ⟨_, rfl⟩
      rw [← hr]
      obtain rfl : r = 0 := by rw [hr]; unfold cmpI'; rw [if_neg h1, if_neg h2]
      clear hr
      go_enter Tryd.func99, Tryd.ntmps99
      go_wp2
      go_ret
      exact ⟨rfl, rfl⟩
set_option maxRecDepth 100000 in
set_option maxHeartbeats 4000000 in
theorem ncompare_any (x y : Int) (A E : Option Addr) (n c m f : Nat) (zs ys : List Int) (w : World) (h : NatR w w.heap.size x A n c zs) (k : NatR w w.heap.size y E m f ys) (hn : n ≤ 100000) (hm : m ≤ 100000) :
    Calls Tryd.prog 77 #[.slice A n c, .slice E m f] w fun e w' => e = .returned (.int .i64 (cmpI' x y)) ∧ ∃ q, w' = w.drewN q := by
  obtain ⟨hs, hnc, hc, hA, hz, tz, rfl⟩ := h
  obtain ⟨ks, kmf, kf, kE, hy, ty, rfl⟩ := k
  have HLN := Lib.hid hs.len
  have HLM := Lib.hid ks.len
  have HS := Lib.hid hs
  have HK := Lib.hid ks
  have HZ := Lib.hid hz
  have HY := Lib.hid hy
  have L1 := Lib.hid (fun (hlt : n < m) => len_lt (show (1 : Int) < 4294967296 by omega) hz hy ty (by rw [hs.len, ks.len]; exact hlt))
  have L2 := Lib.hid (fun (hlt : m < n) => len_lt (show (1 : Int) < 4294967296 by omega) hy hz tz (by rw [hs.len, ks.len]; exact hlt))
  obtain ⟨R, hR⟩ : ∃ R, R = cmpI' (dv 4294967296 zs) (dv 4294967296 ys) := ⟨_, rfl⟩
  rw [← hR]
  have HR := Lib.hid hR
  clear hs ks hz hy tz ty hR hA kE
  rcases Nat.lt_trichotomy n m with hlt | rfl | hgt
  · obtain rfl : R = -1 := by rw [HR.out, cmpI', if_pos (L1.out hlt)]
    have hne : ((n : Int) != (m : Int)) = true := by rw [bne_iff_ne]; omega
    have HC := Lib.hid (cmp_int n m w)
    rw [show cmpI' (n : Int) (m : Int) = -1 from if_pos (by omega)] at HC
    go_enter Tryd.func77, Tryd.ntmps77
    go_wp2_with fail
    refine HC.out.mono ?_
    rintro e w1 ⟨rfl, rfl⟩
    go_wp2_with fail
    go_ret
    exact ⟨rfl, 0, rfl⟩
  · go_enter Tryd.func77, Tryd.ntmps77
    go_wp2_with fail
    go_loopw [5] (fun i wr => ∃ k q : Nat, k ≤ n ∧ i = .int .i64 ((k : Int) - 1) ∧ Hid (zs.drop k = ys.drop k) ∧ wr = w.drewN q) (fun i _ => (intOf i + 1).toNat)
    case atStart => exact ⟨n, 0, Nat.le_refl _, rfl, by show zs.drop n = ys.drop n; rw [List.drop_of_length_le (by rw [HLN.out]; omega), List.drop_of_length_le (by rw [HLM.out]; omega)], rfl⟩
    case round =>
      obtain ⟨k, q, hk, rfl, HD, rfl⟩ := hrel
      rcases Nat.eq_zero_or_pos k with rfl | hk0
      · obtain rfl : R = 0 := by
          have e : zs = ys := HD
          rw [HR.out, e, cmpI', if_neg (by omega), if_neg (by omega)]
        go_wp2_with fail
        go_ret
        exact ⟨rfl, _, rfl⟩
      · obtain ⟨j, rfl⟩ : ∃ j, k = j + 1 := ⟨k - 1, by omega⟩
        rw [show (((j + 1 : Nat) : Int) - 1) = (j : Int) by omega]
        obtain ⟨b1, o1, rfl, _, hc1⟩ := HS.out.at_ (by omega)
        obtain ⟨b2, o2, rfl, _, hc2⟩ := HK.out.at_ (by omega)
        have c1 := hc1 j (by omega)
        have c2 := hc2 j (by omega)
        have hj1 : j < zs.length := by rw [HLN.out]; omega
        have hj2 : j < ys.length := by rw [HLM.out]; omega
        have hx : zs[j]?.getD 0 = zs[j] := by rw [List.getElem?_eq_getElem hj1]; rfl
        have hy : ys[j]?.getD 0 = ys[j] := by rw [List.getElem?_eq_getElem hj2]; rfl
        have D1 := Lib.hid (fun (hd : zs[j]?.getD 0 < ys[j]?.getD 0) => diff_lt (show (1 : Int) < 4294967296 by omega) HZ.out HY.out j hj1 hj2 HD (by rw [← hx, ← hy]; exact hd))
        have D2 := Lib.hid (fun (hd : ys[j]?.getD 0 < zs[j]?.getD 0) => diff_lt (show (1 : Int) < 4294967296 by omega) HY.out HZ.out j hj2 hj1 (show ys.drop (j + 1) = zs.drop (j + 1) from Eq.symm HD) (by rw [← hx, ← hy]; exact hd))
        have D3 := Lib.hid (fun (hd : zs[j]?.getD 0 = ys[j]?.getD 0) => show zs.drop j = ys.drop j by
          rw [List.drop_eq_getElem_cons hj1, List.drop_eq_getElem_cons hj2, ← hx, ← hy, hd, show zs.drop (j + 1) = ys.drop (j + 1) from HD])
        obtain ⟨x, hxe⟩ : ∃ x, x = zs[j]?.getD 0 := ⟨_, rfl⟩
        obtain ⟨y, hye⟩ : ∃ y, y = ys[j]?.getD 0 := ⟨_, rfl⟩
        rw [← hxe] at c1 D1 D2 D3
        rw [← hye] at c2 D1 D2 D3
        have HC := Lib.hid (cmp_u32 x y)
        clear hc1 hc2 hx hy hxe hye
        by_cases hxy : x = y
        · have HQ := Lib.hid (D3.out hxy)
          subst hxy
          clear hj1 hj2
          go_wp2
          go_quiet (fail)
          go_wp2
          go_roundw
          case rel => exact ⟨j, _, by omega, by go_num, HQ.out, rfl⟩
          case measure => simp [intOf]
        · have hne : (x != y) = true := by rw [bne_iff_ne]; exact hxy
          obtain ⟨r, hr⟩ : ∃ r, r = cmpI' x y := ⟨_, rfl⟩
          rw [← hr] at HC
          obtain rfl : R = r := by
            rw [HR.out, hr]
            unfold cmpI'
            rcases Int.lt_or_gt_of_ne hxy with h | h
            · rw [if_pos (D1.out h), if_pos h]
            · rw [if_neg (by have := D2.out h; omega), if_pos (D2.out h), if_neg (by omega), if_pos h]
          clear hj1 hj2 hr HR
          go_wp2
          go_quiet (fail)
          go_wp2_with fail
          go_quiet ((go_at_call 99; first | exact quiet_more HC.out | exact quiet_once HC.out))
          go_wp2
          go_ret
          exact ⟨rfl, _, (by rw [World.drewN_drewN, World.drewN_drewN])⟩
  · obtain rfl : R = 1 := by rw [HR.out, cmpI', if_neg (by have := L2.out hgt; omega), if_pos (L2.out hgt)]
    have hne : ((n : Int) != (m : Int)) = true := by rw [bne_iff_ne]; omega
    have HC := Lib.hid (cmp_int n m w)
    rw [show cmpI' (n : Int) (m : Int) = 1 by unfold cmpI'; rw [if_neg (by omega), if_pos (by omega)]] at HC
    go_enter Tryd.func77, Tryd.ntmps77
    go_wp2_with fail
    refine HC.out.mono ?_
    rintro e w1 ⟨rfl, rfl⟩
    go_wp2_with fail
    go_ret
    exact ⟨rfl, 0, rfl⟩
end Go.Proofs.YtgfhniiidejmoaaDoor
