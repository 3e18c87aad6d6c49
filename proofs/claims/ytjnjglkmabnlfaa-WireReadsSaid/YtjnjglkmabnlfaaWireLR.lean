/- The law WireRound: its walk. -/
import Derived.Test.YtjnjglkmabnlfaaValR
import Derived.Deep.RegionHeld3
namespace Go.Proofs.Ytjnjglkmabnlfaa
open Go.RowKit
set_option linter.unusedVariables false

theorem cells_new (w : World) (t : TypeId) (cs : Array Value) (q : Nat) (hq : q = w.heap.size) : ∀ j u, cs.toList[j]? = some u → (w.alloc (.cells cs t)).cell? ((⟨q, 0, none⟩ : Addr).add j) = some u := by
  subst hq
  intro j u hu
  rw [add_lit, Nat.zero_add, cell_of_row _ _ _ _ _ _ (heap_alloc_new w _), ← hu]
  simp
theorem Desc.grownT {w w' : World} {B g : Nat} {t : TypeId} {cu : Array Value} (hg : w.grownBy w' (some g)) (hc : w.heap[g]? = some (.cells cu t (0, 0))) (h5 : t ≠ 5) (h3 : t ≠ 3) : ∀ {vs : List V} {cs : List Value}, Desc w B vs cs → Desc w' B vs cs
  | [], _, h => h
  | _ :: _, _, ⟨Ab, cb, Al, cl, rest, h1, h2, h4⟩ => ⟨Ab, cb, Al, cl, rest, h1, h2.grown hg hc h5 h3, Desc.grownT hg hc h5 h3 h4⟩
theorem OwnV.app {w w1 : World} {base k m : Nat} {o v1 : Value} {vs us : List V} {cs ds : List Value}
    (hrow : w.ownsRow base 28 5 o k cs) (hd : Desc w w.heap.size vs cs) (hl : vs.length = k) (hu : Desc w w.heap.size us ds) (hm : us.length = m)
    (hown : w1.ownsRow base 28 5 v1 (k + m) (cs ++ ds)) (hg : w.grownBy w1 o.ownBlock) : OwnV w1 base v1 (k + m) (vs ++ us) := by
  refine ⟨cs ++ ds, hown, ?_, by simp [hl, hm]⟩
  have key : ∀ {us : List V} {ds : List Value}, Desc w w.heap.size us ds → Desc w1 w.heap.size us ds := by
    intro us ds h
    rcases hrow.2 with ⟨rfl, _⟩ | ⟨g, cap, cur, rfl, _, hh, _⟩
    · exact h.below ⟨hg.os, hg.tape, hg.output, hg.size, fun i hi => hg.block i hi (by simp [Value.ownBlock])⟩
    · exact h.grown hg hh
  exact ((key hd).append (key hu)).more hg.size
/-- a reader's call leaves a row of values alone -/
theorem OwnV.reader {w w' : World} {base n p B : Nat} {v : Value} {vs : List V} {s : RS} (h : OwnV w base v n vs) (hr : RdW w p B s) (hg : w.grownBy w' (some p)) : OwnV w' base v n vs := by
  obtain ⟨cs, h1, h2, h3⟩ := h
  have hr' := hr
  obtain ⟨A', m, c, k1, _⟩ := hr'
  exact ⟨cs, Rd.own hr h1 (by decide) hg, (h2.grownT hg k1 (by decide) (by decide)).more hg.size, h3⟩
theorem VOk.reader {w w' : World} {B B' p : Nat} {v : V} {Ab Al : Option Addr} {cb cl : Nat} {s : RS} (h : VOk w B v Ab cb Al cl) (hr : RdW w p B' s) (hg : w.grownBy w' (some p)) : VOk w' B v Ab cb Al cl := by
  obtain ⟨A', m, c, k1, _⟩ := hr
  exact h.grown hg k1 (by decide) (by decide)
theorem RdW.drew {w : World} {p B : Nat} {s : RS} (h : RdW w p B s) : RdW w.drew p B s := h
theorem grown_undrew {w w' : World} {row : Option Nat} (h : w.drew.grownBy w' row) : w.grownBy w' row := ⟨h.os, h.tape, h.output, h.size, h.block⟩
theorem encVs_drop (vs : List V) (k : Nat) (h : k < vs.length) : encVs (vs.drop k) = encV vs[k] ++ encVs (vs.drop (k + 1)) := by
  unfold encVs; rw [List.drop_eq_getElem_cons h, List.flatMap_cons]
theorem good_sz {v : V} (h : v.good) : Vsz 1000 v := ⟨h.1, by have := h.2.1; have := h.2.2; omega⟩
theorem can_k {v : V} (h : v.can) : 0 ≤ v.k ∧ v.k < 6 := by
  rcases h with ⟨h1, _⟩ | ⟨h1, _⟩ | ⟨h1, _⟩ | ⟨h1 | h1, _⟩ | ⟨h1, _⟩ <;> omega
theorem encV_byte (v : V) (h : v.can) : ∀ x ∈ encV v, byteI x := by
  obtain ⟨k, u, n, b, l⟩ := v
  intro x hx
  rcases h with ⟨h1, h2, h3, h4, h5⟩ | ⟨h1, h2, h3, h4, h5⟩ | ⟨h1, h2, h3, h4, h5⟩ | ⟨h1, h2, h3, h4, h6, h5⟩ | ⟨h1, h2, h3, h4, h5, h6⟩
  all_goals simp only at h1 h2 h3 h4 h5
  · subst h1; simp only [encV, if_pos] at hx; exact encU_byte u h2.1 x hx
  · subst h1; simp only [encV] at hx; exact encU_byte _ (zig_u64 n h3).1 x (by simpa using hx)
  · subst h1
    have hx' : x = if n = 1 then 1 else 0 := by simpa [encV] using hx
    unfold byteI; split at hx' <;> omega
  · rcases h1 with rfl | rfl
    · exact encR_byte b h6 x (by simpa [encV] using hx)
    · exact encR_byte b h6 x (by simpa [encV] using hx)
  · subst h1; exact encL_byte l h6 x (by simpa [encV] using hx)
theorem encVs_byte (vs : List V) (h : ∀ v ∈ vs, v.can) : ∀ x ∈ encVs vs, byteI x := by
  intro x hx
  obtain ⟨v, hv, hx⟩ := List.mem_flatMap.1 hx
  exact encV_byte v (h v hv) x hx

/-- what a read of an encoded value leaves -/
def ReadV (p B : Nat) (v : V) (E : List Int) (w : World) (e : Ending) (w' : World) : Prop :=
  ∃ Ab cb Al cl, e = .returned (vAgg v Ab cb Al cl) ∧ VOk w' w'.heap.size v Ab cb Al cl ∧ RdW w' p B ⟨E, 0⟩ ∧ w.grownBy w' (some p)
theorem read_v (p B : Nat) (v : V) (E E' : List Int) (w : World) (h : RdW w p B ⟨E, 0⟩) (hv : v.can) (hE : E = encV v ++ E') (hl : E.length ≤ 1000000) :
    Calls Try.prog 22 #[.pointer (some ⟨p, 0, none⟩), .int .i64 v.k] w (ReadV p B v E' w) := by
  refine (read_any p B ⟨E, 0⟩ v.k w h (can_k hv) hl).mono ?_
  rintro e w' ⟨Ab, cb, Al, cl, he, hvok, hr, hg⟩
  have hrt := rdV_enc v hv E'
  rw [← hE] at hrt
  rw [hrt] at he hvok hr
  exact ⟨Ab, cb, Al, cl, he, hvok, hr, hg⟩

set_option maxHeartbeats 2000000 in
theorem wireRound_law (A : Option Addr) (n c : Nat) (zs : List Int) (u x : Int) (w : World) (hn : n ≤ c) (hc : c ≤ maxLen) (h : Sl .i64 w w.heap.size A n zs) (hz : ∀ x ∈ zs, i64 x) (hu : u64 u) (hx : i64 x) :
    Calls Try.prog 5 #[.slice A n c, .int .u64 u, .int .i64 x] w fun e w' => e = .returned (.bool true) ∧ Below w.heap.size w w' := by
  obtain ⟨i0, hi, hz0, hz1, hz2⟩ := info_parts val_info
  have HU := Lib.hid hu
  have HX := Lib.hid hx
  have HS := Lib.hid h
  have HZ := Lib.hid hz
  clear h hz hu hx
  go_enter Try.func5, Try.ntmps5
  go_wp2_with fail
  refine (vals_any A n c zs _ hn hc HS.out HZ.out).mono ?_
  rintro e w1 ⟨v, k, vs, rfl, hk, ⟨cs, hrow, hdesc, hvl⟩, hgood, hb1⟩
  obtain ⟨A1, c1, rfl, hnc, hcm⟩ := own_shape hrow
  have hr1 : k + 2 ≤ maxLen := by unfold maxLen; omega
  have hr2 : (k + 2) * 72 ≤ 140737488355328 := by omega
  have hsz1 := hb1.size
  have HD := Lib.hid hdesc
  have HV := Lib.hid hvl
  have HG := Lib.hid hgood
  have B1 := Lib.hid hb1
  clear hdesc hvl hgood hb1
  have hal : Below w1.heap.size w1 (w1.alloc (.cells #[.int .i64 0, .int .u64 u, .int .i64 0, .slice none 0 0, .slice none 0 0, .int .i64 1, .int .u64 0, .int .i64 x, .slice none 0 0, .slice none 0 0] 28)) := (Below.refl _ _).alloc (Nat.le_refl _) _
  go_wp2_with (at_builtin; refine wpList_append_own _ rfl _ _ _ rfl w.heap.size 28 i0 _ 5 72 Try.underlying25 hi hz0 hz1 hz2 rfl (by omega) _ k cs rfl (hrow.alloc _) ⟨w1.heap.size, 0, none⟩ 2 2 [.int .i64 0, .int .u64 u, .int .i64 0, .slice none 0 0, .slice none 0 0, .int .i64 1, .int .u64 0, .int .i64 x, .slice none 0 0, .slice none 0 0] rfl rfl (cells_new _ _ #[.int .i64 0, .int .u64 u, .int .i64 0, .slice none 0 0, .slice none 0 0, .int .i64 1, .int .u64 0, .int .i64 x, .slice none 0 0, .slice none 0 0] _ rfl) (by simp [Value.oneCell']) hr1 hr2 (by simp; omega) ?_; intro v2 w2 hown2 hg2 hnil2; have hov := OwnV.app (m := 2) (us := [⟨0, u, 0, [], []⟩, ⟨1, 0, x, [], []⟩]) (hrow.alloc _) ((HD.out.below hal).more hal.size) HV.out (Desc.append (Desc.one (vok_nil _ _ 0 u 0)) (Desc.one (vok_nil _ _ 1 0 x))) rfl hown2 hg2; have hbl := below_row (hal.mono hsz1) hg2 (by simp; omega) (fun g hg => (hrow.lt g hg).1); obtain ⟨A2, c2, rfl, hn2, hc2, hsl⟩ := hov.slice; clear hown2 hg2 hnil2)
  obtain ⟨us, hus⟩ : ∃ us, us = vs ++ [⟨0, u, 0, [], []⟩, ⟨1, 0, x, [], []⟩] := ⟨_, rfl⟩
  rw [← hus] at hov hsl
  have hg2 : ∀ v ∈ us, v.good := by
    intro v hv
    rw [hus] at hv
    rcases List.mem_append.1 hv with hv | hv
    · exact HG.out v hv
    · rcases List.mem_cons.1 hv with rfl | hv
      · exact good0 u HU.out
      · have : v = ⟨1, 0, x, [], []⟩ := by simpa using hv
        subst this; exact good1 x HX.out
  have hcan : ∀ v ∈ us, v.can := fun v hv => (hg2 v hv).1
  have OV := Lib.hid hov
  have SL := Lib.hid hsl
  have CAN := Lib.hid hcan
  have GD := Lib.hid hg2
  obtain ⟨N, hN⟩ : ∃ N, N = k + 2 := ⟨_, rfl⟩
  rw [← hN] at OV SL hn2 ⊢
  have hN10 : N ≤ 10 := by omega
  have HNL := Lib.hid SL.out.len
  have B2 := Lib.hid (B1.out.trans hbl)
  have hbase2 : w.heap.size ≤ w2.heap.size := B2.out.size
  clear hov hsl hcan hg2 hus hN hbl hal hrow
  refine (encode_any A2 N c2 us _ SL.out (by omega) hn2 (fun v hv => good_sz (GD.out v hv))).mono ?_
  rintro e w3 ⟨v, rfl, hown3, hb3⟩
  have hel := encVs_len 1000 us (fun v hv => good_sz (GD.out v hv))
  rw [HNL.out] at hel
  obtain ⟨L, hL⟩ : ∃ L, L = (encVs us).length := ⟨_, rfl⟩
  rw [← hL] at hel hown3
  have hL2 : L ≤ 20000 := by omega
  have HL := Lib.hid hL
  obtain ⟨A3, c3, rfl, hn3, hc3, hA3, hs3⟩ := own_sl (k := .u8) hown3
  have OV3 := Lib.hid (OV.out.below hb3)
  have B3 := Lib.hid (B2.out.trans (hb3.mono B2.out.size))
  have S3 := Lib.hid hs3
  clear hown3 hs3 hb3 hL hel
  go_wp2_with fail
  refine (r_read A3 L c3 (encVs us) _ S3.out hA3 (by omega) (encVs_byte us CAN.out)).mono ?_
  rintro e w4 ⟨p, rfl, hp, hr4, hb4⟩
  have OV4 := Lib.hid (OV3.out.below hb4)
  have B4 := Lib.hid (B3.out.trans (hb4.mono B3.out.size))
  have R4 := Lib.hid hr4
  have hpb : w.heap.size ≤ p := by have := B3.out.size; omega
  clear hb4 hr4
  go_wp2_with fail
  go_loopw [9] (fun i wr => ∃ j : Nat, j ≤ N ∧ i = .int .i64 j ∧ RdW wr p w4.heap.size ⟨encVs (us.drop j), 0⟩ ∧ OwnV wr w.heap.size (.slice A2 N c2) N us ∧ Below w.heap.size w wr) (fun i _ => N - (intOf i).toNat)
  case atStart => exact ⟨0, Nat.zero_le _, rfl, R4.out, OV4.out, B4.out⟩
  case round =>
    obtain ⟨j, hj, rfl, hrd, hov, hbel⟩ := hrel
    have RD := Lib.hid hrd
    have OV := Lib.hid hov
    have BB := Lib.hid hbel
    clear hrd hov hbel
    by_cases hlt : j < N
    · have hjv : j < us.length := by rw [HNL.out]; exact hlt
      obtain ⟨A', c', hv', _, _, hsl⟩ := OV.out.slice
      cases hv'
      obtain ⟨g, Ab, cb, Al, cl, rfl, hg, hvok, k0, k1, k2, k3, k4⟩ := hsl.at_ j hlt hjv
      have hvg := GD.out us[j] (List.getElem_mem hjv)
      have hdr := encVs_drop us j hjv
      obtain ⟨v, hv⟩ : ∃ v, v = us[j] := ⟨_, rfl⟩
      rw [← hv] at hvok k0 k1 k2 k3 k4 hvg hdr
      have hEl : (encVs (us.drop j)).length ≤ 1000000 := by
        have := RD.out.ok
        have h2 := encVs_len 1000 (us.drop j) (fun v hv => good_sz (GD.out v (List.mem_of_mem_drop hv)))
        rw [List.length_drop, HNL.out] at h2
        have : (N - j) * 1010 ≤ 10 * 1010 := Nat.mul_le_mul (by omega) (Nat.le_refl _)
        omega
      have hread := fun W (hW : RdW W p w4.heap.size ⟨encVs (us.drop j), 0⟩) => read_v p w4.heap.size v _ _ W hW hvg.1 hdr hEl
      have HREAD := Lib.hid hread
      have hgp : g ≠ p := by
        obtain ⟨cs', ho', _⟩ := OV.out
        obtain ⟨A'', m'', c'', kk, _⟩ := RD.out
        rintro rfl
        rcases ho'.2 with ⟨e1, _⟩ | ⟨g', cap, cur, e1, _, hh, _⟩
        · simp at e1
        · simp only [Value.slice.injEq, Option.some.injEq, Addr.mk.injEq, and_true, true_and] at e1
          obtain ⟨rfl, rfl⟩ := e1
          have := (show wr.heap[g]? = _ from kk).symm.trans hh
          simp at this
      have hj0 : (0 : Int) ≤ (j : Int) := by omega
      have hj1 : (j : Int) < (N : Int) := by omega
      have VO := Lib.hid hvok
      have VG := Lib.hid hvg
      clear hvok hvg hdr hv hread hsl
      go_wp2_with fail
      go_region_held3 (fun w' => w'.cell? ⟨g, j * 5, none⟩ = some (.int .i64 v.k) ∧ w'.cell? ⟨g, j * 5 + 1, none⟩ = some (.int .u64 v.u) ∧ w'.cell? ⟨g, j * 5 + 2, none⟩ = some (.int .i64 v.n) ∧ w'.cell? ⟨g, j * 5 + 3, none⟩ = some (.slice Ab v.b.length cb) ∧ w'.cell? ⟨g, j * 5 + 4, none⟩ = some (.slice Al v.l.length cl))
        (first | go_keep | exact ⟨by assumption, by assumption, by assumption, by assumption, by assumption⟩)
        (first
          | (go_at_call 22; refine (HREAD.out _ RD.out.drew).mono ?_
             rintro e w5 ⟨Ab5, cb5, Al5, cl5, rfl, hvok5, hr5, hg5⟩
             have z0 := hg5.cell (a := ⟨g, j * 5, none⟩) k0 (fun e => hgp (by injection e))
             have z1 := hg5.cell (a := ⟨g, j * 5 + 1, none⟩) k1 (fun e => hgp (by injection e))
             have z2 := hg5.cell (a := ⟨g, j * 5 + 2, none⟩) k2 (fun e => hgp (by injection e))
             have z3 := hg5.cell (a := ⟨g, j * 5 + 3, none⟩) k3 (fun e => hgp (by injection e))
             have z4 := hg5.cell (a := ⟨g, j * 5 + 4, none⟩) k4 (fun e => hgp (by injection e))
             have VO5 := Lib.hid hvok5
             have R5 := Lib.hid hr5
             have G5 := Lib.hid hg5
             have hg5' : wr.grownBy w5 (some p) := (by first | exact grown_undrew hg5 | exact hg5)
             have VA5 := Lib.hid ((VO.out.reader RD.out hg5').more hg5'.size)
             have hgl := World.block_lt_of_cell? w5 _ z0
             have G5' := Lib.hid hg5'
             clear hg5'
             clear hvok5 hr5 hg5)
          | (go_at_call 21; refine (same_eq v Ab5 Al5 Ab Al cb5 cl5 cb cl _ VO5.out.1.1 VO5.out.2.1 VA5.out.1.1 VA5.out.2.1 (by have := VG.out.2.1; omega) (by have := VG.out.2.2; omega)).mono ?_
             rintro e w6 ⟨rfl, hb6⟩
             have y0 := (hb6.cell (p := ⟨g, j * 5, none⟩) hgl).trans z0
             have y1 := (hb6.cell (p := ⟨g, j * 5 + 1, none⟩) hgl).trans z1
             have y2 := (hb6.cell (p := ⟨g, j * 5 + 2, none⟩) hgl).trans z2
             have y3 := (hb6.cell (p := ⟨g, j * 5 + 3, none⟩) hgl).trans z3
             have y4 := (hb6.cell (p := ⟨g, j * 5 + 4, none⟩) hgl).trans z4
             have B6 := Lib.hid hb6
             clear hb6))
      have hg5 := G5'.out
      have R6 := Lib.hid (Rd.below R5.out B6.out)
      have OV6 := Lib.hid ((OV.out.reader RD.out hg5).below B6.out)
      have BB6 := Lib.hid ((below_grown1 BB.out hg5 BB.out.size hpb).trans (B6.out.mono (Nat.le_trans BB.out.size hg5.size)))
      clear y0 y1 y2 y3 y4 z0 z1 z2 z3 z4 hg5
      go_wp2_with fail
      go_roundw
      case rel => exact ⟨j + 1, by omega, by go_num, R6.out, OV6.out, BB6.out⟩
      case measure => simp [intOf]; omega
    · obtain rfl : j = N := by omega
      have hR := RD.out
      rw [List.drop_of_length_le (by rw [HNL.out]; omega)] at hR
      have hR' : RdW wr p w4.heap.size ⟨[], 0⟩ := hR
      have R5 := Lib.hid hR'
      clear hR hR'
      go_wp2_with fail
      refine (r_end p _ _ _ R5.out (by simp)).mono ?_
      rintro e w7 ⟨rfl, rfl⟩
      go_wp2_with fail
      refine (lives_any _).mono ?_
      rintro e w8 ⟨rfl, hb8⟩
      go_wp2_with fail
      go_ret
      exact ⟨rfl, BB.out.trans (hb8.mono BB.out.size)⟩
end Go.Proofs.Ytjnjglkmabnlfaa
