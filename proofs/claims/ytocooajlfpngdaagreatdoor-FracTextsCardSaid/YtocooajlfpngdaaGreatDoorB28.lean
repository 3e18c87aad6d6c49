/- Contracts of package wide's texts: decimals. · Texts of package wide's integers: the bytes of String. · Contracts of package wide's texts: String. · Layer 3's laws: equal, wider. · Layer 3's laws: wider. · Layer 3's laws: boxes that hold integers. · Layer 3's laws: lives. -/
import Derived.Test.YtocooajlfpngdaaGreatDoorB22
import Derived.Test.YtocooajlfpngdaaGreatDoorB24
import Derived.Test.YtocooajlfpngdaaGreatDoorB26
import Derived.Test.YtocooajlfpngdaaGreatDoorB27
namespace Go.Proofs.YtocooajlfpngdaaGreatDoor
open Go.RowKit
set_option linter.unusedVariables false

theorem u8_infoT : (Tryz.prog.info? 5).map (fun i => (i.zero, i.size, i.bytes)) = some (some (.int .u8 0), 1, 1) := by kernel_rfl
/-- digits as the bytes of a text -/
def asc (ds : List Int) : List Value := ds.map (fun d => Value.int .u8 (48 + d))
theorem asc_app (a b : List Int) : asc (a ++ b) = asc a ++ asc b := List.map_append
/-- what is left of a number that is taken apart in place -/
def RestU (w0 b0 : Nat) (A : Option Addr) (n c : Nat) (zs : List Int) (R : Int) (wr : World) : Prop :=
  n ≤ c ∧ c ≤ maxLen ∧ (A = none → c = 0) ∧ zs.length = n ∧ Dig 4294967296 zs ∧ Top zs ∧ dv 4294967296 zs = R ∧ (n = 0 ∨ ∃ g, A = some ⟨g, 0, none⟩ ∧ w0 ≤ g ∧ g < b0 ∧ RowW .u32 wr g 140 zs)
def DecS (w : World) (b0 : Nat) (x : Int) (g : Nat) (v : Value) (ds : List Int) (wr : World) : Prop :=
  wr.ownsRow b0 5 1 v ds.length (asc ds) ∧ Dig 10 ds ∧ x = dv 10 ds + 10 ^ ds.length * (g : Int) ∧ Below w.heap.size w wr ∧ b0 ≤ wr.heap.size ∧ w.heap.size ≤ b0
/-- what decimals leaves: an own row of the digits, the least first -/
def DecPost (x : Int) (w : World) (e : Ending) (w' : World) : Prop :=
  ∃ v b0, e = .returned v ∧ w.heap.size ≤ b0 ∧ b0 ≤ w'.heap.size ∧ w'.ownsRow b0 5 1 v (digs 10 x).length (asc (digs 10 x)) ∧ Below w.heap.size w w'
theorem own_off {w : World} {b0 n g : Nat} {v : Value} {xs : List Value} (h : w.ownsRow b0 5 1 v n xs) (hg : g < b0) : v.ownBlock = none ∨ v.ownBlock ≠ some g := by
  rcases ho : v.ownBlock with _ | k
  · exact .inl rfl
  · right
    have := (h.lt k ho).1
    intro e
    injection e with e
    omega
theorem dec_room {x : Int} {ds : List Int} {g : Nat} (hd : Dig 10 ds) (hx : x = dv 10 ds + 10 ^ ds.length * (g : Int)) (hg : 0 < g) (hl : x < lim) : ds.length < 4990 := by
  rcases Nat.lt_or_ge ds.length 4990 with h | h
  · exact h
  · have h0 := dv_nonneg (show (0 : Int) < 10 by omega) hd
    have h1 := pow_mono' (show (0 : Int) < 10 by omega) h
    have h2 := Int.mul_le_mul_of_nonneg_left (show (1 : Int) ≤ (g : Int) by omega) (Int.le_of_lt (pow_pos' (show (0 : Int) < 10 by omega) ds.length))
    have h3 := lim_4990
    omega
theorem own_shrink {w : World} {base g k cap : Nat} {e : TypeId} {xs : List Value} (h : w.ownsRow base e 1 (.slice (some ⟨g, 0, none⟩) (k + 1) cap) (k + 1) xs) : w.ownsRow base e 1 (.slice (some ⟨g, 0, none⟩) k cap) k (xs.take k) := by
  have hl : xs.length = k + 1 := by have := h.1; simpa using this
  refine ⟨by rw [List.length_take]; omega, ?_⟩
  rcases h.2 with ⟨h0, _⟩ | ⟨g', cap', cur, hv, hb, hg, hnc, hm, hcs, ht⟩
  · cases h0
  · refine .inr ⟨g', cap', cur, ?_, hb, hg, by omega, hm, hcs, ?_⟩
    · injection hv with h1 h2 h3
      rw [h1, h3]
    · rw [← ht, List.take_take, Nat.min_eq_left (by omega), Nat.mul_one]
theorem own_cases {w : World} {base m : Nat} {e : TypeId} {v : Value} {xs : List Value} (h : w.ownsRow base e 1 v m xs) : (v = .slice none 0 0 ∧ m = 0) ∨ ∃ g cap, v = .slice (some ⟨g, 0, none⟩) m cap ∧ m ≤ cap ∧ cap ≤ maxLen := by
  rcases h.2 with ⟨h0, h1⟩ | ⟨g', cap', cur, hv, hb, hg, hnc, hm, hcs, ht⟩
  · exact .inl ⟨h0, h1⟩
  · exact .inr ⟨g', cap', hv, hnc, hm⟩
theorem asc_take (ds : List Int) (k : Nat) : (asc ds).take k = asc (ds.take k) := by unfold asc; rw [List.map_take]
set_option maxRecDepth 100000 in
set_option maxHeartbeats 1000000 in
theorem decimals_any (x : Int) (A : Option Addr) (n c : Nat) (zs : List Int) (w : World) (h : NatR w w.heap.size x A n c zs) (hx : x < lim) :
    Calls Tryz.prog 102 #[.slice A n c] w (DecPost x w) := by
  obtain ⟨i0, hi, hz0, hz1, hz2⟩ := info_parts u8_infoT
  have hn := h.fit.2 hx
  have H := Lib.hid h
  have HC := Lib.hid (clone_any A n c zs w h.1 h.2.2.2.1 h.2.1 (by omega))
  have hx0 := h.nonneg
  have HX := Lib.hid hx
  clear h hx
  go_enter Tryz.func102, Tryz.ntmps102
  go_wp2_with fail
  refine HC.out.mono ?_
  rintro e w1 ⟨A1, n1, c1, rfl, hl1, hc1, hm1, hA1, hrow, hb1⟩
  have HR := Lib.hid (show RestU w.heap.size w1.heap.size A1 n1 c1 zs x w1 from ⟨hc1, hm1, hA1, hl1, H.out.2.2.2.2.1, H.out.2.2.2.2.2.1, H.out.2.2.2.2.2.2, by
    rcases hrow with h0 | ⟨g, e1, h2, h3⟩
    · exact .inl h0
    · exact .inr ⟨g, e1, h2, h3.lt, h3⟩⟩)
  have HS := Lib.hid (show DecS w w1.heap.size x x.toNat (.slice none 0 0) [] w1 from ⟨World.ownsRow_nil _ _ _ _, Dig.nil, by show x = 0 + 10 ^ 0 * (x.toNat : Int); omega, hb1, Nat.le_refl _, hb1.size⟩)
  rw [show x = (x.toNat : Int) by omega] at HR
  have hn1 : n1 ≤ 512 := by rw [← hl1, H.out.1.len]; exact hn
  clear hl1 hc1 hm1 hA1 hrow hb1 HC
  go_wp2_with fail
  obtain ⟨b0, hb0⟩ : ∃ b0, b0 = w1.heap.size := ⟨_, rfl⟩
  rw [← hb0] at HR HS
  clear hb0
  go_loopg [3, 4] x.toNat (fun g s3 s4 wr => ∃ A n c zs ds, s4 = .slice A n c ∧ n ≤ 512 ∧ Hid (RestU w.heap.size b0 A n c zs (g : Int) wr) ∧ Hid (DecS w b0 x g s3 ds wr))
  case atStart => exact ⟨A1, n1, c1, zs, [], rfl, hn1, HR.out, HS.out⟩
  case round =>
    clear HR HS
    obtain ⟨A', n', c', zs', ds, rfl, hnb0, HR, HS⟩ := hrel
    rcases Nat.eq_zero_or_pos gk with rfl | hg
    · have hn0 : n' = 0 := by
        rcases Nat.eq_zero_or_pos n' with h0 | h0
        · exact h0
        · have h2 := top_ge (show (1 : Int) < 4294967296 by omega) HR.out.2.2.2.2.1 HR.out.2.2.2.2.2.1 (by intro e; have := HR.out.2.2.2.1; rw [e] at this; simp at this; omega)
          rw [HR.out.2.2.2.2.2.2.1] at h2
          have h3 := pow_pos' (show (0 : Int) < 4294967296 by omega) (zs'.length - 1)
          omega
      subst hn0
      have hxd : dv 10 ds = x := by have := HS.out.2.2.1; rw [this]; simp
      have HO := Lib.hid HS.out.1
      have HDD := Lib.hid HS.out.2.1
      have HB := Lib.hid (And.intro HS.out.2.2.2.1 HS.out.2.2.2.2)
      have HXD := Lib.hid hxd
      clear hxd HS HR
      go_wp2_with fail
      go_loop [3] (fun v => ∃ m : Nat, m ≤ ds.length ∧ Hid (wr.ownsRow b0 5 1 v m (asc (ds.take m))) ∧ Hid (dv 10 (ds.take m) = x)) (fun v => slLenU v)
      case atStart => exact ⟨ds.length, Nat.le_refl _, by rw [List.take_length]; exact HO.out, by rw [List.take_length]; exact HXD.out⟩
      case round =>
        clear HO HXD
        obtain ⟨m, hm, HO, HV⟩ := hrel
        have hfin : Top (ds.take m) → ∀ v, wr.ownsRow b0 5 1 v m (asc (ds.take m)) → DecPost x w (.returned v) wr := fun ht v ho => by
          have e1 := can_digs (show (1 : Int) < 10 by omega) (HDD.out.take m) ht
          rw [HV.out] at e1
          refine ⟨v, b0, rfl, HB.out.2.2, HB.out.2.1, ?_, HB.out.1⟩
          rw [← e1, List.length_take, Nat.min_eq_left hm]
          exact ho
        rcases own_cases HO.out with ⟨rfl, rfl⟩ | ⟨g, cap, rfl, hcap, hcm⟩
        · have HF := Lib.hid (hfin (by intro h; simp at h) _ HO.out)
          clear hfin
          go_wp2_with fail
          go_ret
          exact HF.out
        · rcases Nat.eq_zero_or_pos m with rfl | hm0
          · have HF := Lib.hid (hfin (by intro h; simp at h) _ HO.out)
            clear hfin
            go_wp2_with fail
            go_ret
            exact HF.out
          · obtain ⟨k, rfl⟩ : ∃ k, m = k + 1 := ⟨m - 1, by omega⟩
            have hk : k < ds.length := by omega
            have hcell := HO.out.cells (g := g) rfl k (.int .u8 (48 + ds[k]?.getD 0)) (by
              unfold asc
              rw [List.getElem?_map, List.getElem?_take, if_pos (by omega), List.getElem?_eq_getElem hk]; rfl)
            rw [add_lit, Nat.zero_add] at hcell
            have hlk : ((k + 1 : Nat) : Int) - 1 = (k : Int) := by omega
            have hkm : k < 9223372036854775807 := by unfold maxLen at hcm; omega
            by_cases hz : ds[k]?.getD 0 = 0
            · have HO2 := Lib.hid (own_shrink HO.out)
              rw [asc_take, List.take_take, Nat.min_eq_left (by omega)] at HO2
              have HV2 := Lib.hid (show dv 10 (ds.take k) = x from by rw [← strip_step 10 ds k hz]; exact HV.out)
              rw [hz] at hcell
              clear hfin HO HV
              go_wp2_with fail
              exact ⟨⟨k, by omega, HO2.out, HV2.out⟩, by simp [slLenU]⟩
            · have hne : ((48 + ds[k]?.getD 0 : Int) == 48) = false := by rw [beq_eq_false_iff_ne]; omega
              have HF := Lib.hid (hfin (by
                intro h
                rw [List.getLast?_eq_getElem?, List.length_take, Nat.min_eq_left (by omega), List.getElem?_take, if_pos (by omega), show k + 1 - 1 = k by omega] at h
                rw [h] at hz
                exact hz rfl) _ HO.out)
              have hne2 : (ds[k]?.getD 0 == 0) = false := beq_eq_false_iff_ne.2 hz
              obtain ⟨d, hd⟩ : ∃ d, d = ds[k]?.getD 0 := ⟨_, rfl⟩
              rw [← hd] at hne hne2 hcell hz
              clear hfin HO HV hd
              go_wp2_with fail
              go_ret
              exact HF.out
    · have hn0 : 0 < n' := by
        rcases Nat.eq_zero_or_pos n' with rfl | h0
        · have e1 : zs' = [] := List.length_eq_zero_iff.1 HR.out.2.2.2.1
          have e2 := HR.out.2.2.2.2.2.2.1
          rw [e1] at e2
          have : (0 : Int) = (gk : Int) := e2
          omega
        · exact h0
      obtain ⟨g1, rfl, hg1, hg2, hrow⟩ : ∃ g, A' = some ⟨g, 0, none⟩ ∧ w.heap.size ≤ g ∧ g < b0 ∧ RowW .u32 wr g 140 zs' := by
        rcases HR.out.2.2.2.2.2.2.2 with h0 | h1
        · omega
        · exact h1
      have hnb : n' ≤ 100000 := by omega
      have HQ := Lib.hid (divideBy_any g1 n' c' 1000000000 zs' wr hrow HR.out.2.2.2.1 hnb HR.out.2.2.2.2.1 (by omega) (by omega))
      clear hrow
      go_wp2_with fail
      refine HQ.out.mono ?_
      rintro e w2 ⟨r, L, rfl, hL, hgr, hI⟩
      have HO := Lib.hid (HS.out.1.kept hgr (own_off HS.out.1 hg2))
      have HL := Lib.hid hL
      have HI := Lib.hid hI
      have HB := Lib.hid (HS.out.2.2.2.1.grown hgr HS.out.2.2.2.1.size (fun k hk => by cases hk; exact hg1))
      have hb02 : b0 ≤ w2.heap.size := Nat.le_trans HS.out.2.2.2.2.1 hgr.size
      have r0 := hI.2.2.1
      have r1 := hI.2.2.2.1
      clear hL hgr hI HQ
      have hroom := dec_room HS.out.2.1 HS.out.2.2.1 hg HX.out
      go_wp2_with fail
      go_loopw [3, 5, 15] (fun v q iv wi => ∃ (j : Nat) (es : List Int) (qq : Int), iv = .int .i64 j ∧ j ≤ 9 ∧ q = .int .u32 qq ∧ 0 ≤ qq ∧ qq < 1000000000 ∧ es.length = j ∧ Hid (r = dv 10 es + 10 ^ j * qq) ∧ Hid (Dig 10 es) ∧ Hid (wi.ownsRow b0 5 1 v (ds.length + j) (asc (ds ++ es))) ∧ Hid (RowW .u32 wi g1 140 L) ∧ Hid (Below w.heap.size w wi) ∧ b0 ≤ wi.heap.size) (fun _ _ iv _ => 9 - (intOf iv).toNat)
      case atStart => exact ⟨0, [], r, rfl, by omega, rfl, r0, r1, rfl, by show r = 0 + 10 ^ 0 * r; omega, Dig.nil, by rw [List.append_nil]; exact HO.out, HL.out, HB.out, hb02⟩
      case round =>
        clear HO HL HB hb02
        rename World => wi
        obtain ⟨j, es, qq, rfl, hj9, rfl, q0, q1, hel, HV, HDE, HO, HL, HB, hbw⟩ := hrel
        by_cases hj : j < 9
        · have htm : qq.tmod 10 = qq % 10 := Int.tmod_eq_emod_of_nonneg q0
          have htd : qq.tdiv 10 = qq / 10 := Int.tdiv_eq_ediv_of_nonneg q0
          have hown := HO.out
          have E1 := Lib.hid (show asc (ds ++ es) ++ [Value.int .u8 (48 + qq % 10)] = asc (ds ++ (es ++ [qq % 10])) from by rw [← List.append_assoc, asc_app (ds ++ es)]; rfl)
          have hw1 : qq / 10 % 4294967296 = qq / 10 := by omega
          have hw2 : qq % 10 % 256 = qq % 10 := by omega
          have hw3 : (48 + qq % 10) % 256 = 48 + qq % 10 := by omega
          have HV2 := Lib.hid (show r = dv 10 (es ++ [qq % 10]) + 10 ^ (j + 1) * (qq / 10) from by
            rw [dv_snoc, hel, Int.pow_succ, HV.out]
            have := Int.mul_ediv_add_emod qq 10
            generalize (10 : Int) ^ j = P at *
            grind)
          have HDE2 := Lib.hid (HDE.out.app (Dig.cons (B := 10) (d := qq % 10) (t := []) (by omega) Dig.nil))
          have hel2 : (es ++ [qq % 10]).length = j + 1 := by rw [List.length_append, hel]; rfl
          have hr1 : ds.length + j + 1 ≤ maxLen := by unfold maxLen; omega
          have hr2 : (ds.length + j + 1) * 1 ≤ 140737488355328 := by omega
          clear HO
          go_wp2_with (at_builtin; refine wpList_append_own _ rfl _ _ _ rfl b0 5 i0 _ 1 1 Tryz.underlying76 hi hz0 hz1 hz2 rfl (by omega) _ (ds.length + j) (asc (ds ++ es)) rfl (hown.alloc _) ⟨wi.heap.size, 0, none⟩ 1 1 [.int .u8 (48 + qq % 10)] rfl rfl (cell_one_new _ _ _) (by simp [Value.oneCell']) hr1 hr2 (by simp; omega) ?_; intro v5 w5 hown5 hg5 hnil5)
          rw [E1.out] at hown5
          have hsz5 : wi.heap.size ≤ w5.heap.size := Nat.le_trans (by simp) hg5.size
          have HB5 := Lib.hid ((HB.out.alloc HB.out.size _).trans (below_of_grown hg5 (Nat.le_trans HB.out.size (by simp)) (fun g hg => Nat.le_trans HS.out.2.2.2.2.2 (hown.lt g hg).1)))
          have HL5 := Lib.hid ((HL.out.alloc _).grown hg5 (by
            intro e0
            have := (hown.lt g1 e0.symm).1
            omega))
          have O5 := Lib.hid hown5
          clear hown5 hnil5 hg5 hown
          go_wp2_with fail
          go_roundw
          case rel => exact ⟨j + 1, es ++ [qq % 10], qq / 10, by go_num, by omega, rfl, by omega, by omega, hel2, HV2.out, HDE2, O5.out, HL5.out, HB5.out, by omega⟩
          case measure => simp [intOf]; omega
        · obtain rfl : j = 9 := by omega
          have hq9 : qq = 0 := by
            have h0 := dv_nonneg (show (0 : Int) < 10 by omega) HDE.out
            have h1 := HV.out
            have h2 : (10 : Int) ^ 9 = 1000000000 := by decide
            rw [h2] at h1
            omega
          subst hq9
          have hLl : L.length = n' := HI.out.1.trans HR.out.2.2.2.1
          have hsl := HL.out.sl 0 n' b0 (by omega) hg2
          rw [List.drop_zero, List.take_of_length_le (by omega)] at hsl
          have HT := Lib.hid (trimmed_any (some ⟨g1, 0, none⟩) n' c' b0 L wi hsl HR.out.1 HR.out.2.1 (by intro h; cases h) HI.out.2.1)
          have hge : dv 4294967296 L * 1000000000 + r = (gk : Int) := by
            have e := HI.out.2.2.2.2.1
            rw [List.drop_zero, List.drop_zero, HR.out.2.2.2.2.2.2.1] at e
            exact e
          have hL0 := dv_nonneg (show (0 : Int) < 4294967296 by omega) HI.out.2.1
          have HS2 := Lib.hid (show dv 10 (ds ++ es) = dv 10 ds + 10 ^ ds.length * r ∧ x = dv 10 (ds ++ es) + 10 ^ (ds ++ es).length * (((dv 4294967296 L).toNat : Nat) : Int) from by
            have h1 : dv 10 (ds ++ es) = dv 10 ds + 10 ^ ds.length * r := by rw [dv_app, HV.out]; simp
            refine ⟨h1, ?_⟩
            rw [h1, HS.out.2.2.1, ← hge, List.length_append, hel, Int.pow_add, show (10 : Int) ^ 9 = 1000000000 by decide, show (((dv 4294967296 L).toNat : Nat) : Int) = dv 4294967296 L by omega]
            grind)
          have hlen : ds.length + 9 = (ds ++ es).length := by rw [List.length_append, hel]
          rw [hlen] at HO
          clear hsl HV
          go_wp2_with fail
          refine HT.out.mono ?_
          rintro e5 w9 ⟨k, rfl, hkL, hnk, rfl⟩
          have HN := Lib.hid hnk
          clear hnk HT
          go_wp2_with fail
          go_roundg (dv 4294967296 L).toNat
          case measure => omega
          case rel => exact ⟨some ⟨g1, 0, none⟩, k, c', L.take k, ds ++ es, rfl, by omega, ⟨by have := HR.out.1; omega, HR.out.2.1, (fun h => by cases h), HN.out.1.len, HN.out.2.2.2.2.1, HN.out.2.2.2.2.2.1, by rw [HN.out.2.2.2.2.2.2]; omega, .inr ⟨g1, rfl, hg1, hg2, HL.out.take k⟩⟩, ⟨HO.out, HS.out.2.1.app HDE.out, HS2.out.2, HB.out, hbw, HS.out.2.2.2.2.2⟩⟩
end Go.Proofs.YtocooajlfpngdaaGreatDoor
namespace Go.Proofs.YtocooajlfpngdaaGreatDoor
open Go.RowKit
set_option linter.unusedVariables false

/-- digits as the numbers of a text's bytes -/
def ascI (ds : List Int) : List Int := ds.map (fun d => 48 + d)
theorem asc_ascI (ds : List Int) : asc ds = (ascI ds).map (Value.int .u8) := by unfold asc ascI; rw [List.map_map]; rfl
theorem chr_map {ds : List Int} (h : Dig 10 ds) : (ascI ds).map (fun z => UInt8.ofNat z.toNat) = ds.map chr := by
  unfold ascI
  rw [List.map_map]
  refine List.map_congr_left fun d hd => ?_
  have := h d hd
  show UInt8.ofNat (48 + d).toNat = UInt8.ofNat (48 + d.toNat)
  congr 1
  omega
theorem str_pos {z : Int} (h : 0 < z) : strOf (ascI (digs 10 (z.natAbs : Int))).reverse = strB (decT z) := by
  unfold strOf strB decT
  rw [if_neg (by omega), if_neg (by omega), List.map_reverse, chr_map (digs_dig (by omega) _), show (z.natAbs : Int) = z by omega]
  unfold dec10
  rw [List.map_reverse]
theorem str_neg {z : Int} (h : z < 0) : strOf (ascI (digs 10 (z.natAbs : Int)) ++ [45]).reverse = strB (decT z) := by
  unfold strOf strB decT
  rw [if_neg (by omega), if_pos h, List.map_reverse, List.map_append, chr_map (digs_dig (by omega) _), show (z.natAbs : Int) = -z by omega, List.reverse_append]
  unfold dec10
  rw [List.map_reverse]
  rfl
theorem byte_ascI {ds : List Int} (h : Dig 10 ds) : ∀ x ∈ ascI ds, byteI x := fun x hx => by
  unfold ascI at hx
  obtain ⟨d, hd, rfl⟩ := List.mem_map.1 hx
  have := h d hd
  unfold byteI
  omega
end Go.Proofs.YtocooajlfpngdaaGreatDoor
namespace Go.Proofs.YtocooajlfpngdaaGreatDoor
open Go.RowKit
set_option linter.unusedVariables false

def StrU (s : ByteArray) (w : World) (e : Ending) (w' : World) : Prop := e = .returned (.string s) ∧ Below w.heap.size w w'
theorem digs_ne {x : Int} (h : 0 < x) : 0 < (digs 10 x).length := by rw [digs_pos (by omega) h]; simp
theorem row_conv {w : World} {g n c : Nat} {bs : List Int} (h : RowW .u8 w g 5 bs) (hn : bs.length = n) (hb : ∀ x ∈ bs, byteI x) : (convert 76 9 (.slice (some ⟨g, 0, none⟩) n c)).run Tryz.prog w = .ok (.string (strOf bs)) w := by
  have hs := h.sl 0 n w.heap.size (by omega) h.lt
  rw [List.drop_zero, List.take_of_length_le (by omega)] at hs
  exact conv_back w 76 9 5 g 0 n c w.heap.size bs Tryz.underlying76 Tryz.underlying5 Tryz.underlying9 hs hb
set_option maxRecDepth 100000 in
set_option maxHeartbeats 1000000 in
theorem istring_any (z : Int) (u : Value) (w : World) (hx : RepI w w.heap.size z u) (bx : (z.natAbs : Int) < lim) :
    Calls Tryz.prog 68 #[u] w (StrU (strB (decT z)) w) := by
  obtain ⟨i0, hi, hz0, hz1, hz2⟩ := info_parts u8_infoT
  obtain ⟨A, n, c, zs, rfl, hr⟩ := hx
  have hal := Lib.hid (box1_below w (.cells #[.bool (decide (z < 0)), .slice A n c] 34))
  rcases Int.lt_trichotomy z 0 with h0 | rfl | h0
  · rw [decide_eq_true h0] at hal ⊢
    have hn0 : ((n : Int) == 0) = false := by rw [beq_eq_false_iff_ne]; intro h; have := hr.zero.1 (by omega); omega
    have HDE := Lib.hid (decimals_any (z.natAbs : Int) A n c zs _ ((hr.below hal.out).more hal.out.size) bx)
    have hdl := digs_ne (show (0 : Int) < (z.natAbs : Int) by omega)
    have hd9 := digs_len (show (1 : Int) < 10 by omega) (show (0 : Int) ≤ (z.natAbs : Int) by omega) (Int.lt_of_lt_of_le bx lim_4990)
    have HST := Lib.hid (str_neg h0)
    obtain ⟨S, hS⟩ : ∃ S, S = strB (decT z) := ⟨_, rfl⟩
    rw [← hS] at HST ⊢
    obtain ⟨D, hD⟩ : ∃ D, D = digs 10 (z.natAbs : Int) := ⟨_, rfl⟩
    have HBY := Lib.hid (byte_ascI (digs_dig (B := 10) (by omega) (z.natAbs : Int)))
    unfold DecPost at HDE
    rw [← hD] at HDE HST hdl HBY hd9
    clear hr hS hD bx
    go_enter Tryz.func68, Tryz.ntmps68
    go_wp2_with fail
    refine HDE.out.mono ?_
    rintro e w2 ⟨v, b0, rfl, hb0, hbw, ho, hb⟩
    rcases own_cases ho with ⟨rfl, hl⟩ | ⟨g, cap, rfl, hcap, hcm⟩
    · omega
    rw [asc_ascI] at ho
    have hg := (ho.lt g rfl).1
    have HB2 := Lib.hid (hal.out.trans (hb.mono hal.out.size))
    have k0 := ((Blk2.new w 34 (.bool true) (.slice A n c)).below hb).c0
    have hwb : w.heap.size ≤ b0 := by have := hal.out.size; omega
    have E1 := Lib.hid (show (ascI D).map (Value.int .u8) ++ [Value.int .u8 45] = (ascI D ++ [45]).map (Value.int .u8) from by rw [List.map_append]; rfl)
    have hr1 : D.length + 1 ≤ maxLen := by unfold maxLen; omega
    have hr2 : (D.length + 1) * 1 ≤ 140737488355328 := by omega
    clear hb hb0 HDE
    go_upto_region 6 with (at_builtin; refine wpList_append_own _ rfl _ _ _ rfl b0 5 i0 _ 1 1 Tryz.underlying76 hi hz0 hz1 hz2 rfl (by omega) _ D.length ((ascI D).map (Value.int .u8)) rfl (ho.alloc _) ⟨w2.heap.size, 0, none⟩ 1 1 [.int .u8 45] rfl rfl (cell_one_new _ _ _) (by simp [Value.oneCell']) hr1 hr2 (by simp; omega) ?_; intro v5 w5 hown5 hg5 hnil5)
    rw [E1.out] at hown5
    have HB5 := Lib.hid ((HB2.out.alloc HB2.out.size _).trans (below_of_grown hg5 (Nat.le_trans HB2.out.size (by simp)) (fun g hg => Nat.le_trans hwb (ho.lt g hg).1)))
    rcases own_cases hown5 with ⟨rfl, hl⟩ | ⟨g5, cap5, rfl, hcap5, hcm5⟩
    · omega
    have hg5b := (hown5.lt g5 rfl).1
    have HRV := Lib.hid (reverse_any g5 (D.length + 1) cap5 (ascI D ++ [45]) w5 (RowW.of_own hown5) (by simp [ascI]) (by omega) (by omega))
    have hwg : w.heap.size ≤ g5 := by omega
    clear ho hown5 hg5 hnil5 HB2
    go_wp2_with fail
    refine HRV.out.mono ?_
    rintro e w3 ⟨rfl, hR3, hg3⟩
    have hcv := row_conv (n := D.length + 1) (c := cap5) hR3 (by simp [ascI]) (fun x hx => by
      rcases List.mem_append.1 (List.mem_reverse.1 hx) with h1 | h1
      · exact HBY.out x h1
      · rw [List.mem_singleton.1 h1]; unfold byteI; omega)
    rw [HST.out] at hcv
    have HB3 := Lib.hid (HB5.out.grown hg3 HB5.out.size (fun k hk => by cases hk; exact hwg))
    clear hR3 hg3 HRV
    go_wp2_with fail
    go_ret
    exact ⟨rfl, HB3.out⟩
  · obtain rfl := hr.zero.2 rfl
    rw [show strB (decT 0) = ⟨#[48]⟩ from rfl]
    clear hr bx
    go_enter Tryz.func68, Tryz.ntmps68
    go_wp2_with fail
    go_ret
    exact ⟨rfl, hal.out⟩
  · rw [decide_eq_false (show ¬ z < 0 by omega)] at hal ⊢
    have hn0 : ((n : Int) == 0) = false := by rw [beq_eq_false_iff_ne]; intro h; have := hr.zero.1 (by omega); omega
    have HDE := Lib.hid (decimals_any (z.natAbs : Int) A n c zs _ ((hr.below hal.out).more hal.out.size) bx)
    have hdl := digs_ne (show (0 : Int) < (z.natAbs : Int) by omega)
    have hd9 := digs_len (show (1 : Int) < 10 by omega) (show (0 : Int) ≤ (z.natAbs : Int) by omega) (Int.lt_of_lt_of_le bx lim_4990)
    have HST := Lib.hid (str_pos h0)
    obtain ⟨S, hS⟩ : ∃ S, S = strB (decT z) := ⟨_, rfl⟩
    rw [← hS] at HST ⊢
    obtain ⟨D, hD⟩ : ∃ D, D = digs 10 (z.natAbs : Int) := ⟨_, rfl⟩
    have HBY := Lib.hid (byte_ascI (digs_dig (B := 10) (by omega) (z.natAbs : Int)))
    unfold DecPost at HDE
    rw [← hD] at HDE HST hdl HBY hd9
    clear hr hS hD bx
    go_enter Tryz.func68, Tryz.ntmps68
    go_wp2_with fail
    refine HDE.out.mono ?_
    rintro e w2 ⟨v, b0, rfl, hb0, hbw, ho, hb⟩
    rcases own_cases ho with ⟨rfl, hl⟩ | ⟨g, cap, rfl, hcap, hcm⟩
    · omega
    rw [asc_ascI] at ho
    have hg := (ho.lt g rfl).1
    have HRV := Lib.hid (reverse_any g D.length cap (ascI D) w2 (RowW.of_own ho) (by simp [ascI]) hdl (by omega))
    have HB2 := Lib.hid (hal.out.trans (hb.mono hal.out.size))
    have k0 := ((Blk2.new w 34 (.bool false) (.slice A n c)).below hb).c0
    have hwg : w.heap.size ≤ g := by have := hal.out.size; omega
    clear ho hb hb0 HDE
    go_wp2_with fail
    refine HRV.out.mono ?_
    rintro e w3 ⟨rfl, hR3, hg3⟩
    have hcv := row_conv (n := D.length) (c := cap) hR3 (by simp [ascI]) (fun x hx => HBY.out x (List.mem_reverse.1 hx))
    rw [HST.out] at hcv
    have HB3 := Lib.hid (HB2.out.grown hg3 HB2.out.size (fun k hk => by cases hk; exact hwg))
    clear hR3 hg3 HRV
    go_wp2_with fail
    go_ret
    exact ⟨rfl, HB3.out⟩
end Go.Proofs.YtocooajlfpngdaaGreatDoor
namespace Go.Proofs.YtocooajlfpngdaaGreatDoor
open Go.RowKit
set_option linter.unusedVariables false

theorem fit_bits {z : Int} (h : (z.natAbs : Int) < lim) : Bits 60000 z := (bits_lim (Int.le_of_lt h)).mono (by omega)
/-- both integers that equal looks at, wherever its calls have led -/
def EqS (w : World) (x a : Int) (b1 b2 : Bool) (A E : Option Addr) (n c m f : Nat) (wr : World) : Prop :=
  wr.cell? ⟨w.heap.size, 0, none⟩ = some (.bool b1) ∧ wr.cell? ⟨w.heap.size, 1, none⟩ = some (.slice A n c) ∧ wr.cell? ⟨w.heap.size + 1, 0, none⟩ = some (.bool b2) ∧ wr.cell? ⟨w.heap.size + 1, 1, none⟩ = some (.slice E m f) ∧
  RepI wr wr.heap.size x (.agg #[.bool b1, .slice A n c]) ∧ RepN wr wr.heap.size a (.agg #[.bool b2, .slice E m f]) ∧ Below w.heap.size w wr
theorem EqS.drew {w : World} {x a : Int} {b1 b2 : Bool} {A E : Option Addr} {n c m f : Nat} {wr : World} (h : EqS w x a b1 b2 A E n c m f wr) : EqS w x a b1 b2 A E n c m f wr.drew :=
  ⟨h.1, h.2.1, h.2.2.1, h.2.2.2.1, h.2.2.2.2.1, h.2.2.2.2.2.1, ⟨h.2.2.2.2.2.2.os, h.2.2.2.2.2.2.tape, h.2.2.2.2.2.2.output, h.2.2.2.2.2.2.size, h.2.2.2.2.2.2.block⟩⟩
theorem EqS.below {w : World} {x a : Int} {b1 b2 : Bool} {A E : Option Addr} {n c m f : Nat} {wr w2 : World} (h : EqS w x a b1 b2 A E n c m f wr) (hb : Below wr.heap.size wr w2) : EqS w x a b1 b2 A E n c m f w2 :=
  ⟨cell_below h.1 hb, cell_below h.2.1 hb, cell_below h.2.2.1 hb, cell_below h.2.2.2.1 hb, (h.2.2.2.2.1.below hb).more hb.size, (h.2.2.2.2.2.1.below hb).more hb.size, h.2.2.2.2.2.2.trans (hb.mono h.2.2.2.2.2.2.size)⟩
end Go.Proofs.YtocooajlfpngdaaGreatDoor
namespace Go.Proofs.YtocooajlfpngdaaGreatDoor
open Go.RowKit
set_option linter.unusedVariables false

end Go.Proofs.YtocooajlfpngdaaGreatDoor
namespace Go.Proofs.YtocooajlfpngdaaGreatDoor
open Go.RowKit
set_option linter.unusedVariables false

theorem al_below (w : World) (o : Obj) : Below w.heap.size w (w.alloc o) := (Below.refl _ _).alloc (Nat.le_refl _) o
/-- block p holds the wide.Int z -/
def HoldI (W : World) (p : Nat) (z : Int) (d : Bool) (A : Option Addr) (n c : Nat) : Prop := Blk2 W p 34 (.bool d) (.slice A n c) ∧ RepI W W.heap.size z (.agg #[.bool d, .slice A n c])
/-- block p holds the reference's integer z -/
def HoldN (W : World) (p : Nat) (z : Int) (d : Bool) (A : Option Addr) (n c : Nat) : Prop := Blk2 W p 24 (.bool d) (.slice A n c) ∧ RepN W W.heap.size z (.agg #[.bool d, .slice A n c])
section
variable {W W' : World} {p : Nat} {z : Int} {d : Bool} {A : Option Addr} {n c : Nat}
theorem HoldI.below (h : HoldI W p z d A n c) (hb : Below W.heap.size W W') : HoldI W' p z d A n c := ⟨h.1.below hb, (h.2.below hb).more hb.size⟩
theorem HoldN.below (h : HoldN W p z d A n c) (hb : Below W.heap.size W W') : HoldN W' p z d A n c := ⟨h.1.below hb, (h.2.below hb).more hb.size⟩
theorem HoldI.new (h : RepI W W.heap.size z (.agg #[.bool d, .slice A n c])) : HoldI (W.alloc (.cells #[.bool d, .slice A n c] 34)) W.heap.size z d A n c :=
  ⟨Blk2.new _ _ _ _, (h.below (al_below _ _)).more (al_below _ _).size⟩
theorem HoldN.new (h : RepN W W.heap.size z (.agg #[.bool d, .slice A n c])) : HoldN (W.alloc (.cells #[.bool d, .slice A n c] 24)) W.heap.size z d A n c :=
  ⟨Blk2.new _ _ _ _, (h.below (al_below _ _)).more (al_below _ _).size⟩
theorem HoldI.c0 (h : HoldI W p z d A n c) : W.cell? ⟨p, 0, none⟩ = some (.bool d) := h.1.c0
theorem HoldI.c1 (h : HoldI W p z d A n c) : W.cell? ⟨p, 1, none⟩ = some (.slice A n c) := h.1.c1
theorem HoldN.c0 (h : HoldN W p z d A n c) : W.cell? ⟨p, 0, none⟩ = some (.bool d) := h.1.c0
theorem HoldN.c1 (h : HoldN W p z d A n c) : W.cell? ⟨p, 1, none⟩ = some (.slice A n c) := h.1.c1
end
theorem RepI.step {w w' : World} {z : Int} {v : Value} (h : RepI w w.heap.size z v) (b : Below w.heap.size w w') : RepI w' w'.heap.size z v := (h.below b).more b.size
theorem RepN.step {w w' : World} {z : Int} {v : Value} (h : RepN w w.heap.size z v) (b : Below w.heap.size w w') : RepN w' w'.heap.size z v := (h.below b).more b.size
theorem bstep {w w1 w2 : World} (h : Below w.heap.size w w1) (b : Below w1.heap.size w1 w2) : Below w.heap.size w w2 := h.trans (b.mono h.size)
theorem str_1 : strB (decT 1) = ⟨#[49]⟩ := by decide +kernel
theorem below_drew {B : Nat} {w W : World} (h : Below B w W) : Below B w W.drew := ⟨h.os, h.tape, h.output, h.size, h.block⟩
theorem fit_in {z : Int} (h : (z.natAbs : Int) < lim) : fitI z = z ∧ fitE z = 0 := by unfold fitI fitE; rw [if_pos h, if_pos h]; exact ⟨rfl, rfl⟩
theorem iparse_as (s : ByteArray) (l : List UInt8) (hl : s.data.toList = l) (w : World) (z : Int) (er : Nat) (h : parseT l = (z, er)) :
    Calls Tryz.prog 64 #[.string s] w (NewE z er w) := by
  have := iparse_any s l hl w
  rwa [h] at this
theorem istring_as (z : Int) (u : Value) (w : World) (hx : RepI w w.heap.size z u) (bx : (z.natAbs : Int) < lim) (s : ByteArray) (hs : strB (decT z) = s) :
    Calls Tryz.prog 68 #[u] w (StrU s w) := by
  have := istring_any z u w hx bx
  rwa [hs] at this
end Go.Proofs.YtocooajlfpngdaaGreatDoor
namespace Go.Proofs.YtocooajlfpngdaaGreatDoor
open Go.RowKit
set_option linter.unusedVariables false

end Go.Proofs.YtocooajlfpngdaaGreatDoor
