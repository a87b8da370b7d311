/- The law of promise 29: unit propagation loses no assignment that satisfies the clause. -/
import Derived.Test.YtolfjkdkbiicmaaChP
import Derived.Test.YtolfjkdkbiicmaaLwI
namespace Go.Proofs.Ytolfjkdkbiicmaa
open Go.ChangeShapes Go.WideShapes Go.ChangeAt Go.RowKit Go.Deep Go.Shelf
set_option linter.unusedVariables false
set_option linter.unusedSimpArgs false

/-- A clause and domains that were drawn. -/
def UpDrawn (w : World) (e : Ending) (w' : World) : Prop := ∃ (cv dv : Value) (ls : List Lit) (ds : List Int), e = .returned (.tuple #[cv, dv]) ∧ RdLits w' cv ls ∧ RdInts w' dv ds ∧ ls.length ≤ 4 ∧ 1 ≤ ds.length ∧ ds.length ≤ 4 ∧ Below w.heap.size w w'

set_option maxRecDepth 100000 in
set_option maxHeartbeats 8000000 in
theorem drawUp_any (a : Option Addr) (len cap : Nat) (w : World) (h : CodeOk w.heap.size w a len cap) :
    Calls Try.prog 31 #[.slice a len cap] w (UpDrawn w) := by
  obtain ⟨i0, hi, hz0, hz1, hz2⟩ := info_parts Try.info3
  go_enter Try.func31, Try.ntmps31
  go_wp2_with fail
  refine (newReader_any w.heap.size a len cap w (Nat.le_refl _) h).mono ?_
  rintro e w1 ⟨rfl, hr, hb, hz⟩
  have HB1 := Lib.hid hb
  have HR1 := Lib.hid hr
  have HZ1 := Lib.hid hz
  clear hz h hr hb
  go_wp2_with fail
  refine (pick_dn w.heap.size w.heap.size 0 4 w1 HR1.out (by omega) (by omega) (by omega)).mono ?_
  rintro e w2 ⟨x, rfl, hx0, hx1, r2, d2⟩
  obtain ⟨k, rfl⟩ := Int.eq_ofNat_of_zero_le hx0
  have hk4 : k < 4 := by omega
  have HS2 := Lib.hid (show w.heap.size + 1 ≤ w2.heap.size by have := d2.size; have := HZ1.out; omega)
  have HB2 := Lib.hid (HB1.out.trans (d2.below (Nat.le_refl _) HB1.out.size))
  have hk1 : (1 : Int) + (k : Int) = ((k + 1 : Nat) : Int) := by omega
  have HK1 := Lib.hid hk1
  have HR2 : Hid (Rd w.heap.size w.heap.size (0 + 1) (w2.alloc (.cells #[] 3))) := Lib.hid (r2.below ((Below.refl (w.heap.size + 1) w2).alloc HS2.out _))
  have HO2 : Hid ((w2.alloc (.cells #[] 3)).ownsRow w2.heap.size 3 1 (.slice (some ⟨w2.heap.size, 0, none⟩) 0 0) 0 []) := Lib.hid (ownsRow_made w2 3)
  have HB3 : Hid (Below w.heap.size w (w2.alloc (.cells #[] 3))) := Lib.hid (HB2.out.alloc HB2.out.size _)
  clear r2 d2 hx0 hx1 HR1 hk1
  go_wp2_with fail
  rw [HK1.out]
  obtain ⟨n, hn⟩ : ∃ n, n = k + 1 := ⟨_, rfl⟩
  rw [← hn]
  have hn1 : 1 ≤ n := by omega
  have hn4 : n ≤ 4 := by omega
  clear HK1 hn hk4
  go_loopw [6, 7] (fun o i wr => ∃ (j : Nat) (ds : List Int) (q : Int), j ≤ n ∧ i = .int .i64 j ∧ 0 ≤ q ∧ q ≤ 1 + 4 * j ∧ Hid (ds.length = j) ∧ Hid (wr.ownsRow w2.heap.size 3 1 o ds.length (ds.map (Value.int .i64))) ∧ Hid (Rd w.heap.size w.heap.size q wr) ∧ Hid (Below w.heap.size w wr ∧ w2.heap.size ≤ wr.heap.size)) (fun _ i _ => n - (intOf i).toNat)
  case atStart => exact ⟨0, [], 0 + 1, Nat.zero_le _, rfl, by omega, by omega, Lib.hid rfl, HO2, HR2, Lib.hid ⟨HB3.out, by simp⟩⟩
  case round =>
    obtain ⟨j, ds, q, hj, rfl, hq0, hq1, HDL, HO, HR, HBW⟩ := hrel
    by_cases hjn : j < n
    · go_wp2_with fail
      refine (anyDomain_dn w.heap.size w.heap.size q wr HR.out (by omega) (by omega)).mono ?_
      rintro e w4 ⟨x, q', rfl, hq2, hq3, r4, d4⟩
      have hown := own_dn HO.out (by have := HS2.out; omega) d4
      have hxl : ds.length ≤ 1000 := by have := HDL.out; omega
      have hsz : w2.heap.size ≤ w4.heap.size := Nat.le_trans HBW.out.2 d4.size
      have hb4 : Below w.heap.size w w4 := HBW.out.1.trans (d4.below (Nat.le_refl _) HBW.out.1.size)
      have HR4 := Lib.hid r4
      clear r4 d4 HO HR HBW HO2 HR2 HB3
      go_wp2_with (at_builtin; refine wpList_append_own _ rfl _ _ 23 rfl w2.heap.size 3 i0 (.int .i64 0) 1 8 Try.underlying23 hi hz0 hz1 hz2 rfl (by decide) _ _ _ rfl (hown.alloc _) ⟨w4.heap.size, 0, none⟩ 1 1 [.int .i64 x] rfl rfl (cell_one_new _ _ _) (by simp [Value.oneCell']) (by unfold maxLen; omega) (by omega) (by simp; omega) ?_; intro v' w6 hown' hgrow _)
      have hge : ∀ q, Value.ownBlock _ = some q → w2.heap.size ≤ q := fun q e => (hown.lt q e).1
      have HB6 : Hid (Below w.heap.size w w6 ∧ w2.heap.size ≤ w6.heap.size) := Lib.hid ⟨(hb4.alloc hb4.size _).grown hgrow (by have := hb4.size; simp; omega) (fun q e => by have := hge q e; have := HS2.out; omega), by have := hgrow.size; simp at this; omega⟩
      have HR6 := Lib.hid (HR4.out.below (((Below.refl (w.heap.size + 1) w4).alloc (by have := HS2.out; omega) _).grown hgrow (by have := HS2.out; simp; omega) (fun q e => by have := hge q e; have := HS2.out; omega)))
      have HO6 := Lib.hid hown'
      clear hown hown' hgrow hge hsz hb4 HR4
      go_wp2
      go_roundw
      case rel => exact ⟨j + 1, ds ++ [x], q', by omega, by go_num, by omega, by omega, Lib.hid (by simp [HDL.out]), Lib.hid (by rw [List.length_append, List.map_append]; exact HO6.out), HR6, HB6⟩
      case measure => simp [intOf]; omega
    · obtain rfl : j = n := by omega
      go_wp2_with fail
      refine (anyClause_any w.heap.size w.heap.size j q wr HR.out (by omega) (by omega) (by omega)).mono ?_
      rintro e w4 ⟨cv, ls, p4, rfl, o4, hl4, hp4, hp4', r4, d4⟩
      have HO4 := Lib.hid (own_dn HO.out (by have := HS2.out; omega) d4)
      have HV4 := Lib.hid o4
      have HL4 := Lib.hid hl4
      have HB4 := Lib.hid (HBW.out.1.trans (d4.below (Nat.le_refl _) HBW.out.1.size))
      clear r4 d4 o4 hl4 HO HR HBW HO2 HR2 HB3
      obtain ⟨_, g, c, evo, _⟩ := HV4.out
      obtain ⟨xa, xc, exv, _⟩ := own_form HO4.out
      rw [evo] at HV4 ⊢
      rw [exv] at HO4 ⊢
      clear evo exv
      go_wp2
      go_ret2
      exact ⟨_, _, ls, ds, rfl, HV4.out.rd, rdInts_of_own HO4.out, HL4.out, by rw [HDL.out]; exact hn1, by rw [HDL.out]; exact hn4, HB4.out⟩

/-- The values of a list are in the domains. -/
def inK (ds xs : List Int) : Bool := (List.range xs.length).all fun i => domB (ds[i]?.getD 0) (xs[i]?.getD 0)
theorem inK_snoc (ds xs : List Int) (v : Int) : inK ds (xs ++ [v]) = (inK ds xs && domB (ds[xs.length]?.getD 0) v) := by
  unfold inK
  rw [List.length_append, List.length_singleton, List.range_succ, List.all_append]
  have : ((List.range xs.length).all fun i => domB (ds[i]?.getD 0) ((xs ++ [v])[i]?.getD 0)) = ((List.range xs.length).all fun i => domB (ds[i]?.getD 0) (xs[i]?.getD 0)) := by
    apply Bool.eq_iff_iff.2
    rw [List.all_eq_true, List.all_eq_true]
    constructor
    · intro h i hi
      have := h i hi
      rw [List.getElem?_append_left (List.mem_range.1 hi)] at this
      exact this
    · intro h i hi
      rw [List.getElem?_append_left (List.mem_range.1 hi)]
      exact h i hi
  rw [this]
  simp
theorem inK_at {ds xs : List Int} (h : inK ds xs = true) {i : Nat} (hi : i < xs.length) : domB (ds[i]?.getD 0) (xs[i]?.getD 0) = true := by
  unfold inK at h
  exact List.all_eq_true.1 h i (List.mem_range.2 hi)
theorem domB_has {d v : Int} (h : domB d v = true) : hasB d v = true := by
  unfold domB at h; rw [Bool.and_eq_true] at h; exact h.2
theorem up_rng {ls : List Lit} {ds : List Int} (hv : clB ls ds.length = true) (hd : allB ds 0 63 = true) : ∀ i, i < ds.length → wiB ((upL ls ds)[i]?.getD 0) 0 63 = true := by
  intro i hi
  have hdr := allB_at hd hi
  unfold upL
  split
  · rw [List.getElem?_replicate, if_pos hi]; rfl
  · rename_i k e
    have hk : k ∈ ls := (List.mem_filter.1 (by rw [show ls.filter (posB ds) = [k] from e]; exact List.mem_singleton.2 rfl)).1
    have hva := clB_vals hv hk
    by_cases ei : k.var.toNat = i
    · subst ei
      rw [List.getElem?_set_self hi]
      have := and_dom_rng hdr.1 hdr.2 hva.1 hva.2
      exact wiB_true this.1 this.2.1
    · rw [List.getElem?_set_ne ei]
      exact wiB_true hdr.1 hdr.2
  · exact wiB_true hdr.1 hdr.2
theorem up_all {ls : List Lit} {ds xs : List Int} (hv : clB ls ds.length = true) (hd : allB ds 0 63 = true) (hl : xs.length = ds.length) (hin : inK ds xs = true) (hc : chB ls xs = true) : inK (upL ls ds) xs = true := by
  unfold chB at hc
  simp only [Bool.and_eq_true] at hc
  have := up_kept hv hd hc.1.1.2 hl (fun i hi => domB_has (inK_at hin (by omega))) hc.2
  unfold inK
  rw [List.all_eq_true]
  intro i hi
  have hi' := List.mem_range.1 hi
  unfold domB
  rw [up_rng hv hd i (by omega), this i (by omega)]
  rfl

set_option maxRecDepth 100000 in
set_option maxHeartbeats 16000000 in
theorem law_fup (a a' : Option Addr) (len cap len' cap' : Nat) (w : World) (h : CodeOk w.heap.size w a len cap) (h' : CodeOk w.heap.size w a' len' cap') :
    Calls Try.prog 8 #[.slice a len cap, .slice a' len' cap'] w fun e w' => e = .returned (.bool true) ∧ Below w.heap.size w w' := by
  have hl0 := h.1
  have hm0 := h.2.1
  have hl1 := h'.1
  have hm1 := h'.2.1
  unfold maxLen at hm0 hm1
  have HK := Lib.hid h
  clear h h'
  by_cases hbig : 1048576 < len
  · go_enter Try.func8, Try.ntmps8
    go_wp2
    go_ret
    exact ⟨rfl, Below.refl _ _⟩
  by_cases hbig' : 1048576 < len'
  · go_enter Try.func8, Try.ntmps8
    go_wp2
    go_ret
    exact ⟨rfl, Below.refl _ _⟩
  obtain ⟨i0, hi, hz0, hz1, hz2⟩ := info_parts Try.info3
  go_enter Try.func8, Try.ntmps8
  go_wp2_with fail
  refine (drawUp_any a len cap w HK.out).mono ?_
  rintro e w1 ⟨cv, dv, ls, ds, rfl, rc, rd, hls, hd1, hd4, b1⟩
  obtain ⟨ca, cc, ec, hcc, hcm, -⟩ := id rc
  obtain ⟨da, dc, ed, -⟩ := id rd
  subst ec ed
  obtain ⟨m, hm⟩ : ∃ m, m = ls.length := ⟨_, rfl⟩
  obtain ⟨n, hn⟩ : ∃ n, n = ds.length := ⟨_, rfl⟩
  rw [← hm] at rc hls hcc ⊢
  rw [← hn] at rd hd1 hd4 ⊢
  unfold maxLen at hcm
  have hdc := (rdInts_cap rd).2
  have HN := Lib.hid hn
  have HC := Lib.hid rc
  have HD := Lib.hid rd
  have HB := Lib.hid b1
  obtain ⟨us, hus⟩ : ∃ us, us = uprL ls ds := ⟨_, rfl⟩
  have HUS := Lib.hid hus
  have HI : Hid (∀ W, RdLits W (.slice ca m cc) ls → RdInts W (.slice da n dc) ds → Calls Try.prog 32 #[.slice ca m cc, .slice da n dc] W (IntsPost us W)) := Lib.hid (fun W h1 h2 => by rw [hus]; exact iUnitPropagate_any _ _ ls ds W h1 h2)
  have HS : Hid (∀ W, RdLits W (.slice ca m cc) ls → RdInts W (.slice da n dc) ds → Calls Try.prog 33 #[.slice ca m cc, .slice da n dc] W (IntsPost us W)) := Lib.hid (fun W h1 h2 => by rw [hus]; exact sUnitPropagate_any _ _ ls ds W h1 h2)
  clear rc rd b1 hm hn hus
  go_wp2_with fail
  refine (HI.out w1 HC.out HD.out).mono ?_
  rintro e w2 ⟨v2, rfl, o2, b2⟩
  have HC2 := Lib.hid (HC.out.below b2)
  have HD2 := Lib.hid (HD.out.below b2)
  have HB2 := Lib.hid (HB.out.trans (b2.mono HB.out.size))
  obtain ⟨ua, uc, eu, huc, hum⟩ := own_form o2
  subst eu
  have HU2 := Lib.hid (rdInts_of_own o2)
  obtain ⟨p, hp⟩ : ∃ p, p = us.length := ⟨_, rfl⟩
  rw [← hp] at HU2 huc ⊢
  unfold maxLen at hum
  have HP := Lib.hid hp
  clear b2 o2 HC HD HB hp
  go_wp2_with fail
  refine (HS.out w2 HC2.out HD2.out).mono ?_
  rintro e w3 ⟨v3, rfl, o3, b3⟩
  have HC3 := Lib.hid (HC2.out.below b3)
  have HD3 := Lib.hid (HD2.out.below b3)
  have HU3 := Lib.hid (HU2.out.below b3)
  have HB3 := Lib.hid (HB2.out.trans (b3.mono HB2.out.size))
  obtain ⟨sa, sc, es, hsc, hsm⟩ := own_form o3
  subst es
  have HV3 := Lib.hid (rdInts_of_own o3)
  rw [← HP.out] at HV3 hsc ⊢
  unfold maxLen at hsm
  clear b3 o3 HC2 HD2 HU2 HB2
  go_wp2_with fail
  refine (equalInts_any _ _ us us w3 HU3.out HV3.out).mono ?_
  rintro e w4 ⟨rfl, b4⟩
  rw [decide_eq_true (rfl : us = us)]
  have HC4 := Lib.hid (HC3.out.below b4)
  have HD4 := Lib.hid (HD3.out.below b4)
  have HU4 := Lib.hid (HU3.out.below b4)
  have HB4 := Lib.hid (HB3.out.trans (b4.mono HB3.out.size))
  clear b4 HC3 HD3 HU3 HB3 HV3
  by_cases hp0 : p = 0
  · have hd : ((p : Int) == 0) = true := by simp [hp0]
    clear hp0
    go_wp2_with fail
    refine (HS.out w4 HC4.out HD4.out).mono ?_
    rintro e w5 ⟨v5, rfl, o5, b5⟩
    have HU5 := Lib.hid (HU4.out.below b5)
    have HB5 := Lib.hid (HB4.out.trans (b5.mono HB4.out.size))
    obtain ⟨sa5, sc5, es5, hsc5, hsm5⟩ := own_form o5
    subst es5
    have HV5 := Lib.hid (rdInts_of_own o5)
    rw [← HP.out] at HV5 hsc5 ⊢
    unfold maxLen at hsm5
    clear b5 o5 HC4 HD4 HU4 HB4
    go_wp2_with fail
    refine (equalInts_any _ _ us us w5 HU5.out HV5.out).mono ?_
    rintro e w6 ⟨rfl, b6⟩
    rw [decide_eq_true (rfl : us = us)]
    have HB6 := Lib.hid (HB5.out.trans (b6.mono HB5.out.size))
    clear b6 HU5 HV5 HB5
    go_wp2
    go_ret
    exact ⟨rfl, HB6.out⟩
  have hd : ((p : Int) == 0) = false := by simp [hp0]
  have HG : Hid (allB ds 0 63 = true ∧ clB ls ds.length = true ∧ us = upL ls ds ∧ p = n) := Lib.hid (by
    by_cases hk : ((wiB ds.length 1 4 && allB ds 0 63) && clB ls ds.length) = true
    · have e1 : us = upL ls ds := by rw [HUS.out]; unfold uprL; rw [if_pos hk]
      simp only [Bool.and_eq_true] at hk
      exact ⟨hk.1.2, hk.2, e1, by rw [HP.out, e1, upL_length, HN.out]⟩
    · exfalso
      apply hp0
      rw [HP.out, HUS.out]
      unfold uprL
      rw [if_neg hk]
      rfl)
  obtain rfl : p = n := HG.out.2.2.2
  clear hp0
  have hmade : Hid ((w4.alloc (.cells #[] 3)).ownsRow w4.heap.size 3 1 (.slice (some ⟨w4.heap.size, 0, none⟩) 0 0) 0 []) := Lib.hid (ownsRow_made w4 3)
  have HB0 : Hid (Below w4.heap.size w4 (w4.alloc (.cells #[] 3))) := Lib.hid ((Below.refl _ _).alloc (Nat.le_refl _) _)
  go_wp2_with fail
  go_loopw [8, 9, 10, 11] (fun o s t i wr => ∃ (j : Nat) (xs : List Int), j ≤ p ∧ i = .int .i64 j ∧ s = .bool (inK ds xs) ∧ t = .bool (inK us xs) ∧ Hid (xs.length = j) ∧ Hid (wr.ownsRow w4.heap.size 3 1 o xs.length (xs.map (Value.int .i64))) ∧ Hid (Below w4.heap.size w4 wr)) (fun _ _ _ i _ => p - (intOf i).toNat)
  case atStart => exact ⟨0, [], Nat.zero_le _, rfl, rfl, rfl, Lib.hid rfl, hmade, HB0⟩
  case round =>
    obtain ⟨j, xs, hj, rfl, rfl, rfl, HXL, HO, HBX⟩ := hrel
    by_cases hjn : j < p
    · have hown := HO.out
      have hsz := HBX.out.size
      have hxl : xs.length ≤ 1000 := by have := HXL.out; omega
      have hj0 : ¬ (j : Int) < 0 := by omega
      obtain ⟨x, hx⟩ : ∃ x : Int, x = ((len' : Int) / 2 ^ j).tmod 6 := ⟨_, rfl⟩
      have HX := Lib.hid hx
      obtain ⟨si, hsi⟩ : ∃ si, si = inK ds xs := ⟨_, rfl⟩
      obtain ⟨ti, hti⟩ : ∃ ti, ti = inK us xs := ⟨_, rfl⟩
      obtain ⟨d1, hd1'⟩ : ∃ d1, d1 = ds[j]?.getD 0 := ⟨_, rfl⟩
      obtain ⟨d2, hd2'⟩ : ∃ d2, d2 = us[j]?.getD 0 := ⟨_, rfl⟩
      have HS1 := Lib.hid (show inK ds (xs ++ [x]) = (si && domB d1 x) by rw [inK_snoc, HXL.out, hsi, hd1'])
      have HS2 := Lib.hid (show inK us (xs ++ [x]) = (ti && domB d2 x) by rw [inK_snoc, HXL.out, hti, hd2'])
      have HD1 := Lib.hid hd1'
      have HD2 := Lib.hid hd2'
      rw [← hsi, ← hti]
      clear hx hsi hti hd1' hd2'
      cases si <;> cases ti
      all_goals
        go_wp2_with (first | (at_builtin; refine wpList_append_own _ rfl _ _ 23 rfl w4.heap.size 3 i0 (.int .i64 0) 1 8 Try.underlying23 hi hz0 hz1 hz2 rfl (by decide) _ _ _ rfl (hown.alloc _) ⟨wr.heap.size, 0, none⟩ 1 1 [.int .i64 _] rfl rfl (cell_one_new _ _ _) (by simp [Value.oneCell']) (by unfold maxLen; omega) (by omega) (by simp; omega) ?_; intro v' w7 hown' hgrow _; rw [← HX.out] at hown' ⊢; have hge : ∀ q, Value.ownBlock _ = some q → w4.heap.size ≤ q := fun q e => (hown.lt q e).1; have HB7 := Lib.hid ((HBX.out.alloc HBX.out.size _).grown hgrow (by simp; omega) hge); have HO7 := Lib.hid hown'; obtain ⟨b1, o1, rfl, q1⟩ := rdInts_at (HD4.out.below HB7.out) hjn; obtain ⟨b2, o2, rfl, q2⟩ := rdInts_at (HU4.out.below HB7.out) hjn; rw [← HD1.out] at q1; rw [← HD2.out] at q2; clear hown' hgrow hge) | (go_at_call 34; refine (iDomainHas_any _ _ _).mono ?_; rintro e w' ⟨rfl, rfl⟩))
        go_roundw
      all_goals first
        | exact ⟨j + 1, xs ++ [x], by omega, by go_num, by rw [HS1.out]; rfl, by rw [HS2.out]; rfl, Lib.hid (by simp [HXL.out]), Lib.hid (by rw [List.length_append, List.map_append]; exact HO7.out), HB7⟩
        | (simp [intOf]; omega)
    · obtain rfl : j = p := by omega
      have HX7 : Hid (RdInts wr _ xs) := Lib.hid (rdInts_of_own HO.out)
      obtain ⟨xa, xc, exv, _⟩ := own_form HO.out
      rw [exv] at HX7 ⊢
      have HC7 := Lib.hid (HC4.out.below HBX.out)
      have HD7 := Lib.hid (HD4.out.below HBX.out)
      have HU7 := Lib.hid (HU4.out.below HBX.out)
      have HB7 := Lib.hid (HB4.out.trans (HBX.out.mono HB4.out.size))
      have HSUB : Hid (subB us ds = true) := Lib.hid (by
        rw [HG.out.2.2.1]
        refine subB_of (upL_length _ _) (fun i hi => up_sub HG.out.2.1 HG.out.1 i ?_)
        rw [upL_length] at hi
        exact hi)
      have HFIN : Hid (inK ds xs = true → chB ls xs = true → inK us xs = true) := Lib.hid (fun h1 h2 => by
        rw [HG.out.2.2.1]
        exact up_all HG.out.2.1 HG.out.1 (by rw [HXL.out, HN.out]) h1 h2)
      rw [HXL.out] at HX7 ⊢
      clear HC4 HD4 HU4 HB4 HBX HO exv HXL HB0 hmade
      go_wp2_with fail
      refine (isSubset_any _ _ us ds wr HU7.out HD7.out).mono ?_
      rintro e w8 ⟨rfl, b8⟩
      rw [HSUB.out]
      have HC8 := Lib.hid (HC7.out.below b8)
      have HX8 := Lib.hid (HX7.out.below b8)
      have HB8 := Lib.hid (HB7.out.trans (b8.mono HB7.out.size))
      clear b8 HC7 HD7 HU7 HX7 HB7
      cases hs : inK ds xs
      · go_wp2
        go_ret
        exact ⟨rfl, HB8.out⟩
      · go_wp2_with fail
        refine (iClauseHolds_any _ _ ls xs w8 HC8.out HX8.out).mono ?_
        rintro e w9 ⟨rfl, b9⟩
        have HB9 := Lib.hid (HB8.out.trans (b9.mono HB8.out.size))
        clear b9 HC8 HX8 HB8
        cases hc : chB ls xs
        · go_wp2
          go_ret
          exact ⟨rfl, HB9.out⟩
        · have ht := HFIN.out hs hc
          rw [ht]
          clear hs hc
          go_wp2
          go_ret
          exact ⟨rfl, HB9.out⟩
end Go.Proofs.Ytolfjkdkbiicmaa
