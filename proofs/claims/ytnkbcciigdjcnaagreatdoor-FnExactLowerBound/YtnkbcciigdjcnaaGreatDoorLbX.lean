/- LowerBound, in both packages. -/
import Derived.Test.YtnkbcciigdjcnaaGreatDoorSrcU
import Derived.Test.YtnkbcciigdjcnaaGreatDoorSrcT
import Derived.Test.YtnkbcciigdjcnaaGreatDoorObj
import Derived.Test.YtnkbcciigdjcnaaGreatDoorConI
import Derived.Test.YtnkbcciigdjcnaaGreatDoorShelf
namespace Go.Proofs.YtnkbcciigdjcnaaGreatDoor
open Go.ChangeShapes Go.WideShapes Go.ChangeAt Go.RowKit Go.Shelf
set_option linter.unusedVariables false
set_option linter.unusedSimpArgs false

/-- The largest value of a domain. -/
def high1 (d : Int) : Int := (vL d 6).getLastD 0
theorem high1_fact : ∀ n : Nat, n < 64 → 0 < n → ((Lib.bitLen n : Nat) : Int) - 1 = high1 n := by decide +kernel
theorem high1_in : ∀ n : Nat, n < 64 → 0 < n → 0 ≤ high1 n ∧ high1 n ≤ 5 := by decide +kernel
theorem vL_some : ∀ n : Nat, n < 64 → 0 < n → 1 ≤ (vL n 6).length ∧ (vL n 6)[0]?.getD 0 = low1 n ∧ (vL n 6)[(vL n 6).length - 1]?.getD 0 = high1 n := by decide +kernel
/-- The value that is best for one coefficient. -/
def bv (c d : Int) : Int := if c < 0 then high1 d else low1 d
theorem bv_in {c d : Int} (h1 : 1 ≤ d) (h2 : d ≤ 63) : 0 ≤ bv c d ∧ bv c d ≤ 5 := by
  obtain ⟨n, rfl⟩ := Int.eq_ofNat_of_zero_le (show 0 ≤ d by omega)
  unfold bv
  split
  · exact high1_in n (by omega) (by omega)
  · exact low_fact n (by omega) (by omega)
def lbL (o ds : List Int) : List Int := List.zipWith bv o ds
theorem lbL_at {o ds : List Int} {k : Nat} (h1 : k < o.length) (h2 : k < ds.length) : (lbL o ds)[k]?.getD 0 = bv (o[k]?.getD 0) (ds[k]?.getD 0) := by
  unfold lbL
  rw [List.getElem?_zipWith, List.getElem?_eq_getElem h1, List.getElem?_eq_getElem h2]
  rfl
theorem lbL_len {o ds : List Int} (h : o.length = ds.length) : (lbL o ds).length = ds.length := by unfold lbL; rw [List.length_zipWith]; omega
theorem lbL_small {o ds : List Int} (h : o.length = ds.length) (hs : Small ds 1 63) : Small (lbL o ds) 0 5 := by
  intro j hj
  rw [lbL_len h] at hj
  rw [lbL_at (by omega) hj]
  have := hs j hj
  exact bv_in this.1 this.2
theorem small_one {ds : List Int} (hs : Small ds 0 63) (he : emptyB ds = false) : Small ds 1 63 := by
  intro j hj
  have h := hs j hj
  have hm : ds[j]?.getD 0 ∈ ds := by rw [List.getElem?_eq_getElem hj]; exact List.getElem_mem hj
  have hne : ds[j]?.getD 0 ≠ 0 := by
    intro e
    rw [e] at hm
    simp [emptyB, hm] at he
  omega

/-- Whether there is a bound, and the bound. -/
def lbB (m : Mod) (o : List Int) : Bool := vmB m && (decide (o.length = m.doms.length) && allB o (-9) 9) && !emptyB (proL m.cons m.doms)
def lbN (m : Mod) (o : List Int) : Int := if lbB m o then linS o (lbL o (proL m.cons m.doms)) m.doms.length else 0

set_option maxRecDepth 100000 in
set_option maxHeartbeats 1000000 in
theorem iBds_any (n : Nat) (w : World) (h : n < 64) (h0 : 0 < n) (hT : Tab64 w) :
    Calls Tryz.prog 65 #[.int .i64 n] w fun e w' => e = .returned (.tuple #[.int .i64 (low1 n), .int .i64 (high1 n)]) ∧ w = w' := by
  have hv : wiB (n : Int) 0 63 = true := wiB_true (by omega) (by omega)
  have hb : ((n : Int) == 0) = false := by simp; omega
  have hH := Lib.hid (high1_fact n h h0)
  have HT := Lib.hid hT
  have hbl : Lib.bitLen n ≤ 64 := by have : ∀ n : Nat, n < 64 → Lib.bitLen n ≤ 64 := by decide +kernel
                                     exact this n h
  clear hT
  go_enter Tryz.func65, Tryz.ntmps65
  go_wp2_with fail
  refine (ivalid_any _ _).mono ?_
  rintro e w' ⟨rfl, rfl⟩
  go_wp2_with (first
    | (go_at_call 71; refine (tz0_any n _ h h0 HT.out).mono ?_; rintro e w' ⟨rfl, rfl⟩)
    | (go_at_call 89; refine (Tryz.bits_Len n _ (by omega) (by omega)).mono ?_; rintro e w' ⟨rfl, rfl⟩))
  go_ret2
  exact ⟨by rw [← hH.out]; rfl, rfl⟩

set_option maxRecDepth 100000 in
set_option maxHeartbeats 4000000 in
theorem least_any (ov dv : Value) (o ds : List Int) (w : World) (ho : RdInts w ov o) (hd : RdInts w dv ds) (hl : o.length = ds.length) (hn4 : ds.length ≤ 4) (ha : Small o (-9) 9) (hv : Small ds 1 63) (hT : Tab64 w) :
    Calls Tryz.prog 41 #[ov, dv] w fun e w' => e = .returned (.int .i64 (linS o (lbL o ds) ds.length)) ∧ w = w' := by
  obtain ⟨ax, cx, ev, -⟩ := id hd
  obtain ⟨ao, co, eo, -⟩ := id ho
  rw [ev] at hd ⊢
  rw [eo] at ho ⊢
  have HX := Lib.hid hd
  have HA := Lib.hid ho
  have HT := Lib.hid hT
  obtain ⟨n, hn⟩ : ∃ n, n = ds.length := ⟨_, rfl⟩
  have HN := Lib.hid hn
  have HS := Lib.hid (linS_le ha (lbL_small hl hv) (by rw [lbL_len hl]; exact hl))
  have HLL := Lib.hid (lbL_len hl)
  have HAL := Lib.hid ha
  have HVL := Lib.hid hv
  rw [← hn] at HX hl HLL ⊢
  have HLN := Lib.hid hl
  rw [hl] at HA ⊢
  have hca := (rdInts_cap HA.out).2
  have hcx := (rdInts_cap HX.out).2
  have hn5 : n ≤ 4 := by have := HN.out; omega
  clear ho hd eo ev hn hl hn4 ha hv hT
  go_enter Tryz.func41, Tryz.ntmps41
  go_wp2
  go_loopw [5, 12] (fun s i wr => ∃ k : Nat, k ≤ n ∧ i = .int .i64 k ∧ s = .int .i64 (linS o (lbL o ds) k) ∧ wr = w) (fun _ i _ => n - (intOf i).toNat)
  case atStart => exact ⟨0, Nat.zero_le _, rfl, rfl, rfl⟩
  case round =>
    obtain ⟨k, hk, rfl, rfl, rfl⟩ := hrel
    have s1 := HS.out k (by have := HLL.out; omega)
    by_cases hlt : k < n
    · obtain ⟨b1, o1, rfl, q1⟩ := rdInts_at HA.out hlt
      obtain ⟨b2, o2, rfl, q2⟩ := rdInts_at HX.out hlt
      have a1 := HAL.out k (by have := HN.out; have := HLN.out; omega)
      have a2 := HVL.out k (by have := HN.out; omega)
      have a3 := bv_in (c := o[k]?.getD 0) a2.1 a2.2
      have HE : Hid (linS o (lbL o ds) (k + 1) = linS o (lbL o ds) k + o[k]?.getD 0 * bv (o[k]?.getD 0) (ds[k]?.getD 0)) := Lib.hid (by rw [← lbL_at (by have := HN.out; have := HLN.out; omega) (by have := HN.out; omega)]; rfl)
      obtain ⟨z, hz⟩ : ∃ z, z = linS o (lbL o ds) k := ⟨_, rfl⟩
      rw [← hz] at s1 HE ⊢
      obtain ⟨c, hc⟩ : ∃ c, c = o[k]?.getD 0 := ⟨_, rfl⟩
      rw [← hc] at a1 a3 HE q1
      obtain ⟨d, hd⟩ := Int.eq_ofNat_of_zero_le (show 0 ≤ ds[k]?.getD 0 by omega)
      rw [hd] at a2 a3 HE q2
      have m1 := mul_small a1.1 a1.2 a3.1 a3.2
      clear hz hc hd
      by_cases hneg : c < 0
      · have e1 : bv c d = high1 d := if_pos hneg
        rw [e1] at m1 a3 HE
        clear e1
        go_wp2_with (go_at_call 65; refine (iBds_any d _ (by omega) (by omega) HT.out).mono ?_; rintro e w' ⟨rfl, rfl⟩)
        go_roundw
        case rel => exact ⟨k + 1, by omega, by go_num, by rw [HE.out], trivial⟩
        case measure => simp [intOf]; omega
      · have e1 : bv c d = low1 d := if_neg hneg
        rw [e1] at m1 a3 HE
        clear e1
        go_wp2_with (go_at_call 65; refine (iBds_any d _ (by omega) (by omega) HT.out).mono ?_; rintro e w' ⟨rfl, rfl⟩)
        go_roundw
        case rel => exact ⟨k + 1, by omega, by go_num, by rw [HE.out], trivial⟩
        case measure => simp [intOf]; omega
    · obtain rfl : k = n := by omega
      go_wp2
      go_ret
      exact ⟨rfl, rfl⟩

/-- Two results: a number and a truth value. -/
def IBPost (z : Int) (b : Bool) (w : World) : Ending → World → Prop := fun e w' => e = .returned (.tuple #[.int .i64 z, .bool b]) ∧ Below w.heap.size w w'
theorem ret_ib {a z : Int} {c b : Bool} (h : a = z) (h2 : c = b) : Ending.returned (.tuple #[.int .i64 a, .bool c]) = .returned (.tuple #[.int .i64 z, .bool b]) := by rw [h, h2]
theorem lb_no {m : Mod} {o : List Int} (h : lbB m o = false) : lbN m o = 0 := by unfold lbN; rw [h]; rfl

set_option maxRecDepth 100000 in
set_option maxHeartbeats 4000000 in
theorem iLB_any (m : Mod) (v ov : Value) (o : List Int) (w : World) (h : RdModel w v m) (hm : ModLe m 1048576) (ho : RdInts w ov o) (hT : Tab64 w) :
    Calls Tryz.prog 12 #[v, ov] w (IBPost (lbN m o) (lbB m o) w) := by
  unfold IBPost
  obtain ⟨a1, a2, c1, c2, rfl, g1, g2⟩ := rdModel_slices h
  obtain ⟨ao, co, eo, -⟩ := id ho
  rw [eo] at ho ⊢
  obtain ⟨W1, hW1⟩ : ∃ W1, w.alloc (.cells #[.slice a1 m.doms.length c1, .slice a2 m.cons.length c2] 31) = W1 := ⟨_, rfl⟩
  have B1 : Below w.heap.size w W1 := by rw [← hW1]; exact (Below.refl _ _).alloc (Nat.le_refl _) _
  have bP : Blk2 W1 w.heap.size 31 (.slice a1 m.doms.length c1) (.slice a2 m.cons.length c2) := by rw [← hW1]; exact Blk2.new w _ _ _
  have HM := Lib.hid (h.below B1)
  have HO := Lib.hid (ho.below B1)
  have HB1 := Lib.hid B1
  have HW := Lib.hid hW1
  have HP := Lib.hid bP
  have HLE := Lib.hid hm
  have HT := Lib.hid hT
  have hcc1 := (rdInts_cap g1).1
  have hcc2 := (rdInts_cap g1).2
  have hco1 := (rdInts_cap ho).1
  have hco2 := (rdInts_cap ho).2
  clear h g1 g2 hW1 B1 bP hm hT eo ho
  obtain ⟨p0, p1⟩ := HP.out.cell
  go_enter Tryz.func12, Tryz.ntmps12
  go_wp2_with fail
  rw [HW.out]
  refine (ivm_any m _ W1 HM.out HLE.out).mono ?_
  rintro e w2 ⟨rfl, b2⟩
  have HB2 := Lib.hid (HB1.out.trans (b2.mono HB1.out.size))
  have HM2 := Lib.hid (HM.out.below b2)
  have HO2 := Lib.hid (HO.out.below b2)
  have HP2 := Lib.hid (HP.out.below b2)
  clear p0 p1 b2 HM HP HB1 HW HO
  obtain ⟨p0, p1⟩ := HP2.out.cell
  cases hv : vmB m
  · have HF : Hid (lbB m o = false) := Lib.hid (by unfold lbB; rw [hv]; rfl)
    go_wp2
    go_ret2
    exact ⟨ret_ib (lb_no HF.out).symm HF.out.symm, HB2.out⟩
  obtain ⟨s1, s2, s3, s4⟩ := doms_small' hv
  go_wp2_with fail
  refine (isObjective_any _ o m.doms.length w2 HO2.out (by omega)).mono ?_
  rintro e w2' ⟨rfl, rfl⟩
  cases he : (decide (o.length = m.doms.length) && allB o (-9) 9)
  case false =>
    have HF : Hid (lbB m o = false) := Lib.hid (by unfold lbB; rw [hv, he]; rfl)
    clear s1 s2 s3 s4
    go_wp2
    go_ret2
    exact ⟨ret_ib (lb_no HF.out).symm HF.out.symm, HB2.out⟩
  have hol : o.length = m.doms.length := by simp at he; exact he.1
  have hoa : allB o (-9) 9 = true := by simp at he; exact he.2
  have HOL := Lib.hid (And.intro hol (small_of_all hoa))
  have hpl := proL_ok (okD_mod hv)
  have HPL := Lib.hid hpl.1
  have HV := Lib.hid (And.intro hv he)
  have HS := Lib.hid (And.intro s2 s3)
  have HPM : Hid (proM m = proL m.cons m.doms) := Lib.hid (by unfold proM; rw [hv]; rfl)
  clear s1 s2 s3 s4 hol hoa hpl
  go_wp2_with fail
  refine (iPropagate_any m _ w2 HM2.out HLE.out).mono ?_
  rintro e w3 ⟨v3, rfl, o3, b3⟩
  rw [HPM.out] at o3
  have R3 := rdInts_of_own o3
  obtain ⟨a3, c3, e3, -⟩ := id R3
  rw [e3] at R3 ⊢
  have HR3 := Lib.hid R3
  have HO3 := Lib.hid (HO2.out.below b3)
  have HB3 := Lib.hid (HB2.out.trans (b3.mono HB2.out.size))
  have hc31 := (rdInts_cap R3).1
  have hc32 := (rdInts_cap R3).2
  clear o3 b3 R3 e3 HO2 HB2 HM2 HP2 p0 p1
  go_wp2_with fail
  refine (ihasEmpty_any _ _ w3 HR3.out).mono ?_
  rintro e w3' ⟨rfl, rfl⟩
  cases hq : emptyB (proL m.cons m.doms)
  case true =>
    have HF : Hid (lbB m o = false) := Lib.hid (by unfold lbB; rw [hq]; simp)
    go_wp2
    go_ret2
    exact ⟨ret_ib (lb_no HF.out).symm HF.out.symm, HB3.out⟩
  have HF : Hid (lbB m o = true) := Lib.hid (by unfold lbB; rw [HV.out.1, HV.out.2, hq]; rfl)
  have HE : Hid (lbN m o = linS o (lbL o (proL m.cons m.doms)) (proL m.cons m.doms).length) := Lib.hid (by unfold lbN; rw [HF.out, HPL.out.len]; rfl)
  have HLV := Lib.hid (least_any _ _ o (proL m.cons m.doms) w3 HO3.out HR3.out (by rw [HPL.out.len]; exact HOL.out.1) (by rw [HPL.out.len]; exact HS.out.1) HOL.out.2 (small_one HPL.out.small hq) (HT.out.below HT.out.size HB3.out))
  clear hv he
  go_wp2_with fail
  refine HLV.out.mono ?_
  rintro e w3' ⟨rfl, rfl⟩
  clear HLV
  go_wp2
  go_ret2
  exact ⟨ret_ib HE.out.symm HF.out.symm, HB3.out⟩

set_option maxRecDepth 100000 in
theorem svobj_any (m : Mod) (v ov : Value) (o : List Int) (w : World) (h : RdModel w v m) (ho : RdInts w ov o) :
    Calls Tryz.prog 32 #[v, ov] w (BoolPost (decide (o.length = m.doms.length) && allB o (-9) 9) w) := by
  obtain ⟨a1, a2, c1, c2, rfl, g1, g2⟩ := rdModel_slices h
  obtain ⟨ao, co, eo, -⟩ := id ho
  rw [eo] at ho ⊢
  obtain ⟨W1, hW1⟩ : ∃ W1, w.alloc (.cells #[.slice a1 m.doms.length c1, .slice a2 m.cons.length c2] 31) = W1 := ⟨_, rfl⟩
  have B1 : Below w.heap.size w W1 := by rw [← hW1]; exact (Below.refl _ _).alloc (Nat.le_refl _) _
  have bP : Blk2 W1 w.heap.size 31 (.slice a1 m.doms.length c1) (.slice a2 m.cons.length c2) := by rw [← hW1]; exact Blk2.new w _ _ _
  have HO := Lib.hid (ho.below B1)
  have HB1 := Lib.hid B1
  have HW := Lib.hid hW1
  obtain ⟨p0, p1⟩ := bP.cell
  have hcc1 := (rdInts_cap g1).1
  have hcc2 := (rdInts_cap g1).2
  have hco1 := (rdInts_cap ho).1
  have hco2 := (rdInts_cap ho).2
  rw [← hW1] at p0 p1
  clear h g1 g2 hW1 B1 bP eo ho
  by_cases hl : o.length = m.doms.length
  · have hd : ((o.length : Int) == (m.doms.length : Int)) = true := by simp [hl]
    have HL := Lib.hid hl
    clear hl
    go_enter Tryz.func32, Tryz.ntmps32
    go_wp2_with fail
    rw [HW.out]
    refine (allInRange_any _ o _ _ _ HO.out).mono ?_
    rintro e w' ⟨rfl, rfl⟩
    go_wp2
    go_ret
    exact ⟨ret_bool (by rw [decide_eq_true HL.out]; simp), HB1.out⟩
  · have hd : ((o.length : Int) == (m.doms.length : Int)) = false := by simp; omega
    have HL := Lib.hid hl
    clear hl
    go_enter Tryz.func32, Tryz.ntmps32
    go_wp2
    go_ret
    rw [HW.out]
    exact ⟨ret_bool (by rw [decide_eq_false HL.out]; simp), HB1.out⟩

set_option maxRecDepth 100000 in
set_option maxHeartbeats 4000000 in
theorem sLB_any (m : Mod) (v ov : Value) (o : List Int) (w : World) (h : RdModel w v m) (hm : ModLe m 1048576) (ho : RdInts w ov o) :
    Calls Tryz.prog 9 #[v, ov] w (IBPost (lbN m o) (lbB m o) w) := by
  unfold IBPost
  obtain ⟨a1, a2, c1, c2, rfl, g1, g2⟩ := rdModel_slices h
  obtain ⟨ao, co, eo, -⟩ := id ho
  rw [eo] at ho ⊢
  obtain ⟨W1, hW1⟩ : ∃ W1, w.alloc (.cells #[.slice a1 m.doms.length c1, .slice a2 m.cons.length c2] 31) = W1 := ⟨_, rfl⟩
  have B1 : Below w.heap.size w W1 := by rw [← hW1]; exact (Below.refl _ _).alloc (Nat.le_refl _) _
  have bP : Blk2 W1 w.heap.size 31 (.slice a1 m.doms.length c1) (.slice a2 m.cons.length c2) := by rw [← hW1]; exact Blk2.new w _ _ _
  have HM := Lib.hid (h.below B1)
  have HD := Lib.hid (g1.below B1)
  have HO := Lib.hid (ho.below B1)
  have HB1 := Lib.hid B1
  have HW := Lib.hid hW1
  have HP := Lib.hid bP
  have HLE := Lib.hid hm
  have hcc2 := (rdInts_cap g1).2
  have hco2 := (rdInts_cap ho).2
  clear h g1 g2 hW1 B1 bP hm eo ho
  obtain ⟨p0, p1⟩ := HP.out.cell
  go_enter Tryz.func9, Tryz.ntmps9
  go_wp2_with fail
  rw [HW.out]
  refine (svm_any m _ W1 HM.out HLE.out).mono ?_
  rintro e w2 ⟨rfl, b2⟩
  have HB2 := Lib.hid (HB1.out.trans (b2.mono HB1.out.size))
  have HM2 := Lib.hid (HM.out.below b2)
  have HD2 := Lib.hid (HD.out.below b2)
  have HO2 := Lib.hid (HO.out.below b2)
  have HP2 := Lib.hid (HP.out.below b2)
  clear p0 p1 b2 HM HP HB1 HW HO HD
  obtain ⟨p0, p1⟩ := HP2.out.cell
  cases hv : vmB m
  · have HF : Hid (lbB m o = false) := Lib.hid (by unfold lbB; rw [hv]; rfl)
    go_wp2
    go_ret2
    exact ⟨ret_ib (lb_no HF.out).symm HF.out.symm, HB2.out⟩
  obtain ⟨s1, s2, s3, s4⟩ := doms_small' hv
  go_wp2_with fail
  refine (svobj_any m _ _ o w2 HM2.out HO2.out).mono ?_
  rintro e w3 ⟨rfl, b3⟩
  have HB3 := Lib.hid (HB2.out.trans (b3.mono HB2.out.size))
  have HM3 := Lib.hid (HM2.out.below b3)
  have HD3 := Lib.hid (HD2.out.below b3)
  have HO3 := Lib.hid (HO2.out.below b3)
  have HP3 := Lib.hid (HP2.out.below b3)
  clear p0 p1 b3 HM2 HP2 HB2 HO2 HD2
  obtain ⟨p0, p1⟩ := HP3.out.cell
  cases he : (decide (o.length = m.doms.length) && allB o (-9) 9)
  case false =>
    have HF : Hid (lbB m o = false) := Lib.hid (by unfold lbB; rw [hv, he]; rfl)
    clear s1 s2 s3 s4
    go_wp2
    go_ret2
    exact ⟨ret_ib (lb_no HF.out).symm HF.out.symm, HB3.out⟩
  have hol : o.length = m.doms.length := by simp at he; exact he.1
  have hoa : allB o (-9) 9 = true := by simp at he; exact he.2
  have HOL := Lib.hid (And.intro hol (small_of_all hoa))
  have hpl := proL_ok (okD_mod hv)
  have HPL := Lib.hid hpl.1
  have HV := Lib.hid (And.intro hv he)
  have HS := Lib.hid (And.intro s2 s3)
  have HFX := Lib.hid (sfixpoint_any m _ _ m.doms w3 HM3.out HD3.out s3 s2 s1 (fun c hc => okC_mem hv hc) s4)
  clear s1 s2 s3 s4 hol hoa hpl
  go_wp2_with fail
  refine HFX.out.mono ?_
  rintro e w4 ⟨v4, rfl, o4, b4⟩
  have R4 := rdInts_of_own o4
  obtain ⟨a4, c4, e4, -⟩ := id R4
  rw [e4] at R4 ⊢
  have HR4 := Lib.hid R4
  have HO4 := Lib.hid (HO3.out.below b4)
  have HB4 := Lib.hid (HB3.out.trans (b4.mono HB3.out.size))
  have hc42 := (rdInts_cap R4).2
  clear o4 b4 R4 e4 HO3 HB3 HM3 HP3 HD3 HFX p0 p1
  go_wp2_with fail
  refine (shasEmpty_any _ _ w4 HR4.out).mono ?_
  rintro e w4' ⟨rfl, rfl⟩
  cases hq : emptyB (proL m.cons m.doms)
  case true =>
    have HF : Hid (lbB m o = false) := Lib.hid (by unfold lbB; rw [hq]; simp)
    go_wp2
    go_ret2
    exact ⟨ret_ib (lb_no HF.out).symm HF.out.symm, HB4.out⟩
  have HF : Hid (lbB m o = true) := Lib.hid (by unfold lbB; rw [HV.out.1, HV.out.2, hq]; rfl)
  have HVL := Lib.hid (small_one HPL.out.small hq)
  obtain ⟨ds, hds⟩ : ∃ ds, ds = proL m.cons m.doms := ⟨_, rfl⟩
  have hdl : ds.length = m.doms.length := by rw [hds]; exact HPL.out.len
  have HE : Hid (lbN m o = linS o (lbL o ds) ds.length) := Lib.hid (by unfold lbN; rw [HF.out, hds, HPL.out.len]; rfl)
  rw [← hds] at HVL HR4 hc42 ⊢
  obtain ⟨n, hn⟩ : ∃ n, n = ds.length := ⟨_, rfl⟩
  have hol : o.length = n := by rw [hn, hdl]; exact HOL.out.1
  have hn4 : n ≤ 4 := by rw [hn, hdl]; exact HS.out.1
  have HSM := Lib.hid (linS_le HOL.out.2 (lbL_small (by rw [hol, hn]) HVL.out) (by rw [lbL_len (by rw [hol, hn]), hol, hn]))
  have HLL := Lib.hid (show (lbL o ds).length = n by rw [lbL_len (by rw [hol, hn]), hn])
  have HN := Lib.hid hn
  have HON := Lib.hid hol
  have HAL := Lib.hid HOL.out.2
  rw [← hn] at HR4 HE hc42 ⊢
  rw [hol] at HO4 hco2 ⊢
  clear hv he hq hds hdl hn hol HV HPL HOL HS
  go_wp2
  go_loopw [7, 8] (fun s i wr => ∃ k : Nat, k ≤ n ∧ i = .int .i64 k ∧ s = .int .i64 (linS o (lbL o ds) k) ∧ Hid (Below w4.heap.size w4 wr)) (fun _ i _ => n - (intOf i).toNat)
  case atStart => exact ⟨0, Nat.zero_le _, rfl, rfl, Lib.hid (Below.refl _ _)⟩
  case round =>
    obtain ⟨k, hk, rfl, rfl, HBK⟩ := hrel
    have s1 := HSM.out k (by have := HLL.out; omega)
    by_cases hlt : k < n
    · have HOK := Lib.hid (HO4.out.below HBK.out)
      obtain ⟨b2, o2, rfl, q2⟩ := rdInts_at (HR4.out.below HBK.out) hlt
      have a1 := HAL.out k (by have := HON.out; omega)
      have a2 := HVL.out k (by have := HN.out; omega)
      have a3 := bv_in (c := o[k]?.getD 0) a2.1 a2.2
      have HE1 : Hid (linS o (lbL o ds) (k + 1) = linS o (lbL o ds) k + o[k]?.getD 0 * bv (o[k]?.getD 0) (ds[k]?.getD 0)) := Lib.hid (by rw [← lbL_at (by have := HON.out; omega) (by have := HN.out; omega)]; rfl)
      obtain ⟨z, hz⟩ : ∃ z, z = linS o (lbL o ds) k := ⟨_, rfl⟩
      rw [← hz] at s1 HE1 ⊢
      obtain ⟨c, hc⟩ : ∃ c, c = o[k]?.getD 0 := ⟨_, rfl⟩
      obtain ⟨d, hd⟩ := Int.eq_ofNat_of_zero_le (show 0 ≤ ds[k]?.getD 0 by omega)
      rw [← hc] at a1 a3 HE1
      rw [hd] at a2 a3 HE1 q2
      have m1 := mul_small a1.1 a1.2 a3.1 a3.2
      have HC := Lib.hid hc
      clear hz hc hd
      go_wp2_with fail
      refine (svals_any d _ (by omega) (by omega)).mono ?_
      rintro e w5 ⟨v5, rfl, o5, b5⟩
      obtain ⟨l1, l2, l3⟩ := vL_some d (by omega) (by omega)
      have l6 := vL_le d 6
      obtain ⟨g5, c5, e5, -, -, hc51, hc52⟩ := own_form o5 l1
      rw [e5] at o5 ⊢
      have x0 := own_int_at o5 (show 0 < _ from l1)
      have x1 := own_int_at o5 (show (vL d 6).length - 1 < _ by omega)
      rw [l2] at x0
      rw [l3] at x1
      obtain ⟨b1, o1, rfl, q1⟩ := rdInts_at (HOK.out.below b5) hlt
      rw [← HC.out] at q1
      have HB5 := Lib.hid (HBK.out.trans (b5.mono HBK.out.size))
      obtain ⟨L, hL⟩ : ∃ L, L = (vL d 6).length - 1 := ⟨_, rfl⟩
      rw [← hL] at x1
      rw [show (vL d 6).length = L + 1 by omega] at hc51 l6 ⊢
      clear l1 l2 l3 o5 b5 e5 q2 hL
      by_cases hneg : c < 0
      · have e1 : bv c d = high1 d := if_pos hneg
        rw [e1] at m1 a3 HE1
        clear e1
        go_wp2
        go_roundw
        case rel => exact ⟨k + 1, by omega, by go_num, by rw [HE1.out], HB5⟩
        case measure => simp [intOf]; omega
      · have e1 : bv c d = low1 d := if_neg hneg
        rw [e1] at m1 a3 HE1
        clear e1
        go_wp2
        go_roundw
        case rel => exact ⟨k + 1, by omega, by go_num, by rw [HE1.out], HB5⟩
        case measure => simp [intOf]; omega
    · obtain rfl : k = n := by omega
      go_wp2
      go_ret2
      exact ⟨ret_ib HE.out.symm HF.out.symm, HB4.out.trans (HBK.out.mono HB4.out.size)⟩
end Go.Proofs.YtnkbcciigdjcnaaGreatDoor
