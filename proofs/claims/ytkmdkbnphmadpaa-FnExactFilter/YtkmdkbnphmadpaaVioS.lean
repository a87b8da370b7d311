/- The reference's list of violated constraints. -/
import Derived.Test.YtkmdkbnphmadpaaSolI
namespace Go.Proofs.Ytkmdkbnphmadpaa
open Go.ChangeShapes Go.WideShapes Go.ChangeAt Go.RowKit
set_option linter.unusedVariables false
set_option linter.unusedSimpArgs false

theorem own_slice {w : World} {B : Nat} {e : TypeId} {k : Nat} {v : Value} {n : Nat} {xs : List Value} (h : w.ownsRow B e k v n xs) : ∃ a n' c, v = .slice a n' c := by
  rcases h.2 with ⟨e, _⟩ | ⟨g, cap, cur, e, _⟩
  · exact ⟨_, _, _, e⟩
  · exact ⟨_, _, _, e⟩

set_option maxRecDepth 100000 in
theorem sValidAssignment_any (m : Mod) (v xv : Value) (xs : List Int) (w : World) (h : RdModel w v m) (hx : RdInts w xv xs) :
    Calls Try.prog 71 #[v, xv] w (BoolPost (decide (xs.length = m.doms.length) && allB xs 0 5) w) := by
  obtain ⟨a1, a2, c1, c2, rfl, h1, h2⟩ := rdModel_slices h
  obtain ⟨ax, cx, ev, -⟩ := id hx
  rw [ev] at hx ⊢
  obtain ⟨W1, hW1⟩ : ∃ W1, w.alloc (.cells #[.slice a1 m.doms.length c1, .slice a2 m.cons.length c2] 39) = W1 := ⟨_, rfl⟩
  have B1 : Below w.heap.size w W1 := by rw [← hW1]; exact (Below.refl _ _).alloc (Nat.le_refl _) _
  have bP : Blk2 W1 w.heap.size 39 (.slice a1 m.doms.length c1) (.slice a2 m.cons.length c2) := by rw [← hW1]; exact Blk2.new w _ _ _
  have HX := Lib.hid (hx.below B1)
  have HB1 := Lib.hid B1
  have HW := Lib.hid hW1
  have hc1 := (rdInts_cap (h1.below B1)).2
  have hc3 := (rdInts_cap (hx.below B1)).2
  obtain ⟨p0, p1⟩ := bP.cell
  clear h h1 h2 hx hW1 B1 bP ev
  by_cases hl : xs.length = m.doms.length
  · have hd : ((xs.length : Int) == (m.doms.length : Int)) = true := by simp [hl]
    have HL := Lib.hid hl
    clear hl
    go_enter Try.func71, Try.ntmps71
    go_wp2_with fail
    rw [HW.out]
    refine (allInRange_any _ xs _ _ _ HX.out).mono ?_
    rintro e w' ⟨rfl, rfl⟩
    go_wp2
    go_ret
    exact ⟨ret_bool (by rw [decide_eq_true HL.out]; simp), HB1.out⟩
  · have hd : ((xs.length : Int) == (m.doms.length : Int)) = false := by simp; omega
    have HL := Lib.hid hl
    clear hl
    go_enter Try.func71, Try.ntmps71
    go_wp2
    rw [HW.out]
    go_ret
    exact ⟨ret_bool (by rw [decide_eq_false HL.out]; simp), HB1.out⟩

set_option maxRecDepth 100000 in
set_option maxHeartbeats 8000000 in
theorem sviolated_any (m : Mod) (v xv : Value) (xs : List Int) (w : World) (h : RdModel w v m) (hx : RdInts w xv xs) (hv : vmB m = true) (ha : (decide (xs.length = m.doms.length) && allB xs 0 5) = true) :
    Calls Try.prog 72 #[v, xv] w (IntsPost (violS m.cons xs m.cons.length) w) := by
  obtain ⟨a1, a2, c1, c2, rfl, h1, h2⟩ := rdModel_slices h
  obtain ⟨ax, cx, ev, -⟩ := id hx
  rw [ev] at hx ⊢
  obtain ⟨W1, hW1⟩ : ∃ W1, w.alloc (.cells #[.slice a1 m.doms.length c1, .slice a2 m.cons.length c2] 39) = W1 := ⟨_, rfl⟩
  have B1 : Below w.heap.size w W1 := by rw [← hW1]; exact (Below.refl _ _).alloc (Nat.le_refl _) _
  have bP : Blk2 W1 w.heap.size 39 (.slice a1 m.doms.length c1) (.slice a2 m.cons.length c2) := by rw [← hW1]; exact Blk2.new w _ _ _
  have HX := Lib.hid (hx.below B1)
  have I2 := Lib.hid (h2.below B1)
  have HB1 := Lib.hid B1
  have HW := Lib.hid hW1
  have HP := Lib.hid bP
  have hc2 := (rdCons_cap (h2.below B1)).2
  have hc3 := (rdInts_cap (hx.below B1)).2
  have ha2 := Bool.and_eq_true_iff.1 ha
  have HFT := Lib.hid (fun (c : Con) (hc : c ∈ m.cons) => fit_of hv (of_decide_eq_true ha2.1) (small_of ha2.2) hc)
  have hk6 := (doms_small hv).2.2.2
  have hsz : W1.heap.size = w.heap.size + 1 := by rw [← hW1, World.size_alloc]
  have HSZ := Lib.hid hsz
  obtain ⟨i0, hi, hz0, hz1, hz2⟩ := info_parts Try.info3
  clear h h1 h2 hx hW1 B1 bP ev ha2 ha hv hsz
  obtain ⟨k2, hk2⟩ : ∃ k2, k2 = m.cons.length := ⟨_, rfl⟩
  rw [← hk2] at HP I2 hc2 hk6 HW ⊢
  have HN2 := Lib.hid hk2
  clear hk2
  obtain ⟨p0, p1⟩ := HP.out.cell
  go_enter Try.func72, Try.ntmps72
  go_wp2
  rw [HW.out, ← HSZ.out]
  go_loopw [5, 6] (fun u i wr => ∃ j : Nat, j ≤ k2 ∧ i = .int .i64 j ∧ Hid (wr.ownsRow W1.heap.size 3 1 u (violS m.cons xs j).length ((violS m.cons xs j).map (Value.int .i64))) ∧ Hid (Below W1.heap.size W1 wr)) (fun _ i _ => k2 - (intOf i).toNat)
  case atStart => exact ⟨0, Nat.zero_le _, rfl, Lib.hid (ownsRow_made W1 3), Lib.hid ((Below.refl _ _).alloc (Nat.le_refl _) _)⟩
  case round =>
    obtain ⟨j, hj, rfl, HO, HBE⟩ := hrel
    clear p0 p1
    obtain ⟨p0, p1⟩ := (HP.out.below HBE.out).cell
    have HBw : Hid (Below w.heap.size w wr) := Lib.hid (HB1.out.trans (HBE.out.mono HB1.out.size))
    have hle := violS_le m.cons xs j
    by_cases hlt : j < k2
    · obtain ⟨b, off, c, x2, x3, x5, y2, y3, y5, rfl, hck, t0, t1, t2, t3, t4, hr⟩ := rdCons_at (I2.out.below HBE.out) hlt
      have HCK := Lib.hid hck
      have hft := HFT.out c (List.mem_of_getElem? hck)
      have HSV := Lib.hid hft.1
      have HFI := Lib.hid hft.2
      have HV4 : Hid (c.vars.length ≤ 4) := Lib.hid (by have := hft.2.four; rwa [projL_length] at this)
      have R1 : Hid (RdCon wr.drew _ c) := Lib.hid hr.drew
      have R2 : Hid (RdInts wr.drew _ xs) := Lib.hid (HX.out.below HBE.out).drew
      have HBe : Hid (Below W1.heap.size W1 wr.drew) := Lib.hid HBE.out.drew
      have HOd : Hid (wr.drew.ownsRow W1.heap.size 3 1 _ (violS m.cons xs j).length ((violS m.cons xs j).map (Value.int .i64))) := Lib.hid HO.out
      have HPd := Lib.hid ((HP.out.below HBE.out).drew)
      have HT0 := Lib.hid (show wr.drew.cell? ⟨b, off + j * 5, none⟩ = some _ from t0)
      have HT1 := Lib.hid (show wr.drew.cell? ⟨b, off + j * 5 + 1, none⟩ = some _ from t1)
      have HT2 := Lib.hid (show wr.drew.cell? ⟨b, off + j * 5 + 2, none⟩ = some _ from t2)
      have HT3 := Lib.hid (show wr.drew.cell? ⟨b, off + j * 5 + 3, none⟩ = some _ from t3)
      have HT4 := Lib.hid (show wr.drew.cell? ⟨b, off + j * 5 + 4, none⟩ = some _ from t4)
      clear hck hr hft HO HBE
      go_wp2_with fail
      go_region_with (first
        | (go_at_call 118; refine (project_any c _ _ xs _ R1.out R2.out HSV.out HV4.out).mono ?_; rintro e w8 ⟨v8, rfl, r8, b8⟩; have rc := Lib.hid (R1.out.below b8); have rx := Lib.hid r8; obtain ⟨y0, y1⟩ := (HPd.out.below b8).cell; have z0 := (b8.cell (World.block_lt_of_cell? _ _ HT0.out)).trans HT0.out; have z1 := (b8.cell (World.block_lt_of_cell? _ _ HT1.out)).trans HT1.out; have z2 := (b8.cell (World.block_lt_of_cell? _ _ HT2.out)).trans HT2.out; have z3 := (b8.cell (World.block_lt_of_cell? _ _ HT3.out)).trans HT3.out; have z4 := (b8.cell (World.block_lt_of_cell? _ _ HT4.out)).trans HT4.out; have B8 := Lib.hid (HBe.out.trans (b8.mono HBe.out.size)); have O8 := Lib.hid (own_below HOd.out b8); clear r8 b8)
        | (go_at_call 117; refine (ssat_any c _ _ _ _ rc.out rx.out HFI.out).mono ?_; rintro e w9 ⟨rfl, b9⟩; have B9 := Lib.hid (B8.out.trans (b9.mono B8.out.size)); have O9 := Lib.hid (own_below O8.out b9); clear b9))
      all_goals clear HT0 HT1 HT2 HT3 HT4 HPd R1 R2 p0 p1 t0 t1 t2 t3 t4
      all_goals cases hs : satB c (projL c xs)
      all_goals first
        | (have HS := Lib.hid (violS_no HCK.out hs)
           have hown := O9.out
           have hsz9 := B9.out.size
           go_wp2_with (at_builtin; refine wpList_append_own _ rfl _ _ 22 rfl W1.heap.size 3 i0 (.int .i64 0) 1 8 Try.underlying22 hi hz0 hz1 hz2 rfl (by decide) _ _ _ rfl (hown.alloc _) ⟨w9.heap.size, 0, none⟩ 1 1 [.int .i64 j] rfl rfl (cell_one_new _ _ _) (by simp [Value.oneCell']) (by unfold maxLen; omega) (by omega) (by simp; omega) ?_; intro v' w6 hown' hgrow _)
           have hb7 : Below W1.heap.size W1 w6 := ((B9.out.alloc (by omega) _).grown hgrow (by simp; omega) (fun q e => (hown.lt q e).1))
           go_wp2
           go_roundw
           case rel => exact ⟨j + 1, by omega, by go_num, Lib.hid (by rw [HS.out, List.length_append, List.map_append]; exact hown'), Lib.hid hb7⟩
           case measure => simp [intOf]; omega)
        | (have HS := Lib.hid (violS_yes HCK.out hs)
           go_wp2
           go_roundw
           case rel => exact ⟨j + 1, by omega, by go_num, Lib.hid (by rw [HS.out]; exact O9.out), B9⟩
           case measure => simp [intOf]; omega)
    · obtain rfl : j = k2 := by omega
      go_wp2
      go_ret
      exact ⟨_, rfl, own_mono HO.out HB1.out.size, HBw.out⟩

set_option maxRecDepth 100000 in
set_option maxHeartbeats 2000000 in
theorem sViolated_any (m : Mod) (v xv : Value) (xs : List Int) (w : World) (h : RdModel w v m) (hx : RdInts w xv xs) (hm : ModLe m 1048576) :
    Calls Try.prog 29 #[v, xv] w (IntsPost (violL m xs) w) := by
  obtain ⟨a1, a2, c1, c2, rfl, h1, h2⟩ := rdModel_slices h
  obtain ⟨ax, cx, ev, -⟩ := id hx
  rw [ev] at hx ⊢
  obtain ⟨W1, hW1⟩ : ∃ W1, w.alloc (.cells #[.slice a1 m.doms.length c1, .slice a2 m.cons.length c2] 39) = W1 := ⟨_, rfl⟩
  have B1 : Below w.heap.size w W1 := by rw [← hW1]; exact (Below.refl _ _).alloc (Nat.le_refl _) _
  have bP : Blk2 W1 w.heap.size 39 (.slice a1 m.doms.length c1) (.slice a2 m.cons.length c2) := by rw [← hW1]; exact Blk2.new w _ _ _
  have HM := Lib.hid (h.below B1)
  have HX := Lib.hid (hx.below B1)
  have HB1 := Lib.hid B1
  have HW := Lib.hid hW1
  have HP := Lib.hid bP
  have HLE := Lib.hid hm
  clear h h1 h2 hx hW1 B1 bP ev hm
  obtain ⟨p0, p1⟩ := HP.out.cell
  go_enter Try.func29, Try.ntmps29
  go_wp2_with fail
  rw [HW.out]
  refine (svm_any m _ W1 HM.out HLE.out).mono ?_
  rintro e w2 ⟨rfl, b2⟩
  have HB2 := Lib.hid (HB1.out.trans (b2.mono HB1.out.size))
  have HM2 := Lib.hid (HM.out.below b2)
  have HX2 := Lib.hid (HX.out.below b2)
  have HP2 := Lib.hid (HP.out.below b2)
  clear p0 p1 b2 HM HX HP HB1
  obtain ⟨p0, p1⟩ := HP2.out.cell
  cases hv : vmB m
  · have HF : Hid (violL m xs = []) := Lib.hid (by unfold violL; rw [hv]; rfl)
    go_wp2
    go_ret
    exact ⟨_, rfl, by rw [HF.out]; exact World.ownsRow_nil _ _ _ _, HB2.out⟩
  go_wp2_with fail
  refine (sValidAssignment_any m _ _ xs w2 HM2.out HX2.out).mono ?_
  rintro e w3 ⟨rfl, b3⟩
  have HB3 := Lib.hid (HB2.out.trans (b3.mono HB2.out.size))
  have HM3 := Lib.hid (HM2.out.below b3)
  have HX3 := Lib.hid (HX2.out.below b3)
  have HP3 := Lib.hid (HP2.out.below b3)
  clear p0 p1 b3 HM2 HX2 HP2 HB2
  obtain ⟨p0, p1⟩ := HP3.out.cell
  cases ha : (decide (xs.length = m.doms.length) && allB xs 0 5)
  · have HF : Hid (violL m xs = []) := Lib.hid (by unfold violL; rw [hv, ha]; rfl)
    go_wp2
    go_ret
    exact ⟨_, rfl, by rw [HF.out]; exact World.ownsRow_nil _ _ _ _, HB3.out⟩
  have HF : Hid (violL m xs = violS m.cons xs m.cons.length) := Lib.hid (by unfold violL; rw [hv, ha]; rfl)
  have HV := Lib.hid hv
  have HA := Lib.hid ha
  go_wp2_with fail
  refine (sviolated_any m _ _ xs w3 HM3.out HX3.out HV.out HA.out).mono ?_
  rintro e w4 ⟨v4, rfl, o4, b4⟩
  have HB4 := Lib.hid (HB3.out.trans (b4.mono HB3.out.size))
  have HO4 := Lib.hid (own_mono o4 HB3.out.size)
  obtain ⟨a4, n4, c4, e4⟩ := own_slice o4
  rw [e4] at HO4 ⊢
  clear o4 b4 p0 p1 e4
  go_wp2
  go_ret
  exact ⟨_, rfl, by rw [HF.out]; exact HO4.out, HB4.out⟩
end Go.Proofs.Ytkmdkbnphmadpaa
