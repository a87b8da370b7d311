/- The reference's test of a solution. -/
import Derived.Test.YtjdbfiiaadphhaaSolA
namespace Go.Proofs.Ytjdbfiiaadphhaa
open Go.ChangeShapes Go.WideShapes Go.ChangeAt Go.RowKit
set_option linter.unusedVariables false
set_option linter.unusedSimpArgs false

set_option maxRecDepth 100000 in
set_option maxHeartbeats 4000000 in
theorem sisSolution_any (m : Mod) (v xv : Value) (xs : List Int) (w : World) (h : RdModel w v m) (hx : RdInts w xv xs) (hm : vmB m = true) (hl : xs.length = m.doms.length) :
    Calls Try.prog 124 #[v, xv] w (BoolPost (insB m.doms xs && satsB m.cons xs) w) := by
  obtain ⟨a1, a2, c1, c2, rfl, h1, h2⟩ := rdModel_slices h
  obtain ⟨ax, cx, ev, -⟩ := id hx
  rw [ev] at hx ⊢
  obtain ⟨W1, hW1⟩ : ∃ W1, w.alloc (.cells #[.slice a1 m.doms.length c1, .slice a2 m.cons.length c2] 68) = W1 := ⟨_, rfl⟩
  have B1 : Below w.heap.size w W1 := by rw [← hW1]; exact (Below.refl _ _).alloc (Nat.le_refl _) _
  have bP : Blk2 W1 w.heap.size 68 (.slice a1 m.doms.length c1) (.slice a2 m.cons.length c2) := by rw [← hW1]; exact Blk2.new w _ _ _
  have I1 := Lib.hid (h1.below B1)
  have I2 := Lib.hid (h2.below B1)
  have HX := Lib.hid (hx.below B1)
  have HB1 := Lib.hid B1
  have HW := Lib.hid hW1
  have HFT := Lib.hid (fun (hs : Small xs 0 5) (c : Con) (hc : c ∈ m.cons) => fit_of hm hl hs hc)
  have HDS := Lib.hid (doms_small hm).1
  have hn4 := (doms_small hm).2.1
  obtain ⟨n, hn⟩ : ∃ n, n = m.doms.length := ⟨_, rfl⟩
  obtain ⟨k2, hk2⟩ : ∃ k2, k2 = m.cons.length := ⟨_, rfl⟩
  have HN := Lib.hid hn
  have HN2 := Lib.hid hk2
  have HNX : Hid (xs.length = n) := Lib.hid (by omega)
  rw [← hn, ← hk2] at bP HW
  rw [← hn] at I1 hn4
  rw [← hk2] at I2
  rw [HNX.out] at HX ⊢
  have hc1 := (rdInts_cap I1.out).2
  have hc2 := (rdCons_cap I2.out).2
  have hc3 := (rdInts_cap HX.out).2
  rw [← hn, ← hk2]
  have HP := Lib.hid bP
  clear h h1 h2 hx hW1 B1 bP hn hk2 hm hl ev
  obtain ⟨p0, p1⟩ := HP.out.cell
  go_enter Try.func124, Try.ntmps124
  go_wp2
  rw [HW.out]
  go_loopw [5] (fun i wr => ∃ k nq : Nat, k ≤ n ∧ i = .int .i64 k ∧ Hid (∀ j, j < k → hasB (m.doms[j]?.getD 0) (xs[j]?.getD 0) = true) ∧ Hid (wr = W1.drewN nq)) (fun i _ => n - (intOf i).toNat)
  case atStart => exact ⟨0, 0, Nat.zero_le _, rfl, fun j hj => by omega, Lib.hid rfl⟩
  case round =>
    obtain ⟨k, nq, hk, rfl, HE, HWR⟩ := hrel
    clear p0 p1
    have HBE : Hid (Below W1.heap.size W1 wr) := Lib.hid (by rw [HWR.out]; exact below_drewN' (Below.refl _ _) _)
    have HBw : Hid (Below w.heap.size w wr) := Lib.hid (HB1.out.trans (HBE.out.mono HB1.out.size))
    obtain ⟨p0, p1⟩ := (HP.out.below HBE.out).cell
    by_cases hlt : k < n
    · obtain ⟨b, off, rfl, q1⟩ := rdInts_at (I1.out.below HBE.out) hlt
      obtain ⟨b2, o2, rfl, q2⟩ := rdInts_at (HX.out.below HBE.out) hlt
      have d1 := HDS.out k (by have := HN.out; omega)
      cases hw : hasB (m.doms[k]?.getD 0) (xs[k]?.getD 0)
      · have HF : Hid ((insB m.doms xs && satsB m.cons xs) = false) := Lib.hid (by
          have : insB m.doms xs = false := decide_eq_false (fun h => by have := h k (by have := HNX.out; omega); rw [hw] at this; cases this)
          rw [this]; rfl)
        go_wp2_with fail
        go_quiet ((go_at_call 137; exact Calls.quiet_of ((shas_any _ _ _ d1.1 d1.2).mono (fun e w' ⟨he, hw'⟩ => ⟨he, 0, hw'.symm⟩))))
        rw [hw]
        go_wp2
        go_ret
        exact ⟨ret_bool HF.out.symm, below_drewN' HBw.out _⟩
      · have HX2 := Lib.hid hw
        go_wp2_with fail
        go_quiet ((go_at_call 137; exact Calls.quiet_of ((shas_any _ _ _ d1.1 d1.2).mono (fun e w' ⟨he, hw'⟩ => ⟨he, 0, hw'.symm⟩))))
        rw [hw]
        go_wp2
        go_roundw
        case rel => exact ⟨k + 1, _, by omega, by go_num, fun j hj => by by_cases e : j = k; (· subst e; exact HX2.out); (· exact HE.out j (by omega)), Lib.hid (by rw [HWR.out, World.drewN_drewN])⟩
        case measure => simp [intOf]; omega
    · obtain rfl : k = n := by omega
      have HI : Hid (insB m.doms xs = true) := Lib.hid (decide_eq_true (fun j hj => HE.out j (by have := HNX.out; omega)))
      have HFT2 := Lib.hid (HFT.out (small_of_ins HI.out))
      clear HE HWR HFT
      go_wp2
      go_loopw [6] (fun i wr => ∃ j : Nat, j ≤ k2 ∧ i = .int .i64 j ∧ Hid (∀ (q : Nat) (c : Con), q < j → m.cons[q]? = some c → satB c (projL c xs) = true) ∧ Hid (Below W1.heap.size W1 wr)) (fun i _ => k2 - (intOf i).toNat)
      case atStart => exact ⟨0, Nat.zero_le _, rfl, fun q c hq => by omega, HBE⟩
      case round =>
        obtain ⟨j, hj, rfl, HE, HBE⟩ := hrel
        clear p0 p1 HBw
        obtain ⟨p0, p1⟩ := (HP.out.below HBE.out).cell
        have HBw : Hid (Below w.heap.size w wr) := Lib.hid (HB1.out.trans (HBE.out.mono HB1.out.size))
        by_cases hlt : j < k2
        · obtain ⟨b, off, c, x2, x3, x5, y2, y3, y5, rfl, hck, t0, t1, t2, t3, t4, hr⟩ := rdCons_at (I2.out.below HBE.out) hlt
          have HCK := Lib.hid hck
          have hft := HFT2.out c (List.mem_of_getElem? hck)
          have HSV := Lib.hid hft.1
          have HFI := Lib.hid hft.2
          have HV4 : Hid (c.vars.length ≤ 4) := Lib.hid (by have := hft.2.four; rwa [projL_length] at this)
          have R1 : Hid (RdCon wr.drew _ c) := Lib.hid hr.drew
          have R2 : Hid (RdInts wr.drew _ xs) := Lib.hid (HX.out.below HBE.out).drew
          have HBd : Hid (Below w.heap.size w wr.drew) := Lib.hid HBw.out.drew
          have HBe : Hid (Below W1.heap.size W1 wr.drew) := Lib.hid HBE.out.drew
          have HPd := Lib.hid ((HP.out.below HBE.out).drew)
          have HT0 := Lib.hid (show wr.drew.cell? ⟨b, off + j * 5, none⟩ = some _ from t0)
          have HT1 := Lib.hid (show wr.drew.cell? ⟨b, off + j * 5 + 1, none⟩ = some _ from t1)
          have HT2 := Lib.hid (show wr.drew.cell? ⟨b, off + j * 5 + 2, none⟩ = some _ from t2)
          have HT3 := Lib.hid (show wr.drew.cell? ⟨b, off + j * 5 + 3, none⟩ = some _ from t3)
          have HT4 := Lib.hid (show wr.drew.cell? ⟨b, off + j * 5 + 4, none⟩ = some _ from t4)
          clear hck hr hft
          cases hv : satB c (projL c xs)
          · have HF : Hid ((insB m.doms xs && satsB m.cons xs) = false) := Lib.hid (by rw [satsB_false HCK.out hv]; simp)
            go_wp2_with fail
            go_region_with (first
              | (go_at_call 131; refine (project_any c _ _ xs _ R1.out R2.out HSV.out HV4.out).mono ?_; rintro e w8 ⟨v8, rfl, r8, b8⟩; have rc := Lib.hid (R1.out.below b8); have rx := Lib.hid r8; obtain ⟨y0, y1⟩ := (HPd.out.below b8).cell; have z0 := (b8.cell (World.block_lt_of_cell? _ _ HT0.out)).trans HT0.out; have z1 := (b8.cell (World.block_lt_of_cell? _ _ HT1.out)).trans HT1.out; have z2 := (b8.cell (World.block_lt_of_cell? _ _ HT2.out)).trans HT2.out; have z3 := (b8.cell (World.block_lt_of_cell? _ _ HT3.out)).trans HT3.out; have z4 := (b8.cell (World.block_lt_of_cell? _ _ HT4.out)).trans HT4.out; have B8 := Lib.hid (HBd.out.trans (b8.mono HBd.out.size)); clear r8 b8)
              | (go_at_call 130; refine (ssat_any c _ _ _ _ rc.out rx.out HFI.out).mono ?_; rintro e w9 ⟨rfl, b9⟩; have B9 := Lib.hid (B8.out.trans (b9.mono B8.out.size)); clear b9; rw [hv]))
            all_goals go_wp2
            all_goals go_ret
            all_goals exact ⟨ret_bool HF.out.symm, B9.out⟩
          · have HX2 := Lib.hid hv
            go_wp2_with fail
            go_region_with (first
              | (go_at_call 131; refine (project_any c _ _ xs _ R1.out R2.out HSV.out HV4.out).mono ?_; rintro e w8 ⟨v8, rfl, r8, b8⟩; have rc := Lib.hid (R1.out.below b8); have rx := Lib.hid r8; obtain ⟨y0, y1⟩ := (HPd.out.below b8).cell; have z0 := (b8.cell (World.block_lt_of_cell? _ _ HT0.out)).trans HT0.out; have z1 := (b8.cell (World.block_lt_of_cell? _ _ HT1.out)).trans HT1.out; have z2 := (b8.cell (World.block_lt_of_cell? _ _ HT2.out)).trans HT2.out; have z3 := (b8.cell (World.block_lt_of_cell? _ _ HT3.out)).trans HT3.out; have z4 := (b8.cell (World.block_lt_of_cell? _ _ HT4.out)).trans HT4.out; have B8 := Lib.hid (HBe.out.trans (b8.mono HBe.out.size)); clear r8 b8)
              | (go_at_call 130; refine (ssat_any c _ _ _ _ rc.out rx.out HFI.out).mono ?_; rintro e w9 ⟨rfl, b9⟩; have B9 := Lib.hid (B8.out.trans (b9.mono B8.out.size)); clear b9; rw [hv]))
            all_goals go_wp2
            all_goals go_roundw
            all_goals first
              | exact ⟨j + 1, by omega, by go_num, fun q c' hq hc => by by_cases e : q = j; (· subst e; rw [HCK.out] at hc; rw [← Option.some.inj hc]; exact HX2.out); (· exact HE.out q c' (by omega) hc), B9⟩
              | (simp [intOf]; omega)
        · obtain rfl : j = k2 := by omega
          have HC : Hid ((insB m.doms xs && satsB m.cons xs) = true) := Lib.hid (by rw [HI.out, satsB_true (fun q c hq hc => HE.out q c (by have := HN2.out; omega) hc)]; rfl)
          clear HE
          go_wp2
          go_ret
          exact ⟨ret_bool HC.out.symm, HBw.out⟩

set_option maxRecDepth 100000 in
set_option maxHeartbeats 2000000 in
theorem sIS_any (m : Mod) (v xv : Value) (xs : List Int) (w : World) (h : RdModel w v m) (hx : RdInts w xv xs) (hm : ModLe m 1048576) :
    Calls Try.prog 61 #[v, xv] w (BoolPost (solB m xs) w) := by
  obtain ⟨a1, a2, c1, c2, rfl, h1, h2⟩ := rdModel_slices h
  obtain ⟨ax, cx, ev, -⟩ := id hx
  rw [ev] at hx ⊢
  obtain ⟨W1, hW1⟩ : ∃ W1, w.alloc (.cells #[.slice a1 m.doms.length c1, .slice a2 m.cons.length c2] 68) = W1 := ⟨_, rfl⟩
  have B1 : Below w.heap.size w W1 := by rw [← hW1]; exact (Below.refl _ _).alloc (Nat.le_refl _) _
  have bP : Blk2 W1 w.heap.size 68 (.slice a1 m.doms.length c1) (.slice a2 m.cons.length c2) := by rw [← hW1]; exact Blk2.new w _ _ _
  have HM := Lib.hid (h.below B1)
  have HX := Lib.hid (hx.below B1)
  have HB1 := Lib.hid B1
  have HW := Lib.hid hW1
  have HP := Lib.hid bP
  have hc1 := (rdInts_cap (h1.below B1)).2
  have hc3 := (rdInts_cap (hx.below B1)).2
  have HLE := Lib.hid hm
  clear h h1 h2 hx hW1 B1 bP ev hm
  obtain ⟨p0, p1⟩ := HP.out.cell
  go_enter Try.func61, Try.ntmps61
  go_wp2_with fail
  rw [HW.out]
  refine (svm_any m _ W1 HM.out HLE.out).mono ?_
  rintro e w2 ⟨rfl, b2⟩
  have HB2 := Lib.hid (HB1.out.trans (b2.mono HB1.out.size))
  have HM2 := Lib.hid (HM.out.below b2)
  have HX2 := Lib.hid (HX.out.below b2)
  clear p0 p1
  obtain ⟨p0, p1⟩ := (HP.out.below b2).cell
  clear b2
  cases hv : vmB m
  · go_wp2
    go_ret
    exact ⟨ret_bool (by unfold solB; rw [hv]; rfl), HB2.out⟩
  by_cases hl : xs.length = m.doms.length
  · have hd : ((xs.length : Int) == (m.doms.length : Int)) = true := by simp [hl]
    have HL := Lib.hid hl
    have HV := Lib.hid hv
    clear hl
    go_wp2_with fail
    refine (sisSolution_any m _ _ xs w2 HM2.out HX2.out HV.out HL.out).mono ?_
    rintro e w3 ⟨rfl, b3⟩
    have HB3 := Lib.hid (HB2.out.trans (b3.mono HB2.out.size))
    clear b3
    go_wp2
    go_ret
    exact ⟨ret_bool (by unfold solB; rw [HV.out, decide_eq_true HL.out]; simp), HB3.out⟩
  · have hd : ((xs.length : Int) == (m.doms.length : Int)) = false := by simp; omega
    have HL := Lib.hid hl
    clear hl
    go_wp2
    go_ret
    exact ⟨ret_bool (by unfold solB; rw [decide_eq_false HL.out]; simp), HB2.out⟩
end Go.Proofs.Ytjdbfiiaadphhaa
