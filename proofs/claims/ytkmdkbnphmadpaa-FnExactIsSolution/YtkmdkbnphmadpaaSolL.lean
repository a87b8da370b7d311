/- The law of IsSolution. -/
import Derived.Test.YtkmdkbnphmadpaaSolJ
import Derived.Test.YtkmdkbnphmadpaaSolS
namespace Go.Proofs.Ytkmdkbnphmadpaa
open Go.ChangeShapes Go.WideShapes Go.ChangeAt Go.RowKit
set_option linter.unusedVariables false
set_option linter.unusedSimpArgs false

set_option maxRecDepth 100000 in
set_option maxHeartbeats 4000000 in
theorem law_is (v xv : Value) (m : Mod) (xs : List Int) (w : World) (h : RdModel w v m) (hx : RdInts w xv xs) :
    Calls Try.prog 5 #[v, xv] w (SamePostB w) := by
  obtain ⟨a1, a2, c1, c2, rfl, _⟩ := rdModel_slices h
  obtain ⟨ax, cx, ev, -⟩ := id hx
  rw [ev] at hx ⊢
  obtain ⟨W1, hW1⟩ : ∃ W1, w.alloc (.cells #[.slice a1 m.doms.length c1, .slice a2 m.cons.length c2] 34) = W1 := ⟨_, rfl⟩
  have B1 : Below w.heap.size w W1 := by rw [← hW1]; exact (Below.refl _ _).alloc (Nat.le_refl _) _
  have bP : Blk2 W1 w.heap.size 34 (.slice a1 m.doms.length c1) (.slice a2 m.cons.length c2) := by rw [← hW1]; exact Blk2.new w _ _ _
  have HA := Lib.hid (h.below B1)
  have HXA := Lib.hid (hx.below B1)
  have HW := Lib.hid hW1
  have HB1 := Lib.hid B1
  have HP := Lib.hid bP
  have hcx := (rdInts_cap hx).2
  clear h hx hW1 B1 bP ev
  by_cases hbig : (xs.length : Int) > 1048576
  · go_enter Try.func5, Try.ntmps5
    go_wp2
    rw [HW.out]
    go_ret
    exact ⟨rfl, HB1.out⟩
  have hxl : xs.length ≤ 1048576 := by omega
  go_enter Try.func5, Try.ntmps5
  go_wp2_with fail
  rw [HW.out]
  refine (szModel_any _ m 1048576 W1 HA.out (by omega) (by omega)).mono ?_
  rintro e w2 ⟨r, rfl, _, _, hq, b2⟩
  have HQ := Lib.hid hq
  have HB2 := Lib.hid (HB1.out.trans (b2.mono HB1.out.size))
  have HA2 := Lib.hid (HA.out.below b2)
  have HX2 := Lib.hid (HXA.out.below b2)
  have HP2 := Lib.hid (HP.out.below b2)
  clear hq b2 HA HP HB1 HW HXA
  by_cases hr : r < 0
  · go_wp2
    go_ret
    exact ⟨rfl, HB2.out⟩
  have HL : Hid (ModLe m 1048576) := Lib.hid (HQ.out (by omega))
  clear HQ
  obtain ⟨p0, p1⟩ := HP2.out.cell
  go_wp2_with fail
  refine (toModel_any _ m w2 HA2.out HL.out).mono ?_
  rintro e w3 ⟨v3, rfl, rc3, b3⟩
  have HB3 := Lib.hid (HB2.out.trans (b3.mono HB2.out.size))
  have HA3 := Lib.hid (HA2.out.below b3)
  have HX3 := Lib.hid (HX2.out.below b3)
  have HP3 := Lib.hid (HP2.out.below b3)
  have RC3 := Lib.hid rc3
  clear p0 p1 b3 HA2 HP2 HB2 HX2 rc3
  go_wp2_with fail
  refine (toIntS_any _ xs w3 HX3.out hxl).mono ?_
  rintro e w3' ⟨rfl, rx3, b3, -⟩
  have HB3' := Lib.hid (HB3.out.trans (b3.mono HB3.out.size))
  have HA3' := Lib.hid (HA3.out.below b3)
  have HX3' := Lib.hid (HX3.out.below b3)
  have HP3' := Lib.hid (HP3.out.below b3)
  have RC3' := Lib.hid (RC3.out.below b3)
  have RX3 := Lib.hid rx3
  clear b3 rx3 HA3 HX3 HP3 HB3 RC3
  go_wp2_with fail
  refine (sIS_any m v3 _ xs w3' RC3'.out RX3.out HL.out).mono ?_
  rintro e w4 ⟨rfl, b4⟩
  have HB4 := Lib.hid (HB3'.out.trans (b4.mono HB3'.out.size))
  have HA4 := Lib.hid (HA3'.out.below b4)
  have HX4 := Lib.hid (HX3'.out.below b4)
  have HP4 := Lib.hid (HP3'.out.below b4)
  clear b4 HA3' HP3' HB3' HX3' RC3' RX3
  obtain ⟨p0, p1⟩ := HP4.out.cell
  go_wp2_with fail
  refine (toModel_any _ m w4 HA4.out HL.out).mono ?_
  rintro e w5 ⟨v5, rfl, rc5, b5⟩
  have HB5 := Lib.hid (HB4.out.trans (b5.mono HB4.out.size))
  have HA5 := Lib.hid (HA4.out.below b5)
  have HX5 := Lib.hid (HX4.out.below b5)
  have HP5 := Lib.hid (HP4.out.below b5)
  have RC5 := Lib.hid rc5
  obtain ⟨e1, e2, f1, f2, hv5, _⟩ := rdModel_slices rc5
  rw [hv5] at RC5 ⊢
  clear p0 p1 b5 HA4 HP4 HB4 HX4 rc5 hv5
  go_wp2_with fail
  obtain ⟨W6, hW6⟩ : ∃ W6, w5.alloc (.cells #[.slice e1 m.doms.length f1, .slice e2 m.cons.length f2] 39) = W6 := ⟨_, rfl⟩
  have B6 : Below w5.heap.size w5 W6 := by rw [← hW6]; exact (Below.refl _ _).alloc (Nat.le_refl _) _
  have bX : Blk2 W6 w5.heap.size 39 (.slice e1 m.doms.length f1) (.slice e2 m.cons.length f2) := by rw [← hW6]; exact Blk2.new w5 _ _ _
  rw [hW6]
  have hBw : Below w.heap.size w W6 := HB5.out.trans (B6.mono HB5.out.size)
  refine (toIntS_any _ xs W6 (HX5.out.below B6) hxl).mono ?_
  rintro e w6 ⟨rfl, rx6, b6, -⟩
  have HB6 := Lib.hid (hBw.trans (b6.mono hBw.size))
  have HA6 := Lib.hid ((HA5.out.below B6).below b6)
  have HX6 := Lib.hid ((HX5.out.below B6).below b6)
  have HP6 := Lib.hid ((HP5.out.below B6).below b6)
  have RC6 := Lib.hid ((RC5.out.below B6).below b6)
  have RX6 := Lib.hid rx6
  have HX6b := Lib.hid (bX.below b6)
  obtain ⟨x, hx⟩ : ∃ x, x = w5.heap.size := ⟨_, rfl⟩
  obtain ⟨g, hg⟩ : ∃ g, g = W6.heap.size := ⟨_, rfl⟩
  rw [← hx] at HX6b ⊢
  rw [← hg] at RX6 ⊢
  clear hW6 B6 bX hBw b6 HA5 HP5 RC5 HB5 HX5 hx hg rx6
  obtain ⟨x0, x1⟩ := HX6b.out.cell
  go_wp2_with fail
  refine (iIS_any m _ _ xs w6 RC6.out RX6.out HL.out).mono ?_
  rintro e w7 ⟨rfl, b7⟩
  have HB7 := Lib.hid (HB6.out.trans (b7.mono HB6.out.size))
  have HA7 := Lib.hid (HA6.out.below b7)
  have HXX7 := Lib.hid (HX6.out.below b7)
  have HP7 := Lib.hid (HP6.out.below b7)
  have RC7 := Lib.hid (RC6.out.below b7)
  have RX7 := Lib.hid (RX6.out.below b7)
  have HX7 := Lib.hid (HX6b.out.below b7)
  clear b7 HA6 HX6 HP6 RC6 RX6 HB6 HX6b x0 x1
  obtain ⟨p0, p1⟩ := HP7.out.cell
  obtain ⟨x0, x1⟩ := HX7.out.cell
  have HAd : Hid (RdModel w7.drew _ m) := Lib.hid HA7.out.drew
  have RCd : Hid (RdModel w7.drew _ m) := Lib.hid RC7.out.drew
  have HXXd : Hid (RdInts w7.drew _ xs) := Lib.hid HXX7.out.drew
  have RXd : Hid (RdInts w7.drew _ xs) := Lib.hid RX7.out.drew
  have HXd : Hid (Blk2 w7.drew x _ _ _) := Lib.hid HX7.out.drew
  have HBd : Hid (Below w.heap.size w w7.drew) := Lib.hid HB7.out.drew
  clear HA7 RC7 HX7 HB7 HXX7 RX7
  cases hfin : solB m xs
  all_goals
    go_wp2
    go_region_with (first
      | (go_at_call 22; refine (toModel_any _ m _ HAd.out HL.out).mono ?_; rintro e w8 ⟨v8, rfl, rc8, b8⟩; obtain ⟨y0, y1⟩ := (HXd.out.below b8).cell; have rx := Lib.hid (RCd.out.below b8); have rc := Lib.hid rc8; have r1 := Lib.hid (HXXd.out.below b8); have r2 := Lib.hid (RXd.out.below b8); have B8 := Lib.hid (HBd.out.trans (b8.mono HBd.out.size)); clear rc8 b8)
      | (go_at_call 24; refine (eqModel_same _ _ m _ rx.out rc.out).mono ?_; rintro e w9 ⟨rfl, b9⟩; have r3 := Lib.hid (r1.out.below b9); have r4 := Lib.hid (r2.out.below b9); have B9 := Lib.hid (B8.out.trans (b9.mono B8.out.size)); clear b9))
    all_goals go_wp2_with fail
    all_goals refine (toIntS_any _ xs _ r3.out hxl).mono ?_
    all_goals rintro e w10 ⟨rfl, rx10, b10, -⟩
    all_goals have r5 := Lib.hid (r4.out.below b10)
    all_goals have r6 := Lib.hid rx10
    all_goals have B10 := Lib.hid (B9.out.trans (b10.mono B9.out.size))
    all_goals clear b10 rx10
    all_goals go_wp2_with fail
    all_goals refine (eqIntS_same _ _ xs _ r5.out r6.out).mono ?_
    all_goals rintro e w11 ⟨rfl, m11, rfl⟩
    all_goals go_wp2
    all_goals go_ret
    all_goals exact ⟨rfl, below_drewN' B10.out _⟩
end Go.Proofs.Ytkmdkbnphmadpaa
