/- The law of Probe. -/
import Derived.Test.YtipapmmjfoaddaaGreatPrb
import Derived.Test.YtipapmmjfoaddaaGreatMkC
import Derived.Deep.RegionHeld3
namespace Go.Proofs.YtipapmmjfoaddaaGreat
open Go.ChangeShapes Go.WideShapes Go.ChangeAt Go.RowKit
set_option linter.unusedVariables false
set_option linter.unusedSimpArgs false

set_option maxRecDepth 100000 in
set_option maxHeartbeats 16000000 in
theorem law_prb (v0 : Value) (x1 : Int) (x2 : Int) (x0 : Mod) (w : World) (h0 : RdModel w v0 x0) :
    Calls Tryz.prog 3 #[v0, .int .i64 x1, .int .i64 x2] w (SamePostB w) := by
  obtain ⟨a0_1, a0_2, c0_1, c0_2, rfl, _⟩ := rdModel_slices h0
  obtain ⟨W1, hW1⟩ : ∃ W1, w.alloc (.cells #[.slice a0_1 x0.doms.length c0_1, .slice a0_2 x0.cons.length c0_2] 25) = W1 := ⟨_, rfl⟩
  have B1 : Below w.heap.size w W1 := by rw [← hW1]; exact (Below.refl _ _).alloc (Nat.le_refl _) _
  have bP0 : Blk2 W1 w.heap.size 25 (.slice a0_1 x0.doms.length c0_1) (.slice a0_2 x0.cons.length c0_2) := by rw [← hW1]; exact Blk2.new w _ _ _ 
  have HW := Lib.hid hW1
  have HB_1 := Lib.hid B1
  have HP0_1 := Lib.hid bP0
  have HA0_1 := Lib.hid (h0.below B1)
  clear hW1 B1 bP0 h0
  go_enter Tryz.func3, Tryz.ntmps3
  go_wp2_with fail
  rw [HW.out]
  refine (szModel_any _ x0 1048576 W1 HA0_1.out (by omega) (by omega)).mono ?_
  rintro e w2 ⟨r, rfl, _, _, hq, b⟩
  have HQ := Lib.hid hq
  clear hq HW
  have HB_2 := Lib.hid (HB_1.out.trans (b.mono HB_1.out.size))
  have HA0_2 := Lib.hid (HA0_1.out.below b)
  have HP0_2 := Lib.hid (HP0_1.out.below b)
  clear b HB_1 HA0_1 HP0_1
  by_cases hr : r < 0
  · go_wp2
    go_ret
    exact ⟨rfl, HB_2.out⟩
  have HL0 : Hid (ModLe x0 1048576) := Lib.hid (HQ.out (by omega))
  clear HQ
  obtain ⟨p0_0, p0_1⟩ := HP0_2.out.cell
  go_wp2_with fail
  refine (toModel_sh _ x0 w2 HA0_2.out HL0.out).mono ?_
  rintro e wc0 ⟨uc0, rfl, rc, -, b⟩
  have Rc0_3 := Lib.hid rc
  clear rc
  clear p0_0 p0_1
  have HB_3 := Lib.hid (HB_2.out.trans (b.mono HB_2.out.size))
  have HA0_3 := Lib.hid (HA0_2.out.below b)
  have HP0_3 := Lib.hid (HP0_2.out.below b)
  clear b HB_2 HA0_2 HP0_2
  go_wp2_with fail
  refine (sProbe_any x0 _ x1 x2 wc0 Rc0_3.out HL0.out).mono ?_
  rintro e w4 ⟨v4, rfl, o4, b⟩
  obtain ⟨ys, hys⟩ : ∃ ys, ys = prbM x0 x1 x2 := ⟨_, rfl⟩
  have HYS := Lib.hid hys
  rw [← hys] at o4
  have RW := Lib.hid (rdInts_of_own o4)
  obtain ⟨a4, n4, c4, e4⟩ := own_slice o4
  rw [e4] at RW ⊢
  have HYL : Hid (ys.length ≤ 1048576) := Lib.hid (by rw [hys]; exact prbM_le x0 x1 x2)
  clear o4 e4 hys
  clear Rc0_3
  have HB_4 := Lib.hid (HB_3.out.trans (b.mono HB_3.out.size))
  have HA0_4 := Lib.hid (HA0_3.out.below b)
  have HP0_4 := Lib.hid (HP0_3.out.below b)
  clear b HB_3 HA0_3 HP0_3
  have KA0 := HA0_4
  have KP0 := HP0_4
  have KB := HB_4
  clear HB_4 HA0_4 HP0_4
  have B4_4 := Lib.hid (Below.refl w4.heap.size w4)
  obtain ⟨p0_0, p0_1⟩ := (KP0.out.below B4_4.out).cell
  have hsz : w4.heap.size ≤ w4.heap.size := B4_4.out.size
  go_wp2_with fail
  refine (toModel_sh _ x0 w4 (KA0.out.below B4_4.out) HL0.out).mono ?_
  rintro e wx0 ⟨ux0, rfl, rc, sh, b⟩
  obtain ⟨lo0, hlo0⟩ : ∃ q, q = w4.heap.size := ⟨_, rfl⟩
  obtain ⟨hi0, hhi0⟩ : ∃ q, q = wx0.heap.size := ⟨_, rfl⟩
  have HZ0 : Hid (w4.heap.size ≤ lo0 ∧ lo0 ≤ hi0) := Lib.hid (by rw [hlo0, hhi0]; exact ⟨hsz, b.size⟩)
  have RX0_5 := Lib.hid rc
  have SX0_5 := Lib.hid sh
  obtain ⟨ya0_1, ya0_2, yc0_1, yc0_2, eu0, _⟩ := rdModel_slices rc
  subst eu0
  clear p0_0 p0_1
  clear rc sh hsz
  have B4_5 := Lib.hid (B4_4.out.trans (b.mono B4_4.out.size))
  clear b B4_4
  have Z0_5 : Hid (hi0 ≤ wx0.heap.size) := Lib.hid (Nat.le_of_eq hhi0)
  rw [← hlo0, ← hhi0] at SX0_5
  go_wp2_with fail
  obtain ⟨WX0, hWX⟩ : ∃ q, wx0.alloc (.cells #[.slice ya0_1 x0.doms.length yc0_1, .slice ya0_2 x0.cons.length yc0_2] 30) = q := ⟨_, rfl⟩
  have b : Below wx0.heap.size wx0 WX0 := by rw [← hWX]; exact (Below.refl _ _).alloc (Nat.le_refl _) _
  have bX : Blk2 WX0 wx0.heap.size 30 (.slice ya0_1 x0.doms.length yc0_1) (.slice ya0_2 x0.cons.length yc0_2) := by rw [← hWX]; exact Blk2.new wx0 _ _ _ 
  rw [hWX]
  have hxs : WX0.heap.size = wx0.heap.size + 1 := by rw [← hWX, World.size_alloc]
  have HX0_6 := Lib.hid bX
  clear hWX bX
  have B4_6 := Lib.hid (B4_5.out.trans (b.mono B4_5.out.size))
  have RX0_6 := Lib.hid (RX0_5.out.below b)
  have SX0_6 := Lib.hid (SX0_5.out.below b)
  have Z0_6 := Lib.hid (Nat.le_trans Z0_5.out b.size)
  clear b B4_5 RX0_5 SX0_5 Z0_5
  rw [← hhi0] at HX0_6 hxs ⊢
  have HXS0 := Lib.hid hxs
  clear hxs
  clear hlo0 hhi0
  obtain ⟨x0_0, x0_1⟩ := HX0_6.out.cell
  go_wp2_with fail
  refine (iProbe_any x0 _ x1 x2 WX0 RX0_6.out HL0.out).mono ?_
  rintro e w7 ⟨v7, rfl, o7, b⟩
  rw [← HYS.out] at o7
  have G_7 := Lib.hid (gInts_of_own o7)
  obtain ⟨a7, c7, e7⟩ := (gInts_of_own o7).slice
  rw [e7] at G_7 ⊢
  obtain ⟨g6, hg6⟩ : ∃ q, q = WX0.heap.size := ⟨_, rfl⟩
  rw [← hg6] at G_7
  have HG6 : Hid (w4.heap.size ≤ g6 ∧ hi0 ≤ g6) := Lib.hid (by rw [hg6]; exact ⟨B4_6.out.size, Z0_6.out⟩)
  clear o7 e7 hg6
  clear x0_0 x0_1
  clear Z0_6
  have B4_7 := Lib.hid (B4_6.out.trans (b.mono B4_6.out.size))
  have RX0_7 := Lib.hid (RX0_6.out.below b)
  have SX0_7 := Lib.hid (SX0_6.out.below b)
  have HX0_7 := Lib.hid (HX0_6.out.below b)
  clear b B4_6 RX0_6 SX0_6 HX0_6
  go_wp2_with fail
  refine (eqIntS_same _ _ ys w7 G_7.out.1 (RW.out.below B4_7.out)).mono ?_
  rintro e w8 ⟨rfl, kk, ek⟩
  have b : Below w7.heap.size w7 w8 := by rw [ek]; exact drewN_below _ _
  clear ek
  have B4_8 := Lib.hid (B4_7.out.trans (b.mono B4_7.out.size))
  have RX0_8 := Lib.hid (RX0_7.out.below b)
  have SX0_8 := Lib.hid (SX0_7.out.below b)
  have HX0_8 := Lib.hid (HX0_7.out.below b)
  have G_8 := Lib.hid (G_7.out.below b)
  clear b B4_7 RX0_7 SX0_7 HX0_7 G_7
  obtain ⟨x0_0, x0_1⟩ := HX0_8.out.cell
  obtain ⟨p0_0, p0_1⟩ := (KP0.out.below B4_8.out).cell
  have B4_9 := Lib.hid (B4_8.out.drew)
  have RX0_9 := Lib.hid (RX0_8.out.below (Below.refl _ w8).drew)
  have SX0_9 := Lib.hid (SX0_8.out.below (Below.refl _ w8).drew)
  have HX0_9 := Lib.hid (HX0_8.out.below (Below.refl _ w8).drew)
  have G_9 := Lib.hid (G_8.out.below (Below.refl _ w8).drew)
  clear B4_8 RX0_8 SX0_8 HX0_8 G_8
  go_wp2
  go_region_held3 (fun w' => w'.cell? ⟨hi0, 0, none⟩ = some (.slice ya0_1 x0.doms.length yc0_1) ∧ w'.cell? ⟨hi0, 1, none⟩ = some (.slice ya0_2 x0.cons.length yc0_2) ∧ w'.cell? ⟨w.heap.size, 0, none⟩ = some (.slice a0_1 x0.doms.length c0_1) ∧ w'.cell? ⟨w.heap.size, 1, none⟩ = some (.slice a0_2 x0.cons.length c0_2)) (first | go_keep | exact ⟨y0_0, y0_1, r0_0, r0_1⟩ | exact ⟨z0_0, z0_1, q0_0, q0_1⟩ | exact ⟨x0_0, x0_1, p0_0, p0_1⟩) (first | (go_at_call 12; refine (toModel_sh _ x0 _ (KA0.out.below B4_9.out) HL0.out).mono ?_; rintro e w9 ⟨vq, rfl, rc, -, b⟩; have RQ := Lib.hid rc; have B4_10 := Lib.hid (B4_9.out.trans (b.mono B4_9.out.size)); have RX0_10 := Lib.hid (RX0_9.out.below b); have SX0_10 := Lib.hid (SX0_9.out.below b); have HX0_10 := Lib.hid (HX0_9.out.below b); have G_10 := Lib.hid (G_9.out.below b); obtain ⟨z0_0, z0_1⟩ := HX0_10.out.cell; obtain ⟨q0_0, q0_1⟩ := (KP0.out.below B4_10.out).cell; clear b rc) | (go_at_call 15; refine (eqModel_same _ _ x0 _ RX0_10.out RQ.out).mono ?_; rintro e w10 ⟨rfl, b⟩; have B4_11 := Lib.hid (B4_10.out.trans (b.mono B4_10.out.size)); have RX0_11 := Lib.hid (RX0_10.out.below b); have SX0_11 := Lib.hid (SX0_10.out.below b); have HX0_11 := Lib.hid (HX0_10.out.below b); have G_11 := Lib.hid (G_10.out.below b); obtain ⟨y0_0, y0_1⟩ := HX0_11.out.cell; obtain ⟨r0_0, r0_1⟩ := (KP0.out.below B4_11.out).cell; clear b))
  clear RQ x0_0 x0_1 p0_0 p0_1 z0_0 z0_1 q0_0 q0_1 y0_0 y0_1 r0_0 r0_1
  clear B4_9 B4_10 RX0_9 RX0_10 SX0_9 SX0_10 HX0_9 HX0_10 G_9 G_10
  clear RX0_11
  obtain ⟨x0_0, x0_1⟩ := HX0_11.out.cell
  go_wp2_with fail
  refine (markModel_sh lo0 hi0 _ 1 w10 SX0_11.out (by omega) (by omega)).mono ?_
  rintro e w11 ⟨k0, rfl, hk0a, hk0b, mm⟩
  clear x0_0 x0_1
  clear HX0_11
  clear SX0_11
  have B4_12 := Lib.hid (below_marked B4_11.out mm HZ0.out.1 B4_11.out.size)
  have G_12 := Lib.hid (G_11.out.marked mm (by have := HG6.out; omega))
  clear mm B4_11 G_11
  have hkn : decide (k0 < 0) = false := by simp; omega
  go_wp2_with fail
  refine (eqIntS_same _ _ ys w11 G_12.out.1 (RW.out.below B4_12.out)).mono ?_
  rintro e w12 ⟨rfl, kk, ek⟩
  have b : Below w11.heap.size w11 w12 := by rw [ek]; exact drewN_below _ _
  clear ek
  have B4_13 := Lib.hid (B4_12.out.trans (b.mono B4_12.out.size))
  have G_13 := Lib.hid (G_12.out.below b)
  clear b B4_12 G_12
  go_wp2_with fail
  refine (markIntS_any g6 _ _ ys.length 1 w12 G_13.out.sh HYL.out (by omega) (by omega)).mono ?_
  rintro e w13 ⟨rfl, mm, rr⟩
  have HH_14 := Lib.hid rr
  have B4_14 := Lib.hid (below_marked B4_13.out mm HG6.out.1 B4_13.out.size)
  clear mm rr G_13 B4_13
  have hyl := HYL.out
  go_wp2_with fail
  refine (heldIntS_any _ ys.length 1 w13 HH_14.out HYL.out (by omega) (by omega)).mono ?_
  rintro e w' ⟨rfl, rfl⟩
  have hq1 : decide ((1 : Int) + (ys.length : Int) < 0) = false := by simp; omega
  have hq2 : ((1 : Int) + (ys.length : Int) != 1 + (ys.length : Int)) = false := by simp
  obtain ⟨p0_0, p0_1⟩ := (KP0.out.below B4_14.out).cell
  go_wp2_with fail
  refine (toModel_sh _ x0 w13 (KA0.out.below B4_14.out) HL0.out).mono ?_
  rintro e wd0 ⟨ud0, rfl, rc, -, b⟩
  have Rd0_15 := Lib.hid rc
  clear rc
  clear p0_0 p0_1
  have B4_15 := Lib.hid (B4_14.out.trans (b.mono B4_14.out.size))
  have HH_15 := Lib.hid (HH_14.out.below b)
  clear b B4_14 HH_14
  go_wp2_with fail
  refine (iProbe_any x0 _ x1 x2 wd0 Rd0_15.out HL0.out).mono ?_
  rintro e w14 ⟨v9, rfl, o9, b⟩
  rw [← HYS.out] at o9
  have H9_16 := Lib.hid (rdInts_of_own o9)
  obtain ⟨a9, n9, c9, e9⟩ := own_slice o9
  rw [e9] at H9_16 ⊢
  clear o9 e9
  clear Rd0_15
  have B4_16 := Lib.hid (B4_15.out.trans (b.mono B4_15.out.size))
  have HH_16 := Lib.hid (HH_15.out.below b)
  clear b B4_15 HH_15
  go_wp2_with fail
  refine (eqIntS_same _ _ ys w14 H9_16.out (RW.out.below B4_16.out)).mono ?_
  rintro e w15 ⟨rfl, kk, ek⟩
  have b : Below w14.heap.size w14 w15 := by rw [ek]; exact drewN_below _ _
  clear ek
  have B4_17 := Lib.hid (B4_16.out.trans (b.mono B4_16.out.size))
  have HH_17 := Lib.hid (HH_16.out.below b)
  have H9_17 := Lib.hid (H9_16.out.below b)
  clear b B4_16 HH_16 H9_16
  go_wp2_with fail
  refine (heldIntS_any _ ys.length 1 w15 HH_17.out HYL.out (by omega) (by omega)).mono ?_
  rintro e w' ⟨rfl, rfl⟩
  go_wp2
  go_ret
  exact ⟨rfl, KB.out.trans (B4_17.out.mono KB.out.size)⟩
end Go.Proofs.YtipapmmjfoaddaaGreat
