/- The law of Usage. -/
import Derived.Test.YtelglccegkhfcaaUsg
import Derived.Test.YtelglccegkhfcaaMkC
import Derived.Deep.RegionHeld3
namespace Go.Proofs.Ytelglccegkhfcaa
open Go.ChangeShapes Go.WideShapes Go.ChangeAt Go.RowKit
set_option linter.unusedVariables false
set_option linter.unusedSimpArgs false

set_option maxRecDepth 100000 in
set_option maxHeartbeats 16000000 in
theorem law_usg (v0 : Value) (v1 : Value) (x0 : List Tsk) (x1 : List Int) (w : World) (h0 : RdTsks w v0 x0) (h1 : RdInts w v1 x1) :
    Calls Try.prog 7 #[v0, v1] w (SamePostB w) := by
  obtain ⟨a1, c1, ev1, -⟩ := id h1
  rw [ev1] at h1 ⊢
  have hc1 := (rdInts_cap h1).2
  obtain ⟨a0, c0, ev0, -⟩ := id h0
  rw [ev0] at h0 ⊢
  have hc0 := (rdTsks_len h0).2.1
  have hd0 := (rdTsks_len h0).2.2
  have HB_1 := Lib.hid (Below.refl w.heap.size w)
  have HA0_1 := Lib.hid h0
  have HA1_1 := Lib.hid h1
  clear h0 h1 ev1 ev0
  by_cases hbig1 : (x1.length : Int) > 1048576
  · go_enter Try.func7, Try.ntmps7
    go_wp2
    go_ret
    exact ⟨rfl, HB_1.out⟩
  have hx1 : x1.length ≤ 1048576 := by omega
  go_enter Try.func7, Try.ntmps7
  go_wp2_with fail
  refine (szTaskS_any _ x0 1048576 w HA0_1.out (by omega) (by omega)).mono ?_
  rintro e w' ⟨r0, rfl, _, _, hq, rfl⟩
  have HQ := Lib.hid hq
  clear hq
  by_cases hr0 : r0 < 0
  · go_wp2
    go_ret
    exact ⟨rfl, HB_1.out⟩
  have HL0 : Hid (x0.length ≤ 1048576) := Lib.hid (by have := HQ.out (by omega); omega)
  clear HQ
  go_wp2_with fail
  refine (toTaskS_sh _ x0 w HA0_1.out HL0.out).mono ?_
  rintro e wc0 ⟨uc0, rfl, rc, -, b⟩
  have Rc0_2 := Lib.hid rc
  clear rc
  have HB_2 := Lib.hid (HB_1.out.trans (b.mono HB_1.out.size))
  have HA0_2 := Lib.hid (HA0_1.out.below b)
  have HA1_2 := Lib.hid (HA1_1.out.below b)
  clear b HB_1 HA0_1 HA1_1
  go_wp2_with fail
  refine (toIntS_sh _ x1 wc0 HA1_2.out hx1).mono ?_
  rintro e wc1 ⟨uc1, rfl, rc, -, b⟩
  have Rc1_3 := Lib.hid rc
  clear rc
  have HB_3 := Lib.hid (HB_2.out.trans (b.mono HB_2.out.size))
  have HA0_3 := Lib.hid (HA0_2.out.below b)
  have HA1_3 := Lib.hid (HA1_2.out.below b)
  have Rc0_3 := Lib.hid (Rc0_2.out.below b)
  clear b HB_2 HA0_2 HA1_2 Rc0_2
  go_wp2_with fail
  refine (sUsage_any _ _ x0 x1 wc1 Rc0_3.out Rc1_3.out).mono ?_
  rintro e w4 ⟨v4, rfl, o4, b⟩
  obtain ⟨ys, hys⟩ : ∃ ys, ys = usgN x0 x1 := ⟨_, rfl⟩
  have HYS := Lib.hid hys
  rw [← hys] at o4
  have RW := Lib.hid (rdInts_of_own o4)
  obtain ⟨a4, n4, c4, e4⟩ := own_slice o4
  rw [e4] at RW ⊢
  have HYL : Hid (ys.length ≤ 1048576) := Lib.hid (by rw [hys]; exact usgN_le x0 x1)
  clear o4 e4 hys
  clear Rc0_3
  clear Rc1_3
  have HB_4 := Lib.hid (HB_3.out.trans (b.mono HB_3.out.size))
  have HA0_4 := Lib.hid (HA0_3.out.below b)
  have HA1_4 := Lib.hid (HA1_3.out.below b)
  clear b HB_3 HA0_3 HA1_3
  have KA0 := HA0_4
  have KA1 := HA1_4
  have KB := HB_4
  clear HB_4 HA0_4 HA1_4
  have B4_4 := Lib.hid (Below.refl w4.heap.size w4)
  have hsz : w4.heap.size ≤ w4.heap.size := B4_4.out.size
  go_wp2_with fail
  refine (toTaskS_sh _ x0 w4 (KA0.out.below B4_4.out) HL0.out).mono ?_
  rintro e wx0 ⟨ux0, rfl, rc, sh, b⟩
  obtain ⟨lo0, hlo0⟩ : ∃ q, q = w4.heap.size := ⟨_, rfl⟩
  obtain ⟨hi0, hhi0⟩ : ∃ q, q = wx0.heap.size := ⟨_, rfl⟩
  have HZ0 : Hid (w4.heap.size ≤ lo0 ∧ lo0 ≤ hi0) := Lib.hid (by rw [hlo0, hhi0]; exact ⟨hsz, b.size⟩)
  have RX0_5 := Lib.hid rc
  have SX0_5 := Lib.hid sh
  obtain ⟨ya0, yc0, eu0, -⟩ := id rc
  subst eu0
  clear rc sh hsz
  have B4_5 := Lib.hid (B4_4.out.trans (b.mono B4_4.out.size))
  clear b B4_4
  have Z0_5 : Hid (hi0 ≤ wx0.heap.size) := Lib.hid (Nat.le_of_eq hhi0)
  rw [← hlo0, ← hhi0] at SX0_5
  clear hlo0 hhi0
  have hsz : w4.heap.size ≤ wx0.heap.size := B4_5.out.size
  go_wp2_with fail
  refine (toIntS_sh _ x1 wx0 (KA1.out.below B4_5.out) hx1).mono ?_
  rintro e wx1 ⟨ux1, rfl, rc, sh, b⟩
  obtain ⟨lo1, hlo1⟩ : ∃ q, q = wx0.heap.size := ⟨_, rfl⟩
  obtain ⟨hi1, hhi1⟩ : ∃ q, q = wx1.heap.size := ⟨_, rfl⟩
  have HZ1 : Hid (w4.heap.size ≤ lo1 ∧ lo1 ≤ hi1) := Lib.hid (by rw [hlo1, hhi1]; exact ⟨hsz, b.size⟩)
  have RX1_6 := Lib.hid rc
  have SX1_6 := Lib.hid sh
  obtain ⟨ya1, yc1, eu1, -⟩ := id rc
  subst eu1
  clear rc sh hsz
  have B4_6 := Lib.hid (B4_5.out.trans (b.mono B4_5.out.size))
  have RX0_6 := Lib.hid (RX0_5.out.below b)
  have SX0_6 := Lib.hid (SX0_5.out.below b)
  have Z0_6 := Lib.hid (Nat.le_trans Z0_5.out b.size)
  clear b B4_5 RX0_5 SX0_5 Z0_5
  have Z1_6 : Hid (hi1 ≤ wx1.heap.size) := Lib.hid (Nat.le_of_eq hhi1)
  rw [← hlo1, ← hhi1] at SX1_6
  clear hlo1 hhi1
  go_wp2_with fail
  refine (iUsage_any _ _ x0 x1 wx1 RX0_6.out RX1_6.out).mono ?_
  rintro e w7 ⟨v7, rfl, o7, b⟩
  rw [← HYS.out] at o7
  have G_7 := Lib.hid (gInts_of_own o7)
  obtain ⟨a7, c7, e7⟩ := (gInts_of_own o7).slice
  rw [e7] at G_7 ⊢
  obtain ⟨g6, hg6⟩ : ∃ q, q = wx1.heap.size := ⟨_, rfl⟩
  rw [← hg6] at G_7
  have HG6 : Hid (w4.heap.size ≤ g6 ∧ hi0 ≤ g6 ∧ hi1 ≤ g6) := Lib.hid (by rw [hg6]; exact ⟨B4_6.out.size, Z0_6.out, Z1_6.out⟩)
  clear o7 e7 hg6
  clear Z0_6
  clear Z1_6
  have B4_7 := Lib.hid (B4_6.out.trans (b.mono B4_6.out.size))
  have RX0_7 := Lib.hid (RX0_6.out.below b)
  have SX0_7 := Lib.hid (SX0_6.out.below b)
  have RX1_7 := Lib.hid (RX1_6.out.below b)
  have SX1_7 := Lib.hid (SX1_6.out.below b)
  clear b B4_6 RX0_6 SX0_6 RX1_6 SX1_6
  go_wp2_with fail
  refine (eqIntS_same _ _ ys w7 G_7.out.1 (RW.out.below B4_7.out)).mono ?_
  rintro e w8 ⟨rfl, kk, ek⟩
  have b : Below w7.heap.size w7 w8 := by rw [ek]; exact drewN_below _ _
  clear ek
  have B4_8 := Lib.hid (B4_7.out.trans (b.mono B4_7.out.size))
  have RX0_8 := Lib.hid (RX0_7.out.below b)
  have SX0_8 := Lib.hid (SX0_7.out.below b)
  have RX1_8 := Lib.hid (RX1_7.out.below b)
  have SX1_8 := Lib.hid (SX1_7.out.below b)
  have G_8 := Lib.hid (G_7.out.below b)
  clear b B4_7 RX0_7 SX0_7 RX1_7 SX1_7 G_7
  go_wp2_with fail
  refine (toTaskS_sh _ x0 w8 (KA0.out.below B4_8.out) HL0.out).mono ?_
  rintro e w9 ⟨vq0, rfl, rc, -, b⟩
  obtain ⟨qa0, qc0, eq0, -⟩ := id rc
  subst eq0
  have RQ_9 := Lib.hid rc
  clear rc
  have B4_9 := Lib.hid (B4_8.out.trans (b.mono B4_8.out.size))
  have RX0_9 := Lib.hid (RX0_8.out.below b)
  have SX0_9 := Lib.hid (SX0_8.out.below b)
  have RX1_9 := Lib.hid (RX1_8.out.below b)
  have SX1_9 := Lib.hid (SX1_8.out.below b)
  have G_9 := Lib.hid (G_8.out.below b)
  clear b B4_8 RX0_8 SX0_8 RX1_8 SX1_8 G_8
  go_wp2_with fail
  refine (eqTaskS_same _ _ x0 w9 RX0_9.out RQ_9.out).mono ?_
  rintro e w10 ⟨rfl, b⟩
  clear RQ_9
  have B4_10 := Lib.hid (B4_9.out.trans (b.mono B4_9.out.size))
  have RX0_10 := Lib.hid (RX0_9.out.below b)
  have SX0_10 := Lib.hid (SX0_9.out.below b)
  have RX1_10 := Lib.hid (RX1_9.out.below b)
  have SX1_10 := Lib.hid (SX1_9.out.below b)
  have G_10 := Lib.hid (G_9.out.below b)
  clear b B4_9 RX0_9 SX0_9 RX1_9 SX1_9 G_9
  go_wp2_with fail
  refine (toIntS_sh _ x1 w10 (KA1.out.below B4_10.out) hx1).mono ?_
  rintro e w11 ⟨vq1, rfl, rc, -, b⟩
  obtain ⟨qa1, qc1, eq1, -⟩ := id rc
  subst eq1
  have RQ_11 := Lib.hid rc
  clear rc
  have B4_11 := Lib.hid (B4_10.out.trans (b.mono B4_10.out.size))
  have RX0_11 := Lib.hid (RX0_10.out.below b)
  have SX0_11 := Lib.hid (SX0_10.out.below b)
  have RX1_11 := Lib.hid (RX1_10.out.below b)
  have SX1_11 := Lib.hid (SX1_10.out.below b)
  have G_11 := Lib.hid (G_10.out.below b)
  clear b B4_10 RX0_10 SX0_10 RX1_10 SX1_10 G_10
  go_wp2_with fail
  refine (eqIntS_same _ _ x1 w11 RX1_11.out RQ_11.out).mono ?_
  rintro e w12 ⟨rfl, kk, ek⟩
  have b : Below w11.heap.size w11 w12 := by rw [ek]; exact drewN_below _ _
  clear ek RQ_11
  have B4_12 := Lib.hid (B4_11.out.trans (b.mono B4_11.out.size))
  have RX0_12 := Lib.hid (RX0_11.out.below b)
  have SX0_12 := Lib.hid (SX0_11.out.below b)
  have RX1_12 := Lib.hid (RX1_11.out.below b)
  have SX1_12 := Lib.hid (SX1_11.out.below b)
  have G_12 := Lib.hid (G_11.out.below b)
  clear b B4_11 RX0_11 SX0_11 RX1_11 SX1_11 G_11
  clear RX0_12
  clear RX1_12
  go_wp2_with fail
  refine (markTaskS_sh lo0 hi0 _ 1 w12 SX0_12.out (by omega) (by omega)).mono ?_
  rintro e w13 ⟨k0, rfl, hk0a, hk0b, mm⟩
  clear SX0_12
  have B4_13 := Lib.hid (below_marked B4_12.out mm HZ0.out.1 B4_12.out.size)
  have SX1_13 := Lib.hid (SX1_12.out.marked mm)
  have G_13 := Lib.hid (G_12.out.marked mm (by have := HG6.out; omega))
  clear mm B4_12 SX1_12 G_12
  go_wp2_with fail
  refine (markIntS_sh lo1 hi1 _ k0 w13 SX1_13.out (by omega) (by omega)).mono ?_
  rintro e w14 ⟨k1, rfl, hk1a, hk1b, mm⟩
  clear SX1_13
  have B4_14 := Lib.hid (below_marked B4_13.out mm HZ1.out.1 B4_13.out.size)
  have G_14 := Lib.hid (G_13.out.marked mm (by have := HG6.out; omega))
  clear mm B4_13 G_13
  have hkn : decide (k1 < 0) = false := by simp; omega
  go_wp2_with fail
  refine (eqIntS_same _ _ ys w14 G_14.out.1 (RW.out.below B4_14.out)).mono ?_
  rintro e w15 ⟨rfl, kk, ek⟩
  have b : Below w14.heap.size w14 w15 := by rw [ek]; exact drewN_below _ _
  clear ek
  have B4_15 := Lib.hid (B4_14.out.trans (b.mono B4_14.out.size))
  have G_15 := Lib.hid (G_14.out.below b)
  clear b B4_14 G_14
  go_wp2_with fail
  refine (markIntS_any g6 _ _ ys.length 1 w15 G_15.out.sh HYL.out (by omega) (by omega)).mono ?_
  rintro e w16 ⟨rfl, mm, rr⟩
  have HH_16 := Lib.hid rr
  have B4_16 := Lib.hid (below_marked B4_15.out mm HG6.out.1 B4_15.out.size)
  clear mm rr G_15 B4_15
  have hyl := HYL.out
  go_wp2_with fail
  refine (heldIntS_any _ ys.length 1 w16 HH_16.out HYL.out (by omega) (by omega)).mono ?_
  rintro e w' ⟨rfl, rfl⟩
  have hq1 : decide ((1 : Int) + (ys.length : Int) < 0) = false := by simp; omega
  have hq2 : ((1 : Int) + (ys.length : Int) != 1 + (ys.length : Int)) = false := by simp
  go_wp2_with fail
  refine (toTaskS_sh _ x0 w16 (KA0.out.below B4_16.out) HL0.out).mono ?_
  rintro e wd0 ⟨ud0, rfl, rc, -, b⟩
  have Rd0_17 := Lib.hid rc
  clear rc
  have B4_17 := Lib.hid (B4_16.out.trans (b.mono B4_16.out.size))
  have HH_17 := Lib.hid (HH_16.out.below b)
  clear b B4_16 HH_16
  go_wp2_with fail
  refine (toIntS_sh _ x1 wd0 (KA1.out.below B4_17.out) hx1).mono ?_
  rintro e wd1 ⟨ud1, rfl, rc, -, b⟩
  have Rd1_18 := Lib.hid rc
  clear rc
  have B4_18 := Lib.hid (B4_17.out.trans (b.mono B4_17.out.size))
  have HH_18 := Lib.hid (HH_17.out.below b)
  have Rd0_18 := Lib.hid (Rd0_17.out.below b)
  clear b B4_17 HH_17 Rd0_17
  go_wp2_with fail
  refine (iUsage_any _ _ x0 x1 wd1 Rd0_18.out Rd1_18.out).mono ?_
  rintro e w17 ⟨v9, rfl, o9, b⟩
  rw [← HYS.out] at o9
  have H9_19 := Lib.hid (rdInts_of_own o9)
  obtain ⟨a9, n9, c9, e9⟩ := own_slice o9
  rw [e9] at H9_19 ⊢
  clear o9 e9
  clear Rd0_18
  clear Rd1_18
  have B4_19 := Lib.hid (B4_18.out.trans (b.mono B4_18.out.size))
  have HH_19 := Lib.hid (HH_18.out.below b)
  clear b B4_18 HH_18
  go_wp2_with fail
  refine (eqIntS_same _ _ ys w17 H9_19.out (RW.out.below B4_19.out)).mono ?_
  rintro e w18 ⟨rfl, kk, ek⟩
  have b : Below w17.heap.size w17 w18 := by rw [ek]; exact drewN_below _ _
  clear ek
  have B4_20 := Lib.hid (B4_19.out.trans (b.mono B4_19.out.size))
  have HH_20 := Lib.hid (HH_19.out.below b)
  have H9_20 := Lib.hid (H9_19.out.below b)
  clear b B4_19 HH_19 H9_19
  go_wp2_with fail
  refine (heldIntS_any _ ys.length 1 w18 HH_20.out HYL.out (by omega) (by omega)).mono ?_
  rintro e w' ⟨rfl, rfl⟩
  go_wp2
  go_ret
  exact ⟨rfl, KB.out.trans (B4_20.out.mono KB.out.size)⟩
end Go.Proofs.Ytelglccegkhfcaa
