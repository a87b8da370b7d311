/- The law of NegateAll. -/
import Derived.Test.YtipapmmjfoaddaaNgt
import Derived.Test.YtipapmmjfoaddaaLitM
import Derived.Test.YtipapmmjfoaddaaMkC
import Derived.Deep.RegionHeld3
namespace Go.Proofs.Ytipapmmjfoaddaa
open Go.ChangeShapes Go.WideShapes Go.ChangeAt Go.RowKit
set_option linter.unusedVariables false
set_option linter.unusedSimpArgs false

set_option maxRecDepth 100000 in
set_option maxHeartbeats 16000000 in
theorem law_ng (x0 : Int) (v1 : Value) (x1 : List Lit) (w : World) (h1 : RdLits w v1 x1) :
    Calls Try.prog 4 #[.int .i64 x0, v1] w (SamePostB w) := by
  obtain ⟨a1, c1, ev1, -⟩ := id h1
  rw [ev1] at h1 ⊢
  have hc1 := (rdLits_len h1).2.1
  have hd1 := (rdLits_len h1).2.2
  have HB_1 := Lib.hid (Below.refl w.heap.size w)
  have HA1_1 := Lib.hid h1
  clear h1 ev1
  go_enter Try.func4, Try.ntmps4
  go_wp2_with fail
  refine (szLiteralS_any _ x1 1048576 w HA1_1.out (by omega) (by omega)).mono ?_
  rintro e w' ⟨r1, rfl, _, _, hq, rfl⟩
  have HQ := Lib.hid hq
  clear hq
  by_cases hr1 : r1 < 0
  · go_wp2
    go_ret
    exact ⟨rfl, HB_1.out⟩
  have HL1 : Hid (x1.length ≤ 1048576) := Lib.hid (by have := HQ.out (by omega); omega)
  clear HQ
  go_wp2_with fail
  refine (toLiteralS_sh _ x1 w HA1_1.out HL1.out).mono ?_
  rintro e wc1 ⟨uc1, rfl, rc, -, b⟩
  have Rc1_2 := Lib.hid rc
  clear rc
  have HB_2 := Lib.hid (HB_1.out.trans (b.mono HB_1.out.size))
  have HA1_2 := Lib.hid (HA1_1.out.below b)
  clear b HB_1 HA1_1
  go_wp2_with fail
  refine (sNegateAll_any x0 _ x1 wc1 Rc1_2.out).mono ?_
  rintro e w4 ⟨v4, rfl, o4, b⟩
  obtain ⟨ys, hys⟩ : ∃ ys, ys = nagL x0 x1 := ⟨_, rfl⟩
  have HYS := Lib.hid hys
  rw [← hys] at o4
  have RW := Lib.hid (o4.rdN)
  obtain ⟨a4, n4, c4, e4⟩ := o4.slice3
  rw [e4] at RW ⊢
  have HYL : Hid (ys.length ≤ 1048576) := Lib.hid (by rw [hys]; exact nagL_le x0 x1)
  clear o4 e4 hys
  obtain ⟨zs, hzs⟩ : ∃ zs, zs = vclB x1 x0 := ⟨_, rfl⟩
  rw [← hzs]
  have HZS := Lib.hid hzs
  clear hzs
  have hz2 : (zs != zs) = false := by simp
  clear Rc1_2
  have HB_3 := Lib.hid (HB_2.out.trans (b.mono HB_2.out.size))
  have HA1_3 := Lib.hid (HA1_2.out.below b)
  clear b HB_2 HA1_2
  have KA1 := HA1_3
  have KB := HB_3
  clear HB_3 HA1_3
  have B4_3 := Lib.hid (Below.refl w4.heap.size w4)
  have hsz : w4.heap.size ≤ w4.heap.size := B4_3.out.size
  go_wp2_with fail
  refine (toLiteralS_sh _ x1 w4 (KA1.out.below B4_3.out) HL1.out).mono ?_
  rintro e wx1 ⟨ux1, rfl, rc, sh, b⟩
  obtain ⟨lo1, hlo1⟩ : ∃ q, q = w4.heap.size := ⟨_, rfl⟩
  obtain ⟨hi1, hhi1⟩ : ∃ q, q = wx1.heap.size := ⟨_, rfl⟩
  have HZ1 : Hid (w4.heap.size ≤ lo1 ∧ lo1 ≤ hi1) := Lib.hid (by rw [hlo1, hhi1]; exact ⟨hsz, b.size⟩)
  have RX1_4 := Lib.hid rc
  have SX1_4 := Lib.hid sh
  obtain ⟨ya1, yc1, eu1, -⟩ := id rc
  subst eu1
  clear rc sh hsz
  have B4_4 := Lib.hid (B4_3.out.trans (b.mono B4_3.out.size))
  clear b B4_3
  have Z1_4 : Hid (hi1 ≤ wx1.heap.size) := Lib.hid (Nat.le_of_eq hhi1)
  rw [← hlo1, ← hhi1] at SX1_4
  clear hlo1 hhi1
  go_wp2_with fail
  refine (iNegateAll_any x0 _ x1 wx1 RX1_4.out).mono ?_
  rintro e w7 ⟨v7, rfl, o7, b⟩
  rw [← HYS.out] at o7
  have G_5 := Lib.hid (gLits_of_own o7)
  obtain ⟨a7, c7, e7⟩ := (gLits_of_own o7).slice
  rw [e7] at G_5 ⊢
  obtain ⟨g6, hg6⟩ : ∃ q, q = wx1.heap.size := ⟨_, rfl⟩
  rw [← hg6] at G_5
  have HG6 : Hid (w4.heap.size ≤ g6 ∧ hi1 ≤ g6) := Lib.hid (by rw [hg6]; exact ⟨B4_4.out.size, Z1_4.out⟩)
  clear o7 e7 hg6
  rw [← HZS.out]
  clear Z1_4
  have B4_5 := Lib.hid (B4_4.out.trans (b.mono B4_4.out.size))
  have RX1_5 := Lib.hid (RX1_4.out.below b)
  have SX1_5 := Lib.hid (SX1_4.out.below b)
  clear b B4_4 RX1_4 SX1_4
  go_wp2_with fail
  refine (eqLiteralS_same _ _ ys w7 G_5.out.1 (RW.out.below B4_5.out)).mono ?_
  rintro e w8 ⟨rfl, b⟩
  have B4_6 := Lib.hid (B4_5.out.trans (b.mono B4_5.out.size))
  have RX1_6 := Lib.hid (RX1_5.out.below b)
  have SX1_6 := Lib.hid (SX1_5.out.below b)
  have G_6 := Lib.hid (G_5.out.below b)
  clear b B4_5 RX1_5 SX1_5 G_5
  go_wp2_with fail
  refine (toLiteralS_sh _ x1 w8 (KA1.out.below B4_6.out) HL1.out).mono ?_
  rintro e w9 ⟨vq1, rfl, rc, -, b⟩
  obtain ⟨qa1, qc1, eq1, -⟩ := id rc
  subst eq1
  have RQ_7 := Lib.hid rc
  clear rc
  have B4_7 := Lib.hid (B4_6.out.trans (b.mono B4_6.out.size))
  have RX1_7 := Lib.hid (RX1_6.out.below b)
  have SX1_7 := Lib.hid (SX1_6.out.below b)
  have G_7 := Lib.hid (G_6.out.below b)
  clear b B4_6 RX1_6 SX1_6 G_6
  go_wp2_with fail
  refine (eqLiteralS_same _ _ x1 w9 RX1_7.out RQ_7.out).mono ?_
  rintro e w10 ⟨rfl, b⟩
  clear RQ_7
  have B4_8 := Lib.hid (B4_7.out.trans (b.mono B4_7.out.size))
  have RX1_8 := Lib.hid (RX1_7.out.below b)
  have SX1_8 := Lib.hid (SX1_7.out.below b)
  have G_8 := Lib.hid (G_7.out.below b)
  clear b B4_7 RX1_7 SX1_7 G_7
  clear RX1_8
  go_wp2_with fail
  refine (markLiteralS_sh lo1 hi1 _ 1 w10 SX1_8.out (by omega) (by omega)).mono ?_
  rintro e w11 ⟨k1, rfl, hk1a, hk1b, mm⟩
  clear SX1_8
  have B4_9 := Lib.hid (below_marked B4_8.out mm HZ1.out.1 B4_8.out.size)
  have G_9 := Lib.hid (G_8.out.marked mm (by have := HG6.out; omega))
  clear mm B4_8 G_8
  have hkn : decide (k1 < 0) = false := by simp; omega
  go_wp2_with fail
  refine (eqLiteralS_same _ _ ys w11 G_9.out.1 (RW.out.below B4_9.out)).mono ?_
  rintro e w12 ⟨rfl, b⟩
  have B4_10 := Lib.hid (B4_9.out.trans (b.mono B4_9.out.size))
  have G_10 := Lib.hid (G_9.out.below b)
  clear b B4_9 G_9
  go_wp2_with fail
  refine (markLiteralS_any g6 _ _ ys.length 1 w12 G_10.out.sh HYL.out (by omega) (by omega)).mono ?_
  rintro e w13 ⟨rfl, mm, rr⟩
  have HH_11 := Lib.hid rr
  have B4_11 := Lib.hid (below_marked B4_10.out mm HG6.out.1 B4_10.out.size)
  clear mm rr G_10 B4_10
  have hyl := HYL.out
  go_wp2_with fail
  refine (heldLiteralS_any _ ys.length 1 w13 HH_11.out HYL.out (by omega) (by omega)).mono ?_
  rintro e w' ⟨rfl, rfl⟩
  have hq1 : decide ((1 : Int) + 3 * (ys.length : Int) < 0) = false := by simp; omega
  have hq2 : ((1 : Int) + 3 * (ys.length : Int) != 1 + 3 * (ys.length : Int)) = false := by simp
  go_wp2_with fail
  refine (toLiteralS_sh _ x1 w13 (KA1.out.below B4_11.out) HL1.out).mono ?_
  rintro e wd1 ⟨ud1, rfl, rc, -, b⟩
  have Rd1_12 := Lib.hid rc
  clear rc
  have B4_12 := Lib.hid (B4_11.out.trans (b.mono B4_11.out.size))
  have HH_12 := Lib.hid (HH_11.out.below b)
  clear b B4_11 HH_11
  go_wp2_with fail
  refine (iNegateAll_any x0 _ x1 wd1 Rd1_12.out).mono ?_
  rintro e w14 ⟨v9, rfl, o9, b⟩
  rw [← HYS.out] at o9
  have H9_13 := Lib.hid (o9.rdN)
  obtain ⟨a9, n9, c9, e9⟩ := o9.slice3
  rw [e9] at H9_13 ⊢
  clear o9 e9
  rw [← HZS.out]
  clear Rd1_12
  have B4_13 := Lib.hid (B4_12.out.trans (b.mono B4_12.out.size))
  have HH_13 := Lib.hid (HH_12.out.below b)
  clear b B4_12 HH_12
  go_wp2_with fail
  refine (eqLiteralS_same _ _ ys w14 H9_13.out (RW.out.below B4_13.out)).mono ?_
  rintro e w15 ⟨rfl, b⟩
  have B4_14 := Lib.hid (B4_13.out.trans (b.mono B4_13.out.size))
  have HH_14 := Lib.hid (HH_13.out.below b)
  have H9_14 := Lib.hid (H9_13.out.below b)
  clear b B4_13 HH_13 H9_13
  go_wp2_with fail
  refine (heldLiteralS_any _ ys.length 1 w15 HH_14.out HYL.out (by omega) (by omega)).mono ?_
  rintro e w' ⟨rfl, rfl⟩
  go_wp2
  go_ret
  exact ⟨rfl, KB.out.trans (B4_14.out.mono KB.out.size)⟩
end Go.Proofs.Ytipapmmjfoaddaa
