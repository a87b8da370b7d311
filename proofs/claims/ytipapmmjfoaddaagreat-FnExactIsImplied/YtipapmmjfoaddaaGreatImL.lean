/- The law of IsImplied. -/
import Derived.Test.YtipapmmjfoaddaaGreatImp
import Derived.Test.YtipapmmjfoaddaaGreatLitM
import Derived.Test.YtipapmmjfoaddaaGreatMkC
import Derived.Deep.RegionHeld3
namespace Go.Proofs.YtipapmmjfoaddaaGreat
open Go.ChangeShapes Go.WideShapes Go.ChangeAt Go.RowKit
set_option linter.unusedVariables false
set_option linter.unusedSimpArgs false

set_option maxRecDepth 100000 in
set_option maxHeartbeats 16000000 in
theorem law_im (v0 : Value) (v1 : Value) (v2 : Value) (x0 : Mod) (x1 : List (List Lit)) (x2 : List Lit) (w : World) (h0 : RdModel w v0 x0) (h1 : RdClz w v1 x1) (h2 : RdLits w v2 x2) :
    Calls Tryz.prog 9 #[v0, v1, v2] w (SamePostB w) := by
  obtain ⟨a0_1, a0_2, c0_1, c0_2, rfl, _⟩ := rdModel_slices h0
  obtain ⟨a1, c1, ev1, -⟩ := id h1
  rw [ev1] at h1 ⊢
  have hc1 := (rdClz_len h1).2.1
  have hd1 := (rdClz_len h1).2.2
  obtain ⟨a2, c2, ev2, -⟩ := id h2
  rw [ev2] at h2 ⊢
  have hc2 := (rdLits_len h2).2.1
  have hd2 := (rdLits_len h2).2.2
  obtain ⟨W1, hW1⟩ : ∃ W1, w.alloc (.cells #[.slice a0_1 x0.doms.length c0_1, .slice a0_2 x0.cons.length c0_2] 25) = W1 := ⟨_, rfl⟩
  have B1 : Below w.heap.size w W1 := by rw [← hW1]; exact (Below.refl _ _).alloc (Nat.le_refl _) _
  have bP0 : Blk2 W1 w.heap.size 25 (.slice a0_1 x0.doms.length c0_1) (.slice a0_2 x0.cons.length c0_2) := by rw [← hW1]; exact Blk2.new w _ _ _ 
  have HW := Lib.hid hW1
  have HB_1 := Lib.hid B1
  have HP0_1 := Lib.hid bP0
  have HA0_1 := Lib.hid (h0.below B1)
  have HA1_1 := Lib.hid (h1.below B1)
  have HA2_1 := Lib.hid (h2.below B1)
  clear hW1 B1 bP0 h0 h1 h2 ev1 ev2
  go_enter Tryz.func9, Tryz.ntmps9
  go_wp2_with fail
  rw [HW.out]
  refine (szModel_any _ x0 1048576 W1 HA0_1.out (by omega) (by omega)).mono ?_
  rintro e w2 ⟨r, rfl, _, _, hq, b⟩
  have HQ := Lib.hid hq
  clear hq HW
  have HB_2 := Lib.hid (HB_1.out.trans (b.mono HB_1.out.size))
  have HA0_2 := Lib.hid (HA0_1.out.below b)
  have HA1_2 := Lib.hid (HA1_1.out.below b)
  have HA2_2 := Lib.hid (HA2_1.out.below b)
  have HP0_2 := Lib.hid (HP0_1.out.below b)
  clear b HB_1 HA0_1 HA1_1 HA2_1 HP0_1
  by_cases hr : r < 0
  · go_wp2
    go_ret
    exact ⟨rfl, HB_2.out⟩
  have HL0 : Hid (ModLe x0 1048576) := Lib.hid (HQ.out (by omega))
  clear HQ
  go_wp2_with fail
  refine (szLiteralSS_any _ x1 r w2 HA1_2.out (by omega) (by omega)).mono ?_
  rintro e w' ⟨r1, rfl, _, _, hq, rfl⟩
  have HQ := Lib.hid hq
  clear hq
  by_cases hr1 : r1 < 0
  · go_wp2
    go_ret
    exact ⟨rfl, HB_2.out⟩
  have HL1 : Hid (ClzLe x1 1048576) := Lib.hid ((HQ.out (by omega)).mono (by omega))
  clear HQ
  go_wp2_with fail
  refine (szLiteralS_any _ x2 r1 w2 HA2_2.out (by omega) (by omega)).mono ?_
  rintro e w' ⟨r2, rfl, _, _, hq, rfl⟩
  have HQ := Lib.hid hq
  clear hq
  by_cases hr2 : r2 < 0
  · go_wp2
    go_ret
    exact ⟨rfl, HB_2.out⟩
  have HL2 : Hid (x2.length ≤ 1048576) := Lib.hid (by have := HQ.out (by omega); omega)
  clear HQ
  obtain ⟨p0_0, p0_1⟩ := HP0_2.out.cell
  go_wp2_with fail
  refine (toModel_sh _ x0 w2 HA0_2.out HL0.out).mono ?_
  rintro e wc0 ⟨uc0, rfl, rc, -, b⟩
  have Rc0_3 := Lib.hid rc
  clear rc
  clear p0_0 p0_1
  have HB_3 := Lib.hid (HB_2.out.trans (b.mono HB_2.out.size))
  have HA0_3 := Lib.hid (HA0_2.out.below b)
  have HA1_3 := Lib.hid (HA1_2.out.below b)
  have HA2_3 := Lib.hid (HA2_2.out.below b)
  have HP0_3 := Lib.hid (HP0_2.out.below b)
  clear b HB_2 HA0_2 HA1_2 HA2_2 HP0_2
  go_wp2_with fail
  refine (toLiteralSS_sh _ x1 wc0 HA1_3.out HL1.out).mono ?_
  rintro e wc1 ⟨uc1, rfl, rc, -, b⟩
  have Rc1_4 := Lib.hid rc
  clear rc
  have HB_4 := Lib.hid (HB_3.out.trans (b.mono HB_3.out.size))
  have HA0_4 := Lib.hid (HA0_3.out.below b)
  have HA1_4 := Lib.hid (HA1_3.out.below b)
  have HA2_4 := Lib.hid (HA2_3.out.below b)
  have HP0_4 := Lib.hid (HP0_3.out.below b)
  have Rc0_4 := Lib.hid (Rc0_3.out.below b)
  clear b HB_3 HA0_3 HA1_3 HA2_3 HP0_3 Rc0_3
  go_wp2_with fail
  refine (toLiteralS_sh _ x2 wc1 HA2_4.out HL2.out).mono ?_
  rintro e wc2 ⟨uc2, rfl, rc, -, b⟩
  have Rc2_5 := Lib.hid rc
  clear rc
  have HB_5 := Lib.hid (HB_4.out.trans (b.mono HB_4.out.size))
  have HA0_5 := Lib.hid (HA0_4.out.below b)
  have HA1_5 := Lib.hid (HA1_4.out.below b)
  have HA2_5 := Lib.hid (HA2_4.out.below b)
  have HP0_5 := Lib.hid (HP0_4.out.below b)
  have Rc0_5 := Lib.hid (Rc0_4.out.below b)
  have Rc1_5 := Lib.hid (Rc1_4.out.below b)
  clear b HB_4 HA0_4 HA1_4 HA2_4 HP0_4 Rc0_4 Rc1_4
  go_wp2_with fail
  refine (sIsImplied_any x0 _ _ _ x1 x2 wc2 Rc0_5.out HL0.out Rc1_5.out Rc2_5.out).mono ?_
  rintro e w4 ⟨rfl, b⟩
  obtain ⟨ys, hys⟩ : ∃ ys, ys = impB x0 x1 x2 := ⟨_, rfl⟩
  rw [← hys]
  have HYS := Lib.hid hys
  clear hys
  clear Rc0_5
  clear Rc1_5
  clear Rc2_5
  have HB_6 := Lib.hid (HB_5.out.trans (b.mono HB_5.out.size))
  have HA0_6 := Lib.hid (HA0_5.out.below b)
  have HA1_6 := Lib.hid (HA1_5.out.below b)
  have HA2_6 := Lib.hid (HA2_5.out.below b)
  have HP0_6 := Lib.hid (HP0_5.out.below b)
  clear b HB_5 HA0_5 HA1_5 HA2_5 HP0_5
  have KA0 := HA0_6
  have KA1 := HA1_6
  have KA2 := HA2_6
  have KP0 := HP0_6
  have KB := HB_6
  clear HB_6 HA0_6 HA1_6 HA2_6 HP0_6
  have B4_6 := Lib.hid (Below.refl w4.heap.size w4)
  obtain ⟨p0_0, p0_1⟩ := (KP0.out.below B4_6.out).cell
  have hsz : w4.heap.size ≤ w4.heap.size := B4_6.out.size
  go_wp2_with fail
  refine (toModel_sh _ x0 w4 (KA0.out.below B4_6.out) HL0.out).mono ?_
  rintro e wx0 ⟨ux0, rfl, rc, sh, b⟩
  obtain ⟨lo0, hlo0⟩ : ∃ q, q = w4.heap.size := ⟨_, rfl⟩
  obtain ⟨hi0, hhi0⟩ : ∃ q, q = wx0.heap.size := ⟨_, rfl⟩
  have HZ0 : Hid (w4.heap.size ≤ lo0 ∧ lo0 ≤ hi0) := Lib.hid (by rw [hlo0, hhi0]; exact ⟨hsz, b.size⟩)
  have RX0_7 := Lib.hid rc
  have SX0_7 := Lib.hid sh
  obtain ⟨ya0_1, ya0_2, yc0_1, yc0_2, eu0, _⟩ := rdModel_slices rc
  subst eu0
  clear p0_0 p0_1
  clear rc sh hsz
  have B4_7 := Lib.hid (B4_6.out.trans (b.mono B4_6.out.size))
  clear b B4_6
  have Z0_7 : Hid (hi0 ≤ wx0.heap.size) := Lib.hid (Nat.le_of_eq hhi0)
  rw [← hlo0, ← hhi0] at SX0_7
  go_wp2_with fail
  obtain ⟨WX0, hWX⟩ : ∃ q, wx0.alloc (.cells #[.slice ya0_1 x0.doms.length yc0_1, .slice ya0_2 x0.cons.length yc0_2] 30) = q := ⟨_, rfl⟩
  have b : Below wx0.heap.size wx0 WX0 := by rw [← hWX]; exact (Below.refl _ _).alloc (Nat.le_refl _) _
  have bX : Blk2 WX0 wx0.heap.size 30 (.slice ya0_1 x0.doms.length yc0_1) (.slice ya0_2 x0.cons.length yc0_2) := by rw [← hWX]; exact Blk2.new wx0 _ _ _ 
  rw [hWX]
  have hxs : WX0.heap.size = wx0.heap.size + 1 := by rw [← hWX, World.size_alloc]
  have HX0_8 := Lib.hid bX
  clear hWX bX
  have B4_8 := Lib.hid (B4_7.out.trans (b.mono B4_7.out.size))
  have RX0_8 := Lib.hid (RX0_7.out.below b)
  have SX0_8 := Lib.hid (SX0_7.out.below b)
  have Z0_8 := Lib.hid (Nat.le_trans Z0_7.out b.size)
  clear b B4_7 RX0_7 SX0_7 Z0_7
  rw [← hhi0] at HX0_8 hxs ⊢
  have HXS0 := Lib.hid hxs
  clear hxs
  clear hlo0 hhi0
  have hsz : w4.heap.size ≤ WX0.heap.size := B4_8.out.size
  go_wp2_with fail
  refine (toLiteralSS_sh _ x1 WX0 (KA1.out.below B4_8.out) HL1.out).mono ?_
  rintro e wx1 ⟨ux1, rfl, rc, sh, b⟩
  obtain ⟨lo1, hlo1⟩ : ∃ q, q = WX0.heap.size := ⟨_, rfl⟩
  obtain ⟨hi1, hhi1⟩ : ∃ q, q = wx1.heap.size := ⟨_, rfl⟩
  have HZ1 : Hid (w4.heap.size ≤ lo1 ∧ lo1 ≤ hi1) := Lib.hid (by rw [hlo1, hhi1]; exact ⟨hsz, b.size⟩)
  have RX1_9 := Lib.hid rc
  have SX1_9 := Lib.hid sh
  obtain ⟨ya1, yc1, eu1, -⟩ := id rc
  subst eu1
  clear rc sh hsz
  have B4_9 := Lib.hid (B4_8.out.trans (b.mono B4_8.out.size))
  have RX0_9 := Lib.hid (RX0_8.out.below b)
  have SX0_9 := Lib.hid (SX0_8.out.below b)
  have Z0_9 := Lib.hid (Nat.le_trans Z0_8.out b.size)
  have HX0_9 := Lib.hid (HX0_8.out.below b)
  clear b B4_8 RX0_8 SX0_8 Z0_8 HX0_8
  have Z1_9 : Hid (hi1 ≤ wx1.heap.size) := Lib.hid (Nat.le_of_eq hhi1)
  rw [← hlo1, ← hhi1] at SX1_9
  clear hlo1 hhi1
  have hsz : w4.heap.size ≤ wx1.heap.size := B4_9.out.size
  go_wp2_with fail
  refine (toLiteralS_sh _ x2 wx1 (KA2.out.below B4_9.out) HL2.out).mono ?_
  rintro e wx2 ⟨ux2, rfl, rc, sh, b⟩
  obtain ⟨lo2, hlo2⟩ : ∃ q, q = wx1.heap.size := ⟨_, rfl⟩
  obtain ⟨hi2, hhi2⟩ : ∃ q, q = wx2.heap.size := ⟨_, rfl⟩
  have HZ2 : Hid (w4.heap.size ≤ lo2 ∧ lo2 ≤ hi2) := Lib.hid (by rw [hlo2, hhi2]; exact ⟨hsz, b.size⟩)
  have RX2_10 := Lib.hid rc
  have SX2_10 := Lib.hid sh
  obtain ⟨ya2, yc2, eu2, -⟩ := id rc
  subst eu2
  clear rc sh hsz
  have B4_10 := Lib.hid (B4_9.out.trans (b.mono B4_9.out.size))
  have RX0_10 := Lib.hid (RX0_9.out.below b)
  have SX0_10 := Lib.hid (SX0_9.out.below b)
  have Z0_10 := Lib.hid (Nat.le_trans Z0_9.out b.size)
  have HX0_10 := Lib.hid (HX0_9.out.below b)
  have RX1_10 := Lib.hid (RX1_9.out.below b)
  have SX1_10 := Lib.hid (SX1_9.out.below b)
  have Z1_10 := Lib.hid (Nat.le_trans Z1_9.out b.size)
  clear b B4_9 RX0_9 SX0_9 Z0_9 HX0_9 RX1_9 SX1_9 Z1_9
  have Z2_10 : Hid (hi2 ≤ wx2.heap.size) := Lib.hid (Nat.le_of_eq hhi2)
  rw [← hlo2, ← hhi2] at SX2_10
  clear hlo2 hhi2
  obtain ⟨x0_0, x0_1⟩ := HX0_10.out.cell
  go_wp2_with fail
  refine (iIsImplied_any x0 _ _ _ x1 x2 wx2 RX0_10.out HL0.out RX1_10.out RX2_10.out).mono ?_
  rintro e w7 ⟨rfl, b⟩
  rw [← HYS.out]
  clear x0_0 x0_1
  clear Z0_10
  clear Z1_10
  clear Z2_10
  have B4_11 := Lib.hid (B4_10.out.trans (b.mono B4_10.out.size))
  have RX0_11 := Lib.hid (RX0_10.out.below b)
  have SX0_11 := Lib.hid (SX0_10.out.below b)
  have HX0_11 := Lib.hid (HX0_10.out.below b)
  have RX1_11 := Lib.hid (RX1_10.out.below b)
  have SX1_11 := Lib.hid (SX1_10.out.below b)
  have RX2_11 := Lib.hid (RX2_10.out.below b)
  have SX2_11 := Lib.hid (SX2_10.out.below b)
  clear b B4_10 RX0_10 SX0_10 HX0_10 RX1_10 SX1_10 RX2_10 SX2_10
  cases ys
  all_goals
    obtain ⟨x0_0, x0_1⟩ := HX0_11.out.cell
    obtain ⟨p0_0, p0_1⟩ := (KP0.out.below B4_11.out).cell
    have B4_12 := Lib.hid (B4_11.out.drew)
    have RX0_12 := Lib.hid (RX0_11.out.below (Below.refl _ w7).drew)
    have SX0_12 := Lib.hid (SX0_11.out.below (Below.refl _ w7).drew)
    have HX0_12 := Lib.hid (HX0_11.out.below (Below.refl _ w7).drew)
    have RX1_12 := Lib.hid (RX1_11.out.below (Below.refl _ w7).drew)
    have SX1_12 := Lib.hid (SX1_11.out.below (Below.refl _ w7).drew)
    have RX2_12 := Lib.hid (RX2_11.out.below (Below.refl _ w7).drew)
    have SX2_12 := Lib.hid (SX2_11.out.below (Below.refl _ w7).drew)
    clear B4_11 RX0_11 SX0_11 HX0_11 RX1_11 SX1_11 RX2_11 SX2_11
    go_wp2
    go_region_held3 (fun w' => w'.cell? ⟨hi0, 0, none⟩ = some (.slice ya0_1 x0.doms.length yc0_1) ∧ w'.cell? ⟨hi0, 1, none⟩ = some (.slice ya0_2 x0.cons.length yc0_2) ∧ w'.cell? ⟨w.heap.size, 0, none⟩ = some (.slice a0_1 x0.doms.length c0_1) ∧ w'.cell? ⟨w.heap.size, 1, none⟩ = some (.slice a0_2 x0.cons.length c0_2)) (first | go_keep | exact ⟨y0_0, y0_1, r0_0, r0_1⟩ | exact ⟨z0_0, z0_1, q0_0, q0_1⟩ | exact ⟨x0_0, x0_1, p0_0, p0_1⟩) (first | (go_at_call 12; refine (toModel_sh _ x0 _ (KA0.out.below B4_12.out) HL0.out).mono ?_; rintro e w8 ⟨vq, rfl, rc, -, b⟩; have RQ := Lib.hid rc; have B4_13 := Lib.hid (B4_12.out.trans (b.mono B4_12.out.size)); have RX0_13 := Lib.hid (RX0_12.out.below b); have SX0_13 := Lib.hid (SX0_12.out.below b); have HX0_13 := Lib.hid (HX0_12.out.below b); have RX1_13 := Lib.hid (RX1_12.out.below b); have SX1_13 := Lib.hid (SX1_12.out.below b); have RX2_13 := Lib.hid (RX2_12.out.below b); have SX2_13 := Lib.hid (SX2_12.out.below b); obtain ⟨z0_0, z0_1⟩ := HX0_13.out.cell; obtain ⟨q0_0, q0_1⟩ := (KP0.out.below B4_13.out).cell; clear b rc) | (go_at_call 15; refine (eqModel_same _ _ x0 _ RX0_13.out RQ.out).mono ?_; rintro e w9 ⟨rfl, b⟩; have B4_14 := Lib.hid (B4_13.out.trans (b.mono B4_13.out.size)); have RX0_14 := Lib.hid (RX0_13.out.below b); have SX0_14 := Lib.hid (SX0_13.out.below b); have HX0_14 := Lib.hid (HX0_13.out.below b); have RX1_14 := Lib.hid (RX1_13.out.below b); have SX1_14 := Lib.hid (SX1_13.out.below b); have RX2_14 := Lib.hid (RX2_13.out.below b); have SX2_14 := Lib.hid (SX2_13.out.below b); obtain ⟨y0_0, y0_1⟩ := HX0_14.out.cell; obtain ⟨r0_0, r0_1⟩ := (KP0.out.below B4_14.out).cell; clear b))
    clear RQ x0_0 x0_1 p0_0 p0_1 z0_0 z0_1 q0_0 q0_1 y0_0 y0_1 r0_0 r0_1
    clear B4_12 B4_13 RX0_12 RX0_13 SX0_12 SX0_13 HX0_12 HX0_13 RX1_12 RX1_13 SX1_12 SX1_13 RX2_12 RX2_13 SX2_12 SX2_13
    go_wp2_with fail
    refine (toLiteralSS_sh _ x1 w9 (KA1.out.below B4_14.out) HL1.out).mono ?_
    rintro e w10 ⟨vq1, rfl, rc, -, b⟩
    obtain ⟨qa1, qc1, eq1, -⟩ := id rc
    subst eq1
    have RQ_15 := Lib.hid rc
    clear rc
    have B4_15 := Lib.hid (B4_14.out.trans (b.mono B4_14.out.size))
    have RX0_15 := Lib.hid (RX0_14.out.below b)
    have SX0_15 := Lib.hid (SX0_14.out.below b)
    have HX0_15 := Lib.hid (HX0_14.out.below b)
    have RX1_15 := Lib.hid (RX1_14.out.below b)
    have SX1_15 := Lib.hid (SX1_14.out.below b)
    have RX2_15 := Lib.hid (RX2_14.out.below b)
    have SX2_15 := Lib.hid (SX2_14.out.below b)
    clear b B4_14 RX0_14 SX0_14 HX0_14 RX1_14 SX1_14 RX2_14 SX2_14
    go_wp2_with fail
    refine (eqLiteralSS_sameB _ _ x1 w10 RX1_15.out RQ_15.out).mono ?_
    rintro e w11 ⟨rfl, b⟩
    clear RQ_15
    have B4_16 := Lib.hid (B4_15.out.trans (b.mono B4_15.out.size))
    have RX0_16 := Lib.hid (RX0_15.out.below b)
    have SX0_16 := Lib.hid (SX0_15.out.below b)
    have HX0_16 := Lib.hid (HX0_15.out.below b)
    have RX1_16 := Lib.hid (RX1_15.out.below b)
    have SX1_16 := Lib.hid (SX1_15.out.below b)
    have RX2_16 := Lib.hid (RX2_15.out.below b)
    have SX2_16 := Lib.hid (SX2_15.out.below b)
    clear b B4_15 RX0_15 SX0_15 HX0_15 RX1_15 SX1_15 RX2_15 SX2_15
    go_wp2_with fail
    refine (toLiteralS_sh _ x2 w11 (KA2.out.below B4_16.out) HL2.out).mono ?_
    rintro e w12 ⟨vq2, rfl, rc, -, b⟩
    obtain ⟨qa2, qc2, eq2, -⟩ := id rc
    subst eq2
    have RQ_17 := Lib.hid rc
    clear rc
    have B4_17 := Lib.hid (B4_16.out.trans (b.mono B4_16.out.size))
    have RX0_17 := Lib.hid (RX0_16.out.below b)
    have SX0_17 := Lib.hid (SX0_16.out.below b)
    have HX0_17 := Lib.hid (HX0_16.out.below b)
    have RX1_17 := Lib.hid (RX1_16.out.below b)
    have SX1_17 := Lib.hid (SX1_16.out.below b)
    have RX2_17 := Lib.hid (RX2_16.out.below b)
    have SX2_17 := Lib.hid (SX2_16.out.below b)
    clear b B4_16 RX0_16 SX0_16 HX0_16 RX1_16 SX1_16 RX2_16 SX2_16
    go_wp2_with fail
    refine (eqLiteralS_same _ _ x2 w12 RX2_17.out RQ_17.out).mono ?_
    rintro e w13 ⟨rfl, b⟩
    clear RQ_17
    have B4_18 := Lib.hid (B4_17.out.trans (b.mono B4_17.out.size))
    have RX0_18 := Lib.hid (RX0_17.out.below b)
    have SX0_18 := Lib.hid (SX0_17.out.below b)
    have HX0_18 := Lib.hid (HX0_17.out.below b)
    have RX1_18 := Lib.hid (RX1_17.out.below b)
    have SX1_18 := Lib.hid (SX1_17.out.below b)
    have RX2_18 := Lib.hid (RX2_17.out.below b)
    have SX2_18 := Lib.hid (SX2_17.out.below b)
    clear b B4_17 RX0_17 SX0_17 HX0_17 RX1_17 SX1_17 RX2_17 SX2_17
    go_wp2
    go_ret
    exact ⟨rfl, KB.out.trans (B4_18.out.mono KB.out.size)⟩
end Go.Proofs.YtipapmmjfoaddaaGreat
