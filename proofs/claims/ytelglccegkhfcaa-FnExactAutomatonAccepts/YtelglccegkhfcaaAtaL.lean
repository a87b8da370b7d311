/- The law of AutomatonAccepts. -/
import Derived.Test.YtelglccegkhfcaaAta
import Derived.Test.YtelglccegkhfcaaMkC
import Derived.Deep.RegionHeld3
namespace Go.Proofs.Ytelglccegkhfcaa
open Go.ChangeShapes Go.WideShapes Go.ChangeAt Go.RowKit
set_option linter.unusedVariables false
set_option linter.unusedSimpArgs false

set_option maxRecDepth 100000 in
set_option maxHeartbeats 16000000 in
theorem law_ata (v0 : Value) (v1 : Value) (x0 : Aut) (x1 : List Int) (w : World) (h0 : RdAut w v0 x0) (h1 : RdInts w v1 x1) :
    Calls Try.prog 13 #[v0, v1] w (SamePostB w) := by
  obtain ⟨a0_1, a0_2, c0_1, c0_2, rfl, _⟩ := rdAut_slices h0
  obtain ⟨a1, c1, ev1, -⟩ := id h1
  rw [ev1] at h1 ⊢
  have hc1 := (rdInts_cap h1).2
  obtain ⟨W1, hW1⟩ : ∃ W1, w.alloc (.cells #[.slice a0_1 x0.next.length c0_1, .slice a0_2 x0.fin.length c0_2] 64) = W1 := ⟨_, rfl⟩
  have B1 : Below w.heap.size w W1 := by rw [← hW1]; exact (Below.refl _ _).alloc (Nat.le_refl _) _
  have bP0 : Blk2 W1 w.heap.size 64 (.slice a0_1 x0.next.length c0_1) (.slice a0_2 x0.fin.length c0_2) := by rw [← hW1]; exact Blk2.new w _ _ _ 
  have HW := Lib.hid hW1
  have HB_1 := Lib.hid B1
  have HP0_1 := Lib.hid bP0
  have HA0_1 := Lib.hid (h0.below B1)
  have HA1_1 := Lib.hid (h1.below B1)
  clear hW1 B1 bP0 h0 h1 ev1
  by_cases hbig1 : (x1.length : Int) > 1048576
  · go_enter Try.func13, Try.ntmps13
    go_wp2
    rw [HW.out]
    go_ret
    exact ⟨rfl, HB_1.out⟩
  have hx1 : x1.length ≤ 1048576 := by omega
  go_enter Try.func13, Try.ntmps13
  go_wp2_with fail
  rw [HW.out]
  refine (szAutomaton_any _ x0 1048576 W1 HA0_1.out (by omega) (by omega)).mono ?_
  rintro e w2 ⟨r, rfl, _, _, hq, b⟩
  have HQ := Lib.hid hq
  clear hq HW
  have HB_2 := Lib.hid (HB_1.out.trans (b.mono HB_1.out.size))
  have HA0_2 := Lib.hid (HA0_1.out.below b)
  have HA1_2 := Lib.hid (HA1_1.out.below b)
  have HP0_2 := Lib.hid (HP0_1.out.below b)
  clear b HB_1 HA0_1 HA1_1 HP0_1
  by_cases hr : r < 0
  · go_wp2
    go_ret
    exact ⟨rfl, HB_2.out⟩
  have HL0 : Hid (AutLe x0 1048576) := Lib.hid (HQ.out (by omega))
  clear HQ
  obtain ⟨p0_0, p0_1⟩ := HP0_2.out.cell
  go_wp2_with fail
  refine (toAutomaton_sh _ x0 w2 HA0_2.out HL0.out).mono ?_
  rintro e wc0 ⟨uc0, rfl, rc, -, b⟩
  have Rc0_3 := Lib.hid rc
  clear rc
  clear p0_0 p0_1
  have HB_3 := Lib.hid (HB_2.out.trans (b.mono HB_2.out.size))
  have HA0_3 := Lib.hid (HA0_2.out.below b)
  have HA1_3 := Lib.hid (HA1_2.out.below b)
  have HP0_3 := Lib.hid (HP0_2.out.below b)
  clear b HB_2 HA0_2 HA1_2 HP0_2
  go_wp2_with fail
  refine (toIntS_sh _ x1 wc0 HA1_3.out hx1).mono ?_
  rintro e wc1 ⟨uc1, rfl, rc, -, b⟩
  have Rc1_4 := Lib.hid rc
  clear rc
  have HB_4 := Lib.hid (HB_3.out.trans (b.mono HB_3.out.size))
  have HA0_4 := Lib.hid (HA0_3.out.below b)
  have HA1_4 := Lib.hid (HA1_3.out.below b)
  have HP0_4 := Lib.hid (HP0_3.out.below b)
  have Rc0_4 := Lib.hid (Rc0_3.out.below b)
  clear b HB_3 HA0_3 HA1_3 HP0_3 Rc0_3
  go_wp2_with fail
  refine (sAccepts_any _ _ x0 x1 wc1 Rc0_4.out Rc1_4.out).mono ?_
  rintro e w4 ⟨rfl, b⟩
  obtain ⟨ys, hys⟩ : ∃ ys, ys = atcB x0 x1 := ⟨_, rfl⟩
  rw [← hys]
  have HYS := Lib.hid hys
  clear hys
  clear Rc0_4
  clear Rc1_4
  have HB_5 := Lib.hid (HB_4.out.trans (b.mono HB_4.out.size))
  have HA0_5 := Lib.hid (HA0_4.out.below b)
  have HA1_5 := Lib.hid (HA1_4.out.below b)
  have HP0_5 := Lib.hid (HP0_4.out.below b)
  clear b HB_4 HA0_4 HA1_4 HP0_4
  have KA0 := HA0_5
  have KA1 := HA1_5
  have KP0 := HP0_5
  have KB := HB_5
  clear HB_5 HA0_5 HA1_5 HP0_5
  have B4_5 := Lib.hid (Below.refl w4.heap.size w4)
  obtain ⟨p0_0, p0_1⟩ := (KP0.out.below B4_5.out).cell
  have hsz : w4.heap.size ≤ w4.heap.size := B4_5.out.size
  go_wp2_with fail
  refine (toAutomaton_sh _ x0 w4 (KA0.out.below B4_5.out) HL0.out).mono ?_
  rintro e wx0 ⟨ux0, rfl, rc, sh, b⟩
  obtain ⟨lo0, hlo0⟩ : ∃ q, q = w4.heap.size := ⟨_, rfl⟩
  obtain ⟨hi0, hhi0⟩ : ∃ q, q = wx0.heap.size := ⟨_, rfl⟩
  have HZ0 : Hid (w4.heap.size ≤ lo0 ∧ lo0 ≤ hi0) := Lib.hid (by rw [hlo0, hhi0]; exact ⟨hsz, b.size⟩)
  have RX0_6 := Lib.hid rc
  have SX0_6 := Lib.hid sh
  obtain ⟨ya0_1, ya0_2, yc0_1, yc0_2, eu0, _⟩ := rdAut_slices rc
  subst eu0
  clear p0_0 p0_1
  clear rc sh hsz
  have B4_6 := Lib.hid (B4_5.out.trans (b.mono B4_5.out.size))
  clear b B4_5
  have Z0_6 : Hid (hi0 ≤ wx0.heap.size) := Lib.hid (Nat.le_of_eq hhi0)
  rw [← hlo0, ← hhi0] at SX0_6
  go_wp2_with fail
  obtain ⟨WX0, hWX⟩ : ∃ q, wx0.alloc (.cells #[.slice ya0_1 x0.next.length yc0_1, .slice ya0_2 x0.fin.length yc0_2] 67) = q := ⟨_, rfl⟩
  have b : Below wx0.heap.size wx0 WX0 := by rw [← hWX]; exact (Below.refl _ _).alloc (Nat.le_refl _) _
  have bX : Blk2 WX0 wx0.heap.size 67 (.slice ya0_1 x0.next.length yc0_1) (.slice ya0_2 x0.fin.length yc0_2) := by rw [← hWX]; exact Blk2.new wx0 _ _ _ 
  rw [hWX]
  have hxs : WX0.heap.size = wx0.heap.size + 1 := by rw [← hWX, World.size_alloc]
  have HX0_7 := Lib.hid bX
  clear hWX bX
  have B4_7 := Lib.hid (B4_6.out.trans (b.mono B4_6.out.size))
  have RX0_7 := Lib.hid (RX0_6.out.below b)
  have SX0_7 := Lib.hid (SX0_6.out.below b)
  have Z0_7 := Lib.hid (Nat.le_trans Z0_6.out b.size)
  clear b B4_6 RX0_6 SX0_6 Z0_6
  rw [← hhi0] at HX0_7 hxs ⊢
  have HXS0 := Lib.hid hxs
  clear hxs
  clear hlo0 hhi0
  have hsz : w4.heap.size ≤ WX0.heap.size := B4_7.out.size
  go_wp2_with fail
  refine (toIntS_sh _ x1 WX0 (KA1.out.below B4_7.out) hx1).mono ?_
  rintro e wx1 ⟨ux1, rfl, rc, sh, b⟩
  obtain ⟨lo1, hlo1⟩ : ∃ q, q = WX0.heap.size := ⟨_, rfl⟩
  obtain ⟨hi1, hhi1⟩ : ∃ q, q = wx1.heap.size := ⟨_, rfl⟩
  have HZ1 : Hid (w4.heap.size ≤ lo1 ∧ lo1 ≤ hi1) := Lib.hid (by rw [hlo1, hhi1]; exact ⟨hsz, b.size⟩)
  have RX1_8 := Lib.hid rc
  have SX1_8 := Lib.hid sh
  obtain ⟨ya1, yc1, eu1, -⟩ := id rc
  subst eu1
  clear rc sh hsz
  have B4_8 := Lib.hid (B4_7.out.trans (b.mono B4_7.out.size))
  have RX0_8 := Lib.hid (RX0_7.out.below b)
  have SX0_8 := Lib.hid (SX0_7.out.below b)
  have Z0_8 := Lib.hid (Nat.le_trans Z0_7.out b.size)
  have HX0_8 := Lib.hid (HX0_7.out.below b)
  clear b B4_7 RX0_7 SX0_7 Z0_7 HX0_7
  have Z1_8 : Hid (hi1 ≤ wx1.heap.size) := Lib.hid (Nat.le_of_eq hhi1)
  rw [← hlo1, ← hhi1] at SX1_8
  clear hlo1 hhi1
  obtain ⟨x0_0, x0_1⟩ := HX0_8.out.cell
  go_wp2_with fail
  refine (iAccepts_any _ _ x0 x1 wx1 RX0_8.out RX1_8.out).mono ?_
  rintro e w7 ⟨rfl, b⟩
  rw [← HYS.out]
  clear x0_0 x0_1
  clear Z0_8
  clear Z1_8
  have B4_9 := Lib.hid (B4_8.out.trans (b.mono B4_8.out.size))
  have RX0_9 := Lib.hid (RX0_8.out.below b)
  have SX0_9 := Lib.hid (SX0_8.out.below b)
  have HX0_9 := Lib.hid (HX0_8.out.below b)
  have RX1_9 := Lib.hid (RX1_8.out.below b)
  have SX1_9 := Lib.hid (SX1_8.out.below b)
  clear b B4_8 RX0_8 SX0_8 HX0_8 RX1_8 SX1_8
  cases ys
  all_goals
    obtain ⟨x0_0, x0_1⟩ := HX0_9.out.cell
    obtain ⟨p0_0, p0_1⟩ := (KP0.out.below B4_9.out).cell
    have B4_10 := Lib.hid (B4_9.out.drew)
    have RX0_10 := Lib.hid (RX0_9.out.below (Below.refl _ w7).drew)
    have SX0_10 := Lib.hid (SX0_9.out.below (Below.refl _ w7).drew)
    have HX0_10 := Lib.hid (HX0_9.out.below (Below.refl _ w7).drew)
    have RX1_10 := Lib.hid (RX1_9.out.below (Below.refl _ w7).drew)
    have SX1_10 := Lib.hid (SX1_9.out.below (Below.refl _ w7).drew)
    clear B4_9 RX0_9 SX0_9 HX0_9 RX1_9 SX1_9
    go_wp2
    go_region_held3 (fun w' => w'.cell? ⟨hi0, 0, none⟩ = some (.slice ya0_1 x0.next.length yc0_1) ∧ w'.cell? ⟨hi0, 1, none⟩ = some (.slice ya0_2 x0.fin.length yc0_2) ∧ w'.cell? ⟨w.heap.size, 0, none⟩ = some (.slice a0_1 x0.next.length c0_1) ∧ w'.cell? ⟨w.heap.size, 1, none⟩ = some (.slice a0_2 x0.fin.length c0_2)) (first | go_keep | exact ⟨y0_0, y0_1, r0_0, r0_1⟩ | exact ⟨z0_0, z0_1, q0_0, q0_1⟩ | exact ⟨x0_0, x0_1, p0_0, p0_1⟩) (first | (go_at_call 49; refine (toAutomaton_sh _ x0 _ (KA0.out.below B4_10.out) HL0.out).mono ?_; rintro e w8 ⟨vq, rfl, rc, -, b⟩; have RQ := Lib.hid rc; have B4_11 := Lib.hid (B4_10.out.trans (b.mono B4_10.out.size)); have RX0_11 := Lib.hid (RX0_10.out.below b); have SX0_11 := Lib.hid (SX0_10.out.below b); have HX0_11 := Lib.hid (HX0_10.out.below b); have RX1_11 := Lib.hid (RX1_10.out.below b); have SX1_11 := Lib.hid (SX1_10.out.below b); obtain ⟨z0_0, z0_1⟩ := HX0_11.out.cell; obtain ⟨q0_0, q0_1⟩ := (KP0.out.below B4_11.out).cell; clear b rc) | (go_at_call 51; refine (eqAutomaton_same _ _ x0 _ RX0_11.out RQ.out).mono ?_; rintro e w9 ⟨rfl, b⟩; have B4_12 := Lib.hid (B4_11.out.trans (b.mono B4_11.out.size)); have RX0_12 := Lib.hid (RX0_11.out.below b); have SX0_12 := Lib.hid (SX0_11.out.below b); have HX0_12 := Lib.hid (HX0_11.out.below b); have RX1_12 := Lib.hid (RX1_11.out.below b); have SX1_12 := Lib.hid (SX1_11.out.below b); obtain ⟨y0_0, y0_1⟩ := HX0_12.out.cell; obtain ⟨r0_0, r0_1⟩ := (KP0.out.below B4_12.out).cell; clear b))
    clear RQ x0_0 x0_1 p0_0 p0_1 z0_0 z0_1 q0_0 q0_1 y0_0 y0_1 r0_0 r0_1
    clear B4_10 B4_11 RX0_10 RX0_11 SX0_10 SX0_11 HX0_10 HX0_11 RX1_10 RX1_11 SX1_10 SX1_11
    go_wp2_with fail
    refine (toIntS_sh _ x1 w9 (KA1.out.below B4_12.out) hx1).mono ?_
    rintro e w10 ⟨vq1, rfl, rc, -, b⟩
    obtain ⟨qa1, qc1, eq1, -⟩ := id rc
    subst eq1
    have RQ_13 := Lib.hid rc
    clear rc
    have B4_13 := Lib.hid (B4_12.out.trans (b.mono B4_12.out.size))
    have RX0_13 := Lib.hid (RX0_12.out.below b)
    have SX0_13 := Lib.hid (SX0_12.out.below b)
    have HX0_13 := Lib.hid (HX0_12.out.below b)
    have RX1_13 := Lib.hid (RX1_12.out.below b)
    have SX1_13 := Lib.hid (SX1_12.out.below b)
    clear b B4_12 RX0_12 SX0_12 HX0_12 RX1_12 SX1_12
    go_wp2_with fail
    refine (eqIntS_same _ _ x1 w10 RX1_13.out RQ_13.out).mono ?_
    rintro e w11 ⟨rfl, kk, ek⟩
    have b : Below w10.heap.size w10 w11 := by rw [ek]; exact drewN_below _ _
    clear ek RQ_13
    have B4_14 := Lib.hid (B4_13.out.trans (b.mono B4_13.out.size))
    have RX0_14 := Lib.hid (RX0_13.out.below b)
    have SX0_14 := Lib.hid (SX0_13.out.below b)
    have HX0_14 := Lib.hid (HX0_13.out.below b)
    have RX1_14 := Lib.hid (RX1_13.out.below b)
    have SX1_14 := Lib.hid (SX1_13.out.below b)
    clear b B4_13 RX0_13 SX0_13 HX0_13 RX1_13 SX1_13
    go_wp2
    go_ret
    exact ⟨rfl, KB.out.trans (B4_14.out.mono KB.out.size)⟩
end Go.Proofs.Ytelglccegkhfcaa
