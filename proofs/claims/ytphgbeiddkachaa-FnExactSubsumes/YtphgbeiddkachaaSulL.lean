/- The law of Subsumes. -/
import Derived.Test.YtphgbeiddkachaaLitU
import Derived.Test.YtphgbeiddkachaaLitM
import Derived.Test.YtphgbeiddkachaaMkC
import Derived.Deep.RegionHeld3
namespace Go.Proofs.Ytphgbeiddkachaa
open Go.ChangeShapes Go.WideShapes Go.ChangeAt Go.RowKit
set_option linter.unusedVariables false
set_option linter.unusedSimpArgs false

set_option maxRecDepth 100000 in
set_option maxHeartbeats 16000000 in
theorem law_sul (x0 : Int) (v1 : Value) (v2 : Value) (x1 : List Lit) (x2 : List Lit) (w : World) (h1 : RdLits w v1 x1) (h2 : RdLits w v2 x2) :
    Calls Try.prog 5 #[.int .i64 x0, v1, v2] w (SamePostB w) := by
  obtain ⟨a1, c1, ev1, -⟩ := id h1
  rw [ev1] at h1 ⊢
  have hc1 := (rdLits_len h1).2.1
  have hd1 := (rdLits_len h1).2.2
  obtain ⟨a2, c2, ev2, -⟩ := id h2
  rw [ev2] at h2 ⊢
  have hc2 := (rdLits_len h2).2.1
  have hd2 := (rdLits_len h2).2.2
  have HB_1 := Lib.hid (Below.refl w.heap.size w)
  have HA1_1 := Lib.hid h1
  have HA2_1 := Lib.hid h2
  clear h1 h2 ev1 ev2
  go_enter Try.func5, Try.ntmps5
  go_wp2_with fail
  refine (szLiteralS_any _ x1 1048576 w HA1_1.out (by omega) (by omega)).mono ?_
  rintro e w' ⟨r1, rfl, _, _, hq, rfl⟩
  have HQ := Lib.hid hq
  clear hq
  by_cases hr1 : r1 < 0
  · go_wp2
    go_ret
    exact ⟨rfl, HB_1.out⟩
  have HL1 : Hid (x1.length ≤ 1048576) := Lib.hid (by have := HQ.out (by omega); omega)
  clear HQ
  go_wp2_with fail
  refine (szLiteralS_any _ x2 r1 w HA2_1.out (by omega) (by omega)).mono ?_
  rintro e w' ⟨r2, rfl, _, _, hq, rfl⟩
  have HQ := Lib.hid hq
  clear hq
  by_cases hr2 : r2 < 0
  · go_wp2
    go_ret
    exact ⟨rfl, HB_1.out⟩
  have HL2 : Hid (x2.length ≤ 1048576) := Lib.hid (by have := HQ.out (by omega); omega)
  clear HQ
  go_wp2_with fail
  refine (toLiteralS_sh _ x1 w HA1_1.out HL1.out).mono ?_
  rintro e wc1 ⟨uc1, rfl, rc, -, b⟩
  have Rc1_2 := Lib.hid rc
  clear rc
  have HB_2 := Lib.hid (HB_1.out.trans (b.mono HB_1.out.size))
  have HA1_2 := Lib.hid (HA1_1.out.below b)
  have HA2_2 := Lib.hid (HA2_1.out.below b)
  clear b HB_1 HA1_1 HA2_1
  go_wp2_with fail
  refine (toLiteralS_sh _ x2 wc1 HA2_2.out HL2.out).mono ?_
  rintro e wc2 ⟨uc2, rfl, rc, -, b⟩
  have Rc2_3 := Lib.hid rc
  clear rc
  have HB_3 := Lib.hid (HB_2.out.trans (b.mono HB_2.out.size))
  have HA1_3 := Lib.hid (HA1_2.out.below b)
  have HA2_3 := Lib.hid (HA2_2.out.below b)
  have Rc1_3 := Lib.hid (Rc1_2.out.below b)
  clear b HB_2 HA1_2 HA2_2 Rc1_2
  go_wp2_with fail
  refine (sSubsumes_any x0 _ _ x1 x2 wc2 Rc1_3.out Rc2_3.out).mono ?_
  rintro e w4 ⟨rfl, b⟩
  obtain ⟨ys, hys⟩ : ∃ ys, ys = suB x0 x1 x2 := ⟨_, rfl⟩
  rw [← hys]
  have HYS := Lib.hid hys
  clear hys
  clear Rc1_3
  clear Rc2_3
  have HB_4 := Lib.hid (HB_3.out.trans (b.mono HB_3.out.size))
  have HA1_4 := Lib.hid (HA1_3.out.below b)
  have HA2_4 := Lib.hid (HA2_3.out.below b)
  clear b HB_3 HA1_3 HA2_3
  have KA1 := HA1_4
  have KA2 := HA2_4
  have KB := HB_4
  clear HB_4 HA1_4 HA2_4
  have B4_4 := Lib.hid (Below.refl w4.heap.size w4)
  have hsz : w4.heap.size ≤ w4.heap.size := B4_4.out.size
  go_wp2_with fail
  refine (toLiteralS_sh _ x1 w4 (KA1.out.below B4_4.out) HL1.out).mono ?_
  rintro e wx1 ⟨ux1, rfl, rc, sh, b⟩
  obtain ⟨lo1, hlo1⟩ : ∃ q, q = w4.heap.size := ⟨_, rfl⟩
  obtain ⟨hi1, hhi1⟩ : ∃ q, q = wx1.heap.size := ⟨_, rfl⟩
  have HZ1 : Hid (w4.heap.size ≤ lo1 ∧ lo1 ≤ hi1) := Lib.hid (by rw [hlo1, hhi1]; exact ⟨hsz, b.size⟩)
  have RX1_5 := Lib.hid rc
  have SX1_5 := Lib.hid sh
  obtain ⟨ya1, yc1, eu1, -⟩ := id rc
  subst eu1
  clear rc sh hsz
  have B4_5 := Lib.hid (B4_4.out.trans (b.mono B4_4.out.size))
  clear b B4_4
  have Z1_5 : Hid (hi1 ≤ wx1.heap.size) := Lib.hid (Nat.le_of_eq hhi1)
  rw [← hlo1, ← hhi1] at SX1_5
  clear hlo1 hhi1
  have hsz : w4.heap.size ≤ wx1.heap.size := B4_5.out.size
  go_wp2_with fail
  refine (toLiteralS_sh _ x2 wx1 (KA2.out.below B4_5.out) HL2.out).mono ?_
  rintro e wx2 ⟨ux2, rfl, rc, sh, b⟩
  obtain ⟨lo2, hlo2⟩ : ∃ q, q = wx1.heap.size := ⟨_, rfl⟩
  obtain ⟨hi2, hhi2⟩ : ∃ q, q = wx2.heap.size := ⟨_, rfl⟩
  have HZ2 : Hid (w4.heap.size ≤ lo2 ∧ lo2 ≤ hi2) := Lib.hid (by rw [hlo2, hhi2]; exact ⟨hsz, b.size⟩)
  have RX2_6 := Lib.hid rc
  have SX2_6 := Lib.hid sh
  obtain ⟨ya2, yc2, eu2, -⟩ := id rc
  subst eu2
  clear rc sh hsz
  have B4_6 := Lib.hid (B4_5.out.trans (b.mono B4_5.out.size))
  have RX1_6 := Lib.hid (RX1_5.out.below b)
  have SX1_6 := Lib.hid (SX1_5.out.below b)
  have Z1_6 := Lib.hid (Nat.le_trans Z1_5.out b.size)
  clear b B4_5 RX1_5 SX1_5 Z1_5
  have Z2_6 : Hid (hi2 ≤ wx2.heap.size) := Lib.hid (Nat.le_of_eq hhi2)
  rw [← hlo2, ← hhi2] at SX2_6
  clear hlo2 hhi2
  go_wp2_with fail
  refine (iSubsumes_any x0 _ _ x1 x2 wx2 RX1_6.out RX2_6.out).mono ?_
  rintro e w7 ⟨rfl, b⟩
  rw [← HYS.out]
  clear Z1_6
  clear Z2_6
  have B4_7 := Lib.hid (B4_6.out.trans (b.mono B4_6.out.size))
  have RX1_7 := Lib.hid (RX1_6.out.below b)
  have SX1_7 := Lib.hid (SX1_6.out.below b)
  have RX2_7 := Lib.hid (RX2_6.out.below b)
  have SX2_7 := Lib.hid (SX2_6.out.below b)
  clear b B4_6 RX1_6 SX1_6 RX2_6 SX2_6
  cases ys
  all_goals
    go_wp2_with fail
    refine (toLiteralS_sh _ x1 w7 (KA1.out.below B4_7.out) HL1.out).mono ?_
    rintro e w8 ⟨vq1, rfl, rc, -, b⟩
    obtain ⟨qa1, qc1, eq1, -⟩ := id rc
    subst eq1
    have RQ_8 := Lib.hid rc
    clear rc
    have B4_8 := Lib.hid (B4_7.out.trans (b.mono B4_7.out.size))
    have RX1_8 := Lib.hid (RX1_7.out.below b)
    have SX1_8 := Lib.hid (SX1_7.out.below b)
    have RX2_8 := Lib.hid (RX2_7.out.below b)
    have SX2_8 := Lib.hid (SX2_7.out.below b)
    clear b B4_7 RX1_7 SX1_7 RX2_7 SX2_7
    go_wp2_with fail
    refine (eqLiteralS_same _ _ x1 w8 RX1_8.out RQ_8.out).mono ?_
    rintro e w9 ⟨rfl, b⟩
    clear RQ_8
    have B4_9 := Lib.hid (B4_8.out.trans (b.mono B4_8.out.size))
    have RX1_9 := Lib.hid (RX1_8.out.below b)
    have SX1_9 := Lib.hid (SX1_8.out.below b)
    have RX2_9 := Lib.hid (RX2_8.out.below b)
    have SX2_9 := Lib.hid (SX2_8.out.below b)
    clear b B4_8 RX1_8 SX1_8 RX2_8 SX2_8
    go_wp2_with fail
    refine (toLiteralS_sh _ x2 w9 (KA2.out.below B4_9.out) HL2.out).mono ?_
    rintro e w10 ⟨vq2, rfl, rc, -, b⟩
    obtain ⟨qa2, qc2, eq2, -⟩ := id rc
    subst eq2
    have RQ_10 := Lib.hid rc
    clear rc
    have B4_10 := Lib.hid (B4_9.out.trans (b.mono B4_9.out.size))
    have RX1_10 := Lib.hid (RX1_9.out.below b)
    have SX1_10 := Lib.hid (SX1_9.out.below b)
    have RX2_10 := Lib.hid (RX2_9.out.below b)
    have SX2_10 := Lib.hid (SX2_9.out.below b)
    clear b B4_9 RX1_9 SX1_9 RX2_9 SX2_9
    go_wp2_with fail
    refine (eqLiteralS_same _ _ x2 w10 RX2_10.out RQ_10.out).mono ?_
    rintro e w11 ⟨rfl, b⟩
    clear RQ_10
    have B4_11 := Lib.hid (B4_10.out.trans (b.mono B4_10.out.size))
    have RX1_11 := Lib.hid (RX1_10.out.below b)
    have SX1_11 := Lib.hid (SX1_10.out.below b)
    have RX2_11 := Lib.hid (RX2_10.out.below b)
    have SX2_11 := Lib.hid (SX2_10.out.below b)
    clear b B4_10 RX1_10 SX1_10 RX2_10 SX2_10
    go_wp2
    go_ret
    exact ⟨rfl, KB.out.trans (B4_11.out.mono KB.out.size)⟩
end Go.Proofs.Ytphgbeiddkachaa
