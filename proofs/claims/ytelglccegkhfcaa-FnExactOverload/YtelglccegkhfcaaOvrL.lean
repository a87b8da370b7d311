/- The law of Overload. -/
import Derived.Test.YtelglccegkhfcaaOvr
import Derived.Test.YtelglccegkhfcaaMkC
import Derived.Deep.RegionHeld3
namespace Go.Proofs.Ytelglccegkhfcaa
open Go.ChangeShapes Go.WideShapes Go.ChangeAt Go.RowKit
set_option linter.unusedVariables false
set_option linter.unusedSimpArgs false

set_option maxRecDepth 100000 in
set_option maxHeartbeats 16000000 in
theorem law_ovr (v0 : Value) (x1 : Int) (x0 : List Tsk) (w : World) (h0 : RdTsks w v0 x0) :
    Calls Try.prog 11 #[v0, .int .i64 x1] w (SamePostB w) := by
  obtain ⟨a0, c0, ev0, -⟩ := id h0
  rw [ev0] at h0 ⊢
  have hc0 := (rdTsks_len h0).2.1
  have hd0 := (rdTsks_len h0).2.2
  have HB_1 := Lib.hid (Below.refl w.heap.size w)
  have HA0_1 := Lib.hid h0
  clear h0 ev0
  go_enter Try.func11, Try.ntmps11
  go_wp2_with fail
  refine (szTaskS_any _ x0 1048576 w HA0_1.out (by omega) (by omega)).mono ?_
  rintro e w' ⟨r0, rfl, _, _, hq, rfl⟩
  have HQ := Lib.hid hq
  clear hq
  by_cases hr0 : r0 < 0
  · go_wp2
    go_ret
    exact ⟨rfl, HB_1.out⟩
  have HL0 : Hid (x0.length ≤ 1048576) := Lib.hid (by have := HQ.out (by omega); omega)
  clear HQ
  go_wp2_with fail
  refine (toTaskS_sh _ x0 w HA0_1.out HL0.out).mono ?_
  rintro e wc0 ⟨uc0, rfl, rc, -, b⟩
  have Rc0_2 := Lib.hid rc
  clear rc
  have HB_2 := Lib.hid (HB_1.out.trans (b.mono HB_1.out.size))
  have HA0_2 := Lib.hid (HA0_1.out.below b)
  clear b HB_1 HA0_1
  go_wp2_with fail
  refine (sOverload_any _ x0 x1 wc0 Rc0_2.out).mono ?_
  rintro e w4 ⟨rfl, b⟩
  obtain ⟨ys, hys⟩ : ∃ ys, ys = ovLo x0 x1 := ⟨_, rfl⟩
  rw [← hys]
  have HYS := Lib.hid hys
  clear hys
  obtain ⟨zs, hzs⟩ : ∃ zs, zs = ovHi x0 x1 := ⟨_, rfl⟩
  rw [← hzs]
  have HZS := Lib.hid hzs
  clear hzs
  have hz2 : (zs != zs) = false := by simp
  obtain ⟨ts, hts⟩ : ∃ ts, ts = ovB x0 x1 := ⟨_, rfl⟩
  rw [← hts]
  have HTS := Lib.hid hts
  clear hts
  have hz3 : (ts != ts) = false := by simp
  clear Rc0_2
  have HB_3 := Lib.hid (HB_2.out.trans (b.mono HB_2.out.size))
  have HA0_3 := Lib.hid (HA0_2.out.below b)
  clear b HB_2 HA0_2
  have KA0 := HA0_3
  have KB := HB_3
  clear HB_3 HA0_3
  have B4_3 := Lib.hid (Below.refl w4.heap.size w4)
  have hsz : w4.heap.size ≤ w4.heap.size := B4_3.out.size
  go_wp2_with fail
  refine (toTaskS_sh _ x0 w4 (KA0.out.below B4_3.out) HL0.out).mono ?_
  rintro e wx0 ⟨ux0, rfl, rc, sh, b⟩
  obtain ⟨lo0, hlo0⟩ : ∃ q, q = w4.heap.size := ⟨_, rfl⟩
  obtain ⟨hi0, hhi0⟩ : ∃ q, q = wx0.heap.size := ⟨_, rfl⟩
  have HZ0 : Hid (w4.heap.size ≤ lo0 ∧ lo0 ≤ hi0) := Lib.hid (by rw [hlo0, hhi0]; exact ⟨hsz, b.size⟩)
  have RX0_4 := Lib.hid rc
  have SX0_4 := Lib.hid sh
  obtain ⟨ya0, yc0, eu0, -⟩ := id rc
  subst eu0
  clear rc sh hsz
  have B4_4 := Lib.hid (B4_3.out.trans (b.mono B4_3.out.size))
  clear b B4_3
  have Z0_4 : Hid (hi0 ≤ wx0.heap.size) := Lib.hid (Nat.le_of_eq hhi0)
  rw [← hlo0, ← hhi0] at SX0_4
  clear hlo0 hhi0
  go_wp2_with fail
  refine (iOverload_any _ x0 x1 wx0 RX0_4.out).mono ?_
  rintro e w7 ⟨rfl, b⟩
  rw [← HYS.out]
  rw [← HZS.out]
  rw [← HTS.out]
  clear Z0_4
  have B4_5 := Lib.hid (B4_4.out.trans (b.mono B4_4.out.size))
  have RX0_5 := Lib.hid (RX0_4.out.below b)
  have SX0_5 := Lib.hid (SX0_4.out.below b)
  clear b B4_4 RX0_4 SX0_4
  have hne : (ys != ys) = false := by simp
  go_wp2_with fail
  refine (toTaskS_sh _ x0 w7 (KA0.out.below B4_5.out) HL0.out).mono ?_
  rintro e w8 ⟨vq0, rfl, rc, -, b⟩
  obtain ⟨qa0, qc0, eq0, -⟩ := id rc
  subst eq0
  have RQ_6 := Lib.hid rc
  clear rc
  have B4_6 := Lib.hid (B4_5.out.trans (b.mono B4_5.out.size))
  have RX0_6 := Lib.hid (RX0_5.out.below b)
  have SX0_6 := Lib.hid (SX0_5.out.below b)
  clear b B4_5 RX0_5 SX0_5
  go_wp2_with fail
  refine (eqTaskS_same _ _ x0 w8 RX0_6.out RQ_6.out).mono ?_
  rintro e w9 ⟨rfl, b⟩
  clear RQ_6
  have B4_7 := Lib.hid (B4_6.out.trans (b.mono B4_6.out.size))
  have RX0_7 := Lib.hid (RX0_6.out.below b)
  have SX0_7 := Lib.hid (SX0_6.out.below b)
  clear b B4_6 RX0_6 SX0_6
  go_wp2
  go_ret
  exact ⟨rfl, KB.out.trans (B4_7.out.mono KB.out.size)⟩
end Go.Proofs.Ytelglccegkhfcaa
