/- The law of ValidConstraint. -/
import Derived.Test.YtkmdkbnphmadpaaVcC
import Derived.Test.YtkmdkbnphmadpaaToE
import Derived.Deep.RegionWith
namespace Go.Proofs.Ytkmdkbnphmadpaa
open Go.ChangeShapes Go.WideShapes Go.ChangeAt Go.RowKit
set_option linter.unusedVariables false
set_option linter.unusedSimpArgs false

theorem RdCon.drew {w : World} {v : Value} {c : Con} (h : RdCon w v c) : RdCon w.drew v c := h
theorem Blk5.drew {w : World} {b : Nat} {t : TypeId} {u0 u1 u2 u3 u4 : Value} (h : Blk5 w b t u0 u1 u2 u3 u4) : Blk5 w.drew b t u0 u1 u2 u3 u4 := h

set_option maxRecDepth 100000 in
set_option maxHeartbeats 2000000 in
theorem sVC_any (c : Con) (v : Value) (n : Int) (w : World) (h : RdCon w v c) (hk : c.vars.length ≤ 2305843009213693952) :
    Calls Try.prog 16 #[v, .int .i64 n] w (BoolPost (wiB n 1 4 && vcB c n) w) := by
  obtain ⟨a2, a3, a5, c2, c3, c5, rfl, _⟩ := rdCon_slices h
  have hB : Below w.heap.size w (w.alloc (.cells #[.int .i64 c.kind, .slice a2 c.vars.length c2, .slice a3 c.args.length c3, .int .i64 c.bound, .slice a5 c.rows.length c5] 28)) := (Below.refl _ _).alloc (Nat.le_refl _) _
  have HC := Lib.hid (h.below hB)
  have HB := Lib.hid hB
  clear h hB
  cases hn : wiB n 1 4
  · go_enter Try.func16, Try.ntmps16
    go_wp2_with fail
    refine (inRange_any _ _ _ _).mono ?_
    rintro e w' ⟨rfl, rfl⟩
    go_wp2
    go_ret
    exact ⟨ret_bool (by simp), HB.out⟩
  · have hb := wiB_in hn
    go_enter Try.func16, Try.ntmps16
    go_wp2_with fail
    refine (inRange_any _ _ _ _).mono ?_
    rintro e w' ⟨rfl, rfl⟩
    go_wp2_with fail
    refine (svc_any c _ n _ HC.out hk (by omega) (by omega)).mono ?_
    rintro e w1 ⟨rfl, hb1⟩
    have hb2 : Below w.heap.size w w1 := HB.out.trans (hb1.mono HB.out.size)
    clear hb1
    go_wp2
    go_ret
    exact ⟨ret_bool (by simp), hb2⟩

set_option maxRecDepth 100000 in
set_option maxHeartbeats 4000000 in
theorem law_vc (v : Value) (n : Int) (c : Con) (w : World) (h : RdCon w v c) :
    Calls Try.prog 3 #[v, .int .i64 n] w (SamePostB w) := by
  obtain ⟨a2, a3, a5, c2, c3, c5, rfl, _⟩ := rdCon_slices h
  obtain ⟨W1, hW1⟩ : ∃ W1, w.alloc (.cells #[.int .i64 c.kind, .slice a2 c.vars.length c2, .slice a3 c.args.length c3, .int .i64 c.bound, .slice a5 c.rows.length c5] 25) = W1 := ⟨_, rfl⟩
  have B1 : Below w.heap.size w W1 := by rw [← hW1]; exact (Below.refl _ _).alloc (Nat.le_refl _) _
  have bP : Blk5 W1 w.heap.size 25 (.int .i64 c.kind) (.slice a2 c.vars.length c2) (.slice a3 c.args.length c3) (.int .i64 c.bound) (.slice a5 c.rows.length c5) := by rw [← hW1]; exact Blk5.new w _ _ _ _ _ _
  have HA := Lib.hid (h.below B1)
  have HW := Lib.hid hW1
  have HB1 := Lib.hid B1
  have HP := Lib.hid bP
  clear h hW1 B1 bP
  go_enter Try.func3, Try.ntmps3
  go_wp2_with fail
  rw [HW.out]
  refine (szConstraint_any _ c 1048576 W1 HA.out (by omega) (by omega)).mono ?_
  rintro e w2 ⟨r, rfl, _, _, hq, b2⟩
  have HQ := Lib.hid hq
  have HB2 := Lib.hid (HB1.out.trans (b2.mono HB1.out.size))
  have HA2 := Lib.hid (HA.out.below b2)
  have HP2 := Lib.hid (HP.out.below b2)
  clear hq b2 HA HP HB1 HW
  by_cases hr : r < 0
  · go_wp2
    go_ret
    exact ⟨rfl, HB2.out⟩
  have hle : ConLe c 1048576 := HQ.out (by omega)
  have hkv := hle.1
  have HL := Lib.hid hle
  clear hle HQ
  obtain ⟨p0, p1, p2, p3, p4⟩ := HP2.out.cell
  go_wp2_with fail
  refine (toConstraint_any _ c w2 HA2.out HL.out).mono ?_
  rintro e w3 ⟨v3, rfl, rc3, b3⟩
  have HB3 := Lib.hid (HB2.out.trans (b3.mono HB2.out.size))
  have HA3 := Lib.hid (HA2.out.below b3)
  have HP3 := Lib.hid (HP2.out.below b3)
  clear p0 p1 p2 p3 p4 b3 HA2 HP2 HB2
  go_wp2_with fail
  refine (sVC_any c v3 n w3 rc3 (by omega)).mono ?_
  rintro e w4 ⟨rfl, b4⟩
  have HB4 := Lib.hid (HB3.out.trans (b4.mono HB3.out.size))
  have HA4 := Lib.hid (HA3.out.below b4)
  have HP4 := Lib.hid (HP3.out.below b4)
  clear b4 rc3 HA3 HP3 HB3
  obtain ⟨p0, p1, p2, p3, p4⟩ := HP4.out.cell
  go_wp2_with fail
  refine (toConstraint_any _ c w4 HA4.out HL.out).mono ?_
  rintro e w5 ⟨v5, rfl, rc5, b5⟩
  have HB5 := Lib.hid (HB4.out.trans (b5.mono HB4.out.size))
  have HA5 := Lib.hid (HA4.out.below b5)
  have HP5 := Lib.hid (HP4.out.below b5)
  have RC5 := Lib.hid rc5
  obtain ⟨e2, e3, e5, f2, f3, f5, hv5, _⟩ := rdCon_slices rc5
  rw [hv5] at RC5 ⊢
  clear p0 p1 p2 p3 p4 b5 HA4 HP4 HB4 rc5 hv5
  go_wp2_with fail
  obtain ⟨W6, hW6⟩ : ∃ W6, w5.alloc (.cells #[.int .i64 c.kind, .slice e2 c.vars.length f2, .slice e3 c.args.length f3, .int .i64 c.bound, .slice e5 c.rows.length f5] 28) = W6 := ⟨_, rfl⟩
  have B6 : Below w5.heap.size w5 W6 := by rw [← hW6]; exact (Below.refl _ _).alloc (Nat.le_refl _) _
  have bX : Blk5 W6 w5.heap.size 28 (.int .i64 c.kind) (.slice e2 c.vars.length f2) (.slice e3 c.args.length f3) (.int .i64 c.bound) (.slice e5 c.rows.length f5) := by rw [← hW6]; exact Blk5.new w5 _ _ _ _ _ _
  rw [hW6]
  have hBw : Below w.heap.size w W6 := HB5.out.trans (B6.mono HB5.out.size)
  refine (ivc_any c _ n W6 (RC5.out.below B6) (by omega)).mono ?_
  rintro e w7 ⟨rfl, b7⟩
  have HB7 := Lib.hid (hBw.trans (b7.mono hBw.size))
  have HA7 := Lib.hid ((HA5.out.below B6).below b7)
  have HP7 := Lib.hid ((HP5.out.below B6).below b7)
  have RC7 := Lib.hid ((RC5.out.below B6).below b7)
  have HX7 := Lib.hid (bX.below b7)
  obtain ⟨x, hx⟩ : ∃ x, x = w5.heap.size := ⟨_, rfl⟩
  rw [← hx] at HX7 ⊢
  clear hW6 B6 bX hBw b7 HA5 HP5 RC5 HB5 hx
  obtain ⟨p0, p1, p2, p3, p4⟩ := HP7.out.cell
  obtain ⟨x0, x1, x2, x3, x4⟩ := HX7.out.cell
  have HAd : Hid (RdCon w7.drew _ c) := Lib.hid HA7.out.drew
  have RCd : Hid (RdCon w7.drew _ c) := Lib.hid RC7.out.drew
  have HXd : Hid (Blk5 w7.drew x _ _ _ _ _ _) := Lib.hid HX7.out.drew
  have HBd : Hid (Below w.heap.size w w7.drew) := Lib.hid HB7.out.drew
  clear HA7 RC7 HX7 HB7
  cases hfin : (wiB n 1 4 && vcB c n)
  all_goals
    go_wp2
    go_region_with (first
      | (go_at_call 17; refine (toConstraint_any _ c _ HAd.out HL.out).mono ?_; rintro e w8 ⟨v8, rfl, rc8, b8⟩; obtain ⟨y0, y1, y2, y3, y4⟩ := (HXd.out.below b8).cell; have rx := Lib.hid (RCd.out.below b8); have rc := Lib.hid rc8; have B8 := Lib.hid (HBd.out.trans (b8.mono HBd.out.size)); clear rc8 b8)
      | (go_at_call 19; refine (eqConstraint_same _ _ c _ rx.out rc.out).mono ?_; rintro e w9 ⟨rfl, b9⟩; have B9 := Lib.hid (B8.out.trans (b9.mono B8.out.size)); clear b9))
    all_goals go_wp2
    all_goals go_ret
    all_goals exact ⟨rfl, B9.out⟩
end Go.Proofs.Ytkmdkbnphmadpaa
