/- The law of Violated. -/
import Derived.Test.YtkmdkbnphmadpaaVioS
import Derived.Test.YtkmdkbnphmadpaaMk
namespace Go.Proofs.Ytkmdkbnphmadpaa
open Go.ChangeShapes Go.WideShapes Go.ChangeAt Go.RowKit
set_option linter.unusedVariables false
set_option linter.unusedSimpArgs false

/-- A slice of numbers of a call's own, in blocks from B on, which may be written. -/
def GInts (B : Nat) (w : World) (v : Value) (xs : List Int) : Prop :=
  RdInts w v xs ∧ ∀ b off n c, v = .slice (some ⟨b, off, none⟩) n c → 0 < n → B ≤ b ∧ ∀ i, w.frozen? ⟨b, i, none⟩ = false
theorem gInts_of_own {B : Nat} {w : World} {v : Value} {xs : List Int} (h : w.ownsRow B 3 1 v xs.length (xs.map (Value.int .i64))) : GInts B w v xs := by
  refine ⟨rdInts_of_own h, fun b off n c e hn => ?_⟩
  rcases h.2 with ⟨ev, _⟩ | ⟨g, cap, cur, ev, hB, _⟩
  · rw [ev] at e; cases e
  · rw [ev] at e h
    simp at e
    obtain ⟨⟨rfl, rfl⟩, _⟩ := e
    exact ⟨hB, fun i => h.frozenAt i⟩
theorem GInts.lt {B : Nat} {w : World} {v : Value} {xs : List Int} (h : GInts B w v xs) {b off n c : Nat} (e : v = .slice (some ⟨b, off, none⟩) n c) (hn : 0 < n) : b < w.heap.size := by
  obtain ⟨a, cap, ev, _, _, h3⟩ := h.1
  rw [e] at ev
  simp at ev
  obtain ⟨rfl, rfl, rfl⟩ := ev
  rcases h3 with h3 | ⟨b', o', e', h3⟩
  · omega
  · simp at e'
    obtain ⟨rfl, rfl⟩ := e'
    exact World.block_lt_of_cell? w _ (h3 0 hn)
theorem GInts.below {B : Nat} {w w' : World} {v : Value} {xs : List Int} (h : GInts B w v xs) (hb : Below w.heap.size w w') : GInts B w' v xs :=
  ⟨h.1.below hb, fun b off n c e hn => ⟨(h.2 b off n c e hn).1, fun i => (frozen_below hb (h.lt e hn) i).trans ((h.2 b off n c e hn).2 i)⟩⟩
theorem GInts.marked {B lo hi : Nat} {w w' : World} {v : Value} {xs : List Int} (h : GInts B w v xs) (hm : Marked lo hi w w') (hB : hi ≤ B) : GInts B w' v xs := by
  refine ⟨?_, fun b off n c e hn => ⟨(h.2 b off n c e hn).1, fun i => (hm.frozen b i (h.lt e hn)).trans ((h.2 b off n c e hn).2 i)⟩⟩
  obtain ⟨a, cap, e, h1, h2, h3⟩ := id h.1
  refine ⟨a, cap, e, h1, h2, ?_⟩
  rcases h3 with h3 | ⟨b, off, ea, h3⟩
  · exact .inl h3
  · by_cases h0 : xs.length = 0
    · exact .inl h0
    · refine .inr ⟨b, off, ea, fun i hi' => ?_⟩
      have hb := (h.2 b off _ _ (by rw [e, ea]) (by omega)).1
      have hl := World.block_lt_of_cell? w _ (h3 i hi')
      have := hm.block b hl (.inr (by omega))
      have k := h3 i hi'
      unfold World.cell? at k ⊢
      rw [this]
      exact k
theorem GInts.sh {B : Nat} {w : World} {v : Value} {xs : List Int} (h : GInts B w v xs) : ShI B w.heap.size w v xs.length := by
  obtain ⟨a, c, e, h1, h2, h3⟩ := id h.1
  refine ⟨a, c, e, h1, h2, ?_⟩
  rcases h3 with h3 | ⟨b, off, ea, h3⟩
  · exact .inl h3
  · by_cases h0 : xs.length = 0
    · exact .inl h0
    · obtain ⟨q1, q2⟩ := h.2 b off _ _ (by rw [e, ea]) (by omega)
      exact .inr ⟨b, off, ea, q1, World.block_lt_of_cell? w _ (h3 0 (by omega)), fun i hi => ⟨⟨_, h3 i hi⟩, q2 _⟩⟩
theorem GInts.slice {B : Nat} {w : World} {v : Value} {xs : List Int} (h : GInts B w v xs) : ∃ a c, v = .slice a xs.length c := by
  obtain ⟨a, c, e, _⟩ := h.1; exact ⟨a, c, e⟩
theorem violL_le (m : Mod) (xs : List Int) (hm : ModLe m 1048576) : (violL m xs).length ≤ 1048576 := by
  unfold violL
  split
  · exact Nat.le_trans (violS_le _ _ _) hm.2.1
  · simp
theorem below_marked {B lo hi : Nat} {a w w' : World} (h : Below B a w) (hm : Marked lo hi w w') (h1 : B ≤ lo) (h2 : B ≤ w.heap.size) : Below B a w' := h.trans (hm.below h1 h2)

/-- Between the calls of the law: the copies x0 (in blocks from w4's end to x) and x1 (block g), the result (from g6 on). -/
structure StV (w4 : World) (x g g6 : Nat) (t : TypeId) (u1 u2 vx vg : Value) (m : Mod) (xs ys : List Int) (W : World) : Prop where
  b : Below w4.heap.size w4 W
  gi : GInts g6 W vg ys
  rm : RdModel W (.agg #[u1, u2]) m
  rx : RdInts W vx xs
  bx : Blk2 W x t u1 u2
  sx : ShI g (g + 1) W vx xs.length
  s1 : ShI w4.heap.size x W u1 m.doms.length
  s2 : ShCs w4.heap.size x W u2
theorem StV.below {w4 : World} {x g g6 : Nat} {t : TypeId} {u1 u2 vx vg : Value} {m : Mod} {xs ys : List Int} {W W' : World} (h : StV w4 x g g6 t u1 u2 vx vg m xs ys W) (hb : Below W.heap.size W W') : StV w4 x g g6 t u1 u2 vx vg m xs ys W' :=
  ⟨h.b.trans (hb.mono h.b.size), h.gi.below hb, h.rm.below hb, h.rx.below hb, h.bx.below hb, h.sx.marked (Marked.of_below (lo := 0) (hi := 0) hb), h.s1.marked (Marked.of_below (lo := 0) (hi := 0) hb), h.s2.marked (Marked.of_below (lo := 0) (hi := 0) hb)⟩
theorem drewN_below (w : World) (k : Nat) : Below w.heap.size w (w.drewN k) := below_drewN' (Below.refl _ _) k

set_option maxRecDepth 100000 in
set_option maxHeartbeats 16000000 in
theorem law_vi (v xv : Value) (m : Mod) (xs : List Int) (w : World) (h : RdModel w v m) (hx : RdInts w xv xs) :
    Calls Try.prog 6 #[v, xv] w (SamePostB w) := by
  obtain ⟨a1, a2, c1, c2, rfl, _⟩ := rdModel_slices h
  obtain ⟨ax, cx, ev, -⟩ := id hx
  rw [ev] at hx ⊢
  obtain ⟨W1, hW1⟩ : ∃ W1, w.alloc (.cells #[.slice a1 m.doms.length c1, .slice a2 m.cons.length c2] 34) = W1 := ⟨_, rfl⟩
  have B1 : Below w.heap.size w W1 := by rw [← hW1]; exact (Below.refl _ _).alloc (Nat.le_refl _) _
  have bP : Blk2 W1 w.heap.size 34 (.slice a1 m.doms.length c1) (.slice a2 m.cons.length c2) := by rw [← hW1]; exact Blk2.new w _ _ _
  have HA := Lib.hid (h.below B1)
  have HXA := Lib.hid (hx.below B1)
  have HW := Lib.hid hW1
  have HB1 := Lib.hid B1
  have HP := Lib.hid bP
  have hcx := (rdInts_cap hx).2
  clear h hx hW1 B1 bP ev
  by_cases hbig : (xs.length : Int) > 1048576
  · go_enter Try.func6, Try.ntmps6
    go_wp2
    rw [HW.out]
    go_ret
    exact ⟨rfl, HB1.out⟩
  have hxl : xs.length ≤ 1048576 := by omega
  go_enter Try.func6, Try.ntmps6
  go_wp2_with fail
  rw [HW.out]
  refine (szModel_any _ m 1048576 W1 HA.out (by omega) (by omega)).mono ?_
  rintro e w2 ⟨r, rfl, _, _, hq, b2⟩
  have HQ := Lib.hid hq
  have HB2 := Lib.hid (HB1.out.trans (b2.mono HB1.out.size))
  have HA2 := Lib.hid (HA.out.below b2)
  have HX2 := Lib.hid (HXA.out.below b2)
  have HP2 := Lib.hid (HP.out.below b2)
  clear hq b2 HA HP HB1 HW HXA
  by_cases hr : r < 0
  · go_wp2
    go_ret
    exact ⟨rfl, HB2.out⟩
  have HL : Hid (ModLe m 1048576) := Lib.hid (HQ.out (by omega))
  clear HQ
  obtain ⟨p0, p1⟩ := HP2.out.cell
  go_wp2_with fail
  refine (toModel_any _ m w2 HA2.out HL.out).mono ?_
  rintro e w3 ⟨v3, rfl, rc3, b3⟩
  have HB3 := Lib.hid (HB2.out.trans (b3.mono HB2.out.size))
  have HA3 := Lib.hid (HA2.out.below b3)
  have HX3 := Lib.hid (HX2.out.below b3)
  have HP3 := Lib.hid (HP2.out.below b3)
  have RC3 := Lib.hid rc3
  clear p0 p1 b3 HA2 HP2 HB2 HX2 rc3
  go_wp2_with fail
  refine (toIntS_any _ xs w3 HX3.out hxl).mono ?_
  rintro e w3' ⟨rfl, rx3, b3, -⟩
  have HB3' := Lib.hid (HB3.out.trans (b3.mono HB3.out.size))
  have HA3' := Lib.hid (HA3.out.below b3)
  have HX3' := Lib.hid (HX3.out.below b3)
  have HP3' := Lib.hid (HP3.out.below b3)
  have RC3' := Lib.hid (RC3.out.below b3)
  have RX3 := Lib.hid rx3
  clear b3 rx3 HA3 HX3 HP3 HB3 RC3
  go_wp2_with fail
  refine (sViolated_any m v3 _ xs w3' RC3'.out RX3.out HL.out).mono ?_
  rintro e w4 ⟨v4, rfl, o4, b4⟩
  obtain ⟨ys, hys⟩ : ∃ ys, ys = violL m xs := ⟨_, rfl⟩
  have hyl : ys.length ≤ 1048576 := by rw [hys]; exact violL_le m xs HL.out
  have HYS := Lib.hid hys
  rw [← hys] at o4
  have RW4 := Lib.hid (rdInts_of_own o4)
  obtain ⟨a4, n4, c4, e4⟩ := own_slice o4
  rw [e4] at RW4 ⊢
  have HB4 := Lib.hid (HB3'.out.trans (b4.mono HB3'.out.size))
  have HA4 := Lib.hid (HA3'.out.below b4)
  have HX4 := Lib.hid (HX3'.out.below b4)
  have HP4 := Lib.hid (HP3'.out.below b4)
  clear b4 HA3' HP3' HB3' HX3' RC3' RX3 o4 e4 hys
  obtain ⟨p0, p1⟩ := HP4.out.cell
  go_wp2_with fail
  refine (toModel_in _ m w4 HA4.out HL.out).mono ?_
  rintro e w5 ⟨v5, rfl, mi5, b5⟩
  have B5 := Lib.hid b5
  have MI5 := Lib.hid mi5
  obtain ⟨s5, u5, ev5, hs5⟩ := id mi5
  obtain ⟨e1, e2, f1, f2, hv5, _⟩ := rdModel_slices mi5.rd
  have hsz5 : w4.heap.size ≤ w5.heap.size := b5.size
  rw [hv5] at MI5 ⊢
  clear p0 p1 b5 mi5 hs5 ev5 hv5
  go_wp2_with fail
  obtain ⟨W6, hW6⟩ : ∃ W6, w5.alloc (.cells #[.slice e1 m.doms.length f1, .slice e2 m.cons.length f2] 39) = W6 := ⟨_, rfl⟩
  have B6 : Below w5.heap.size w5 W6 := by rw [← hW6]; exact (Below.refl _ _).alloc (Nat.le_refl _) _
  have bX : Blk2 W6 w5.heap.size 39 (.slice e1 m.doms.length f1) (.slice e2 m.cons.length f2) := by rw [← hW6]; exact Blk2.new w5 _ _ _
  have hsz6 : W6.heap.size = w5.heap.size + 1 := by rw [← hW6, World.size_alloc]
  rw [hW6]
  have B46 : Below w4.heap.size w4 W6 := B5.out.trans (B6.mono hsz5)
  refine (toIntS_any _ xs W6 (HX4.out.below B46) hxl).mono ?_
  rintro e w6 ⟨rfl, rx6, b6, zz6, fz6⟩
  have B4' := Lib.hid (B46.trans (b6.mono B46.size))
  have M6 := Lib.hid ((MI5.out.rd.below B6).below b6)
  have S5a : Hid (∃ u1 u2, (Value.agg #[.slice e1 m.doms.length f1, .slice e2 m.cons.length f2] = .agg #[u1, u2]) ∧ ShI w4.heap.size w5.heap.size w6 u1 m.doms.length ∧ ShCs w4.heap.size w5.heap.size w6 u2) := Lib.hid (by
    obtain ⟨s, u, eq, l1, l2, l3, l4, l5⟩ := MI5.out
    have mk := (Marked.of_below (lo := w4.heap.size) (hi := w5.heap.size) B6).trans (Marked.of_below b6)
    exact ⟨_, _, eq, (shI_of l4 l1 l3).marked mk, (shCs_of l5 HL.out.2).marked mk⟩)
  have RX6 := Lib.hid rx6
  have HX6b := Lib.hid (bX.below b6)
  have SX6 : Hid (ShI W6.heap.size (W6.heap.size + 1) w6 (.slice (some ⟨W6.heap.size, 0, none⟩) xs.length xs.length) xs.length) := Lib.hid (by
    obtain ⟨a, c, e, q1, q2, q3⟩ := shI_of rx6 (Nat.le_refl _) fz6
    refine ⟨a, c, e, q1, q2, ?_⟩
    rcases q3 with q3 | ⟨b, off, ea, _, _, q3⟩
    · exact .inl q3
    · simp at e
      rw [← e.1] at ea
      simp at ea
      obtain ⟨rfl, rfl⟩ := ea
      exact .inr ⟨_, _, e.1.symm, Nat.le_refl _, Nat.lt_succ_self _, q3⟩)
  obtain ⟨x, hx⟩ : ∃ x, x = w5.heap.size := ⟨_, rfl⟩
  obtain ⟨g, hg⟩ : ∃ g, g = W6.heap.size := ⟨_, rfl⟩
  rw [← hx] at HX6b S5a hsz6 hsz5 ⊢
  rw [← hg] at RX6 SX6 zz6 hsz6 ⊢
  have HZ : Hid (w4.heap.size ≤ x ∧ g = x + 1 ∧ g < w6.heap.size) := Lib.hid ⟨hsz5, hsz6, zz6⟩
  clear hW6 B6 bX B46 b6 MI5 B5 hx hg rx6 fz6 hsz5 hsz6 zz6
  obtain ⟨x0, x1⟩ := HX6b.out.cell
  go_wp2_with fail
  refine (iViolated_any m _ _ xs w6 M6.out RX6.out HL.out).mono ?_
  rintro e w7 ⟨v7, rfl, o7, b7⟩
  rw [← HYS.out] at o7
  have G7 := Lib.hid (gInts_of_own o7)
  obtain ⟨a7, c7, e7⟩ := (gInts_of_own o7).slice
  rw [e7] at G7 ⊢
  obtain ⟨g6, hg6⟩ : ∃ g6, g6 = w6.heap.size := ⟨_, rfl⟩
  have HZ6 : Hid (w4.heap.size ≤ x ∧ x ≤ g6 ∧ w4.heap.size ≤ g ∧ g + 1 ≤ g6 ∧ w4.heap.size ≤ g6) := Lib.hid (by have := HZ.out; omega)
  have T6 := (Marked.of_below (lo := 0) (hi := 0) b7)
  have ST : Hid (StV w4 x g g6 39 (.slice e1 m.doms.length f1) (.slice e2 m.cons.length f2) (.slice (some ⟨g, 0, none⟩) xs.length xs.length) (.slice a7 ys.length c7) m xs ys w7) := Lib.hid (by
    obtain ⟨u1, u2, eq, q1, q2⟩ := S5a.out
    simp at eq
    obtain ⟨rfl, rfl⟩ := eq
    exact ⟨B4'.out.trans (b7.mono B4'.out.size), by rw [hg6]; exact G7.out, M6.out.below b7, RX6.out.below b7, HX6b.out.below b7, SX6.out.marked T6, q1.marked T6, q2.marked T6⟩)
  clear o7 e7 b7 x0 x1 M6 RX6 HX6b SX6 S5a B4' G7 T6 hg6 HZ
  go_wp2_with fail
  refine (eqIntS_same _ _ ys w7 ST.out.gi.1 (RW4.out.below ST.out.b)).mono ?_
  rintro e w8 ⟨rfl, k8, e8⟩
  have S8 := Lib.hid (ST.out.below (show Below w7.heap.size w7 w8 by rw [e8]; exact drewN_below _ _))
  clear e8 ST
  obtain ⟨x0, x1⟩ := S8.out.bx.cell
  obtain ⟨p0, p1⟩ := (HP4.out.below S8.out.b).cell
  have SD : Hid (StV w4 x g g6 39 (.slice e1 m.doms.length f1) (.slice e2 m.cons.length f2) (.slice (some ⟨g, 0, none⟩) xs.length xs.length) (.slice a7 ys.length c7) m xs ys w8.drew) := Lib.hid (S8.out.below (Below.refl _ w8).drew)
  go_wp2
  go_region_with (first
    | (go_at_call 22; refine (toModel_any _ m _ (HA4.out.below SD.out.b) HL.out).mono ?_; rintro e w9 ⟨v9, rfl, rc9, b9⟩; have S9 := Lib.hid (SD.out.below b9); have rc := Lib.hid rc9; obtain ⟨y0, y1⟩ := S9.out.bx.cell; clear rc9 b9)
    | (go_at_call 24; refine (eqModel_same _ _ m _ S9.out.rm rc.out).mono ?_; rintro e w10 ⟨rfl, b10⟩; have S10 := Lib.hid (S9.out.below b10); clear b10))
  all_goals clear x0 x1 p0 p1 SD S8
  all_goals try clear y0 y1 rc S9
  all_goals go_wp2_with fail
  all_goals refine (toIntS_any _ xs _ (HX4.out.below S10.out.b) hxl).mono ?_
  all_goals rintro e w11 ⟨rfl, rx11, b11, -⟩
  all_goals have S11 := Lib.hid (S10.out.below b11)
  all_goals have R11 := Lib.hid rx11
  all_goals clear b11 rx11 S10
  all_goals go_wp2_with fail
  all_goals refine (eqIntS_same _ _ xs _ S11.out.rx R11.out).mono ?_
  all_goals rintro e w12 ⟨rfl, k12, e12⟩
  all_goals have S12 := Lib.hid (S11.out.below (show Below _ _ w12 by rw [e12]; exact drewN_below _ _))
  all_goals clear e12 S11 R11
  all_goals obtain ⟨x0, x1⟩ := S12.out.bx.cell
  all_goals go_wp2_with fail
  all_goals refine (markModel_any w4.heap.size x _ _ _ m.doms.length 1 w12 rfl S12.out.s1 HL.out.1 S12.out.s2 (by omega) (by omega)).mono ?_
  all_goals rintro e w13 ⟨k13, rfl, hk1, hk2, m13⟩
  all_goals have B13 := Lib.hid (below_marked S12.out.b m13 (Nat.le_refl _) S12.out.b.size)
  all_goals have G13 := Lib.hid (S12.out.gi.marked m13 HZ6.out.2.1)
  all_goals have X13 := Lib.hid (S12.out.sx.marked m13)
  all_goals clear m13 S12 x0 x1
  all_goals go_wp2_with fail
  all_goals refine (markIntS_any g (g + 1) _ xs.length k13 w13 X13.out hxl (by omega) (by omega)).mono ?_
  all_goals rintro e w14 ⟨rfl, m14, -⟩
  all_goals have B14 := Lib.hid (below_marked B13.out m14 HZ6.out.2.2.1 B13.out.size)
  all_goals have G14 := Lib.hid (G13.out.marked m14 HZ6.out.2.2.2.1)
  all_goals clear m14 B13 G13 X13
  all_goals go_wp2_with fail
  all_goals refine (eqIntS_same _ _ ys w14 G14.out.1 (RW4.out.below B14.out)).mono ?_
  all_goals rintro e w15 ⟨rfl, k15, e15⟩
  all_goals have b15 : Below w14.heap.size w14 w15 := by rw [e15]; exact drewN_below _ _
  all_goals have B15 := Lib.hid (B14.out.trans (b15.mono B14.out.size))
  all_goals have G15 := Lib.hid (G14.out.below b15)
  all_goals clear e15 b15 B14 G14
  all_goals go_wp2_with fail
  all_goals refine (markIntS_any g6 _ _ ys.length 1 w15 G15.out.sh hyl (by omega) (by omega)).mono ?_
  all_goals rintro e w16 ⟨rfl, m16, r16⟩
  all_goals have B16 := Lib.hid (below_marked B15.out m16 HZ6.out.2.2.2.2 B15.out.size)
  all_goals have R16 := Lib.hid r16
  all_goals clear m16 r16 B15 G15
  all_goals go_wp2_with fail
  all_goals refine (heldIntS_any _ ys.length 1 w16 R16.out hyl (by omega) (by omega)).mono ?_
  all_goals rintro e w16' ⟨rfl, rfl⟩
  all_goals have hq1 : decide ((1 : Int) + (ys.length : Int) < 0) = false := by simp; omega
  all_goals have hq2 : ((1 : Int) + (ys.length : Int) != 1 + (ys.length : Int)) = false := by simp
  all_goals obtain ⟨p0, p1⟩ := (HP4.out.below B16.out).cell
  all_goals go_wp2_with fail
  all_goals refine (toModel_any _ m w16 (HA4.out.below B16.out) HL.out).mono ?_
  all_goals rintro e w17 ⟨v17, rfl, rc17, b17⟩
  all_goals have B17 := Lib.hid (B16.out.trans (b17.mono B16.out.size))
  all_goals have R17 := Lib.hid (R16.out.below b17)
  all_goals have RC17 := Lib.hid rc17
  all_goals clear b17 rc17 B16 R16 p0 p1
  all_goals go_wp2_with fail
  all_goals refine (toIntS_any _ xs w17 (HX4.out.below B17.out) hxl).mono ?_
  all_goals rintro e w18 ⟨rfl, rx18, b18, -⟩
  all_goals have B18 := Lib.hid (B17.out.trans (b18.mono B17.out.size))
  all_goals have R18 := Lib.hid (R17.out.below b18)
  all_goals have RC18 := Lib.hid (RC17.out.below b18)
  all_goals have RX18 := Lib.hid rx18
  all_goals clear b18 rx18 B17 R17 RC17
  all_goals go_wp2_with fail
  all_goals refine (iViolated_any m _ _ xs w18 RC18.out RX18.out HL.out).mono ?_
  all_goals rintro e w19 ⟨v19, rfl, o19, b19⟩
  all_goals rw [← HYS.out] at o19
  all_goals have B19 := Lib.hid (B18.out.trans (b19.mono B18.out.size))
  all_goals have R19 := Lib.hid (R18.out.below b19)
  all_goals have H19 := Lib.hid (rdInts_of_own o19)
  all_goals obtain ⟨a19, n19, c19, e19⟩ := own_slice o19
  all_goals rw [e19] at H19 ⊢
  all_goals clear b19 o19 e19 B18 R18 RC18 RX18
  all_goals go_wp2_with fail
  all_goals refine (eqIntS_same _ _ ys w19 H19.out (RW4.out.below B19.out)).mono ?_
  all_goals rintro e w20 ⟨rfl, k20, e20⟩
  all_goals have b20 : Below w19.heap.size w19 w20 := by rw [e20]; exact drewN_below _ _
  all_goals have B20 := Lib.hid (B19.out.trans (b20.mono B19.out.size))
  all_goals have R20 := Lib.hid (R19.out.below b20)
  all_goals clear e20 b20 B19 R19 H19
  all_goals go_wp2_with fail
  all_goals refine (heldIntS_any _ ys.length 1 w20 R20.out hyl (by omega) (by omega)).mono ?_
  all_goals rintro e w20' ⟨rfl, rfl⟩
  all_goals go_wp2
  all_goals go_ret
  all_goals exact ⟨rfl, HB4.out.trans (B20.out.mono HB4.out.size)⟩
end Go.Proofs.Ytkmdkbnphmadpaa
