/- The law of Resolve. -/
import Derived.Test.YtolfjkdkbiicmaaLitIr
import Derived.Test.YtolfjkdkbiicmaaLitHe
import Derived.Test.YtolfjkdkbiicmaaLitT
import Derived.Test.YtolfjkdkbiicmaaMkC
import Derived.Deep.RegionHeld3
namespace Go.Proofs.Ytolfjkdkbiicmaa
open Go.ChangeShapes Go.WideShapes Go.ChangeAt Go.RowKit Go.Deep
set_option linter.unusedVariables false
set_option linter.unusedSimpArgs false

def RdLit (v : Value) (l : Lit) : Prop := v = .agg #[.int .i64 l.var, .int .i64 l.val, .bool l.neg]
section
variable {H : Type} {enc : TypeId × Value → H} {w : World} {base : Nat} {held : Bool}
set_option maxRecDepth 100000 in
theorem rdLit_of_trod {r : Reach} {b0 : Nat} {v : Value} {d : DataW H} {p : List MemPlace} (hv : Value.okWide Try.prog w r b0 81 v) (h : DataW.Trod enc Try.prog w base (fun _ => true) held 81 v d p) : ∃ l, RdLit v l := by
  obtain ⟨cs, rfl, _⟩ := okWide_struct Try.underlying81 hv
  obtain ⟨n, hf⟩ := h
  obtain ⟨l, e⟩ := lit_of_cells hf
  obtain ⟨cl⟩ := cs
  simp [Value.cells] at e
  exact ⟨l, by unfold RdLit; rw [e]⟩
end
/-- A clause of a call's own, which may be written. -/
def GLits (B : Nat) (w : World) (v : Value) (ls : List Lit) : Prop :=
  RdLits w v ls ∧ ∀ b off n c, v = .slice (some ⟨b, off, none⟩) n c → 0 < n → B ≤ b ∧ ∀ i, w.frozen? ⟨b, i, none⟩ = false
theorem gLits_of_own {B : Nat} {w : World} {v : Value} {ls : List Lit} (h : OwnC w B v ls.length ls) : GLits B w v ls := by
  refine ⟨h.rd, fun b off n c e hn => ?_⟩
  rcases h.2.2 with ⟨ev, _⟩ | ⟨g, cap, cur, ev, hB, hg, _⟩
  · rw [ev] at e; cases e
  · rw [ev] at e
    simp at e
    obtain ⟨⟨rfl, rfl⟩, _⟩ := e
    exact ⟨hB, fun i => by simp [World.frozen?, hg]⟩
theorem GLits.lt {B : Nat} {w : World} {v : Value} {ls : List Lit} (h : GLits B w v ls) {b off n c : Nat} (e : v = .slice (some ⟨b, off, none⟩) n c) (hn : 0 < n) : b < w.heap.size := by
  obtain ⟨a, cap, ev, _, _, h3⟩ := h.1
  rw [e] at ev
  simp at ev
  obtain ⟨rfl, rfl, rfl⟩ := ev
  rcases h3 with h3 | ⟨b', o', e', h3⟩
  · omega
  · simp at e'
    obtain ⟨rfl, rfl⟩ := e'
    exact World.block_lt_of_cell? w _ (h3 0 _ (List.getElem?_eq_getElem hn)).1
theorem GLits.below {B : Nat} {w w' : World} {v : Value} {ls : List Lit} (h : GLits B w v ls) (hb : Below w.heap.size w w') : GLits B w' v ls :=
  ⟨h.1.below hb, fun b off n c e hn => ⟨(h.2 b off n c e hn).1, fun i => (frozen_below hb (h.lt e hn) i).trans ((h.2 b off n c e hn).2 i)⟩⟩
theorem GLits.marked {B lo hi : Nat} {w w' : World} {v : Value} {ls : List Lit} (h : GLits B w v ls) (hm : Marked lo hi w w') (hB : hi ≤ B) : GLits B w' v ls := by
  refine ⟨?_, fun b off n c e hn => ⟨(h.2 b off n c e hn).1, fun i => (hm.frozen b i (h.lt e hn)).trans ((h.2 b off n c e hn).2 i)⟩⟩
  obtain ⟨a, cap, e, h1, h2, h3⟩ := id h.1
  refine ⟨a, cap, e, h1, h2, ?_⟩
  rcases h3 with h3 | ⟨b, off, ea, h3⟩
  · exact .inl h3
  · by_cases h0 : ls.length = 0
    · exact .inl h0
    · refine .inr ⟨b, off, ea, fun i l hi' => ?_⟩
      have hb := (h.2 b off _ _ (by rw [e, ea]) (by omega)).1
      obtain ⟨k0, k1, k2⟩ := h3 i l hi'
      have hl := World.block_lt_of_cell? w _ k0
      have := hm.block b hl (.inr (by omega))
      have key : ∀ o x, w.cell? ⟨b, o, none⟩ = some x → w'.cell? ⟨b, o, none⟩ = some x := fun o x k => by
        unfold World.cell? at k ⊢
        rw [this]
        exact k
      exact ⟨key _ _ k0, key _ _ k1, key _ _ k2⟩
theorem GLits.sh {B : Nat} {w : World} {v : Value} {ls : List Lit} (h : GLits B w v ls) : ShL B w.heap.size w v ls.length := by
  obtain ⟨a, c, e, h1, h2, h3⟩ := id h.1
  refine ⟨a, c, e, h1, h2, ?_⟩
  rcases h3 with h3 | ⟨b, off, ea, h3⟩
  · exact .inl h3
  · by_cases h0 : ls.length = 0
    · exact .inl h0
    · obtain ⟨q1, q2⟩ := h.2 b off _ _ (by rw [e, ea]) (by omega)
      refine .inr ⟨b, off, ea, q1, World.block_lt_of_cell? w _ (h3 0 _ (List.getElem?_eq_getElem (by omega))).1, fun i hi => ?_⟩
      obtain ⟨k0, k1, k2⟩ := h3 i _ (List.getElem?_eq_getElem hi)
      exact ⟨_, _, _, k0, k1, k2, q2 _, q2 _, q2 _⟩
theorem GLits.slice {B : Nat} {w : World} {v : Value} {ls : List Lit} (h : GLits B w v ls) : ∃ a c, v = .slice a ls.length c := by
  obtain ⟨a, c, e, _⟩ := h.1; exact ⟨a, c, e⟩

set_option maxRecDepth 100000 in
set_option maxHeartbeats 32000000 in
theorem law_re (x0 : Int) (v1 v2 v3 : Value) (x1 x2 : List Lit) (l : Lit) (w : World) (h1 : RdLits w v1 x1) (h2 : RdLits w v2 x2) (h3 : RdLit v3 l) :
    Calls Try.prog 14 #[.int .i64 x0, v1, v2, v3] w (SamePostB w) := by
  unfold RdLit at h3
  subst h3
  obtain ⟨a1, c1, ev1, -⟩ := id h1
  rw [ev1] at h1 ⊢
  have hc1 := (rdLits_len h1).2.1
  have hd1 := (rdLits_len h1).2.2
  obtain ⟨a2, c2, ev2, -⟩ := id h2
  rw [ev2] at h2 ⊢
  have hc2 := (rdLits_len h2).2.1
  have hd2 := (rdLits_len h2).2.2
  obtain ⟨W1, hW1⟩ : ∃ W1, w.alloc (.cells #[.int .i64 l.var, .int .i64 l.val, .bool l.neg] 81) = W1 := ⟨_, rfl⟩
  have b1 : Below w.heap.size w W1 := by rw [← hW1]; exact (Below.refl _ _).alloc (Nat.le_refl _) _
  have bP : Blk3 W1 w.heap.size 81 (.int .i64 l.var) (.int .i64 l.val) (.bool l.neg) := by rw [← hW1]; exact Blk3.new w _ _ _ _
  have HW := Lib.hid hW1
  have HB_1 := Lib.hid b1
  have P_1 := Lib.hid bP
  have A1_1 := Lib.hid (h1.below b1)
  have A2_1 := Lib.hid (h2.below b1)
  clear hW1 b1 bP h1 h2 ev1 ev2
  go_enter Try.func14, Try.ntmps14
  go_wp2_with fail
  rw [HW.out]
  refine (szLiteralS_any _ x1 1048576 W1 A1_1.out (by omega) (by omega)).mono ?_
  rintro e w' ⟨r1, rfl, _, _, hq, rfl⟩
  have HQ := Lib.hid hq
  clear hq
  by_cases hr1 : r1 < 0
  · go_wp2
    go_ret
    exact ⟨rfl, HB_1.out⟩
  have HL1 : Hid (x1.length ≤ 1048576) := Lib.hid (by have := HQ.out (by omega); omega)
  clear HQ
  go_wp2_with fail
  refine (szLiteralS_any _ x2 r1 W1 A2_1.out (by omega) (by omega)).mono ?_
  rintro e w' ⟨r2, rfl, _, _, hq, rfl⟩
  have HQ := Lib.hid hq
  clear hq
  by_cases hr2 : r2 < 0
  · go_wp2
    go_ret
    exact ⟨rfl, HB_1.out⟩
  have HL2 : Hid (x2.length ≤ 1048576) := Lib.hid (by have := HQ.out (by omega); omega)
  clear HQ
  clear HW
  obtain ⟨n1, hn1⟩ : ∃ n1, n1 = x1.length := ⟨_, rfl⟩
  obtain ⟨n2, hn2⟩ : ∃ n2, n2 = x2.length := ⟨_, rfl⟩
  rw [← hn1] at A1_1 hc1 ⊢
  rw [← hn2] at A2_1 hc2 ⊢
  clear hn1 hn2
  have HB_2 := Lib.hid (HB_1.out.trans ((Below.refl _ W1).drew.mono HB_1.out.size))
  have P_2 := Lib.hid (P_1.out.below (Below.refl _ W1).drew)
  have A1_2 := Lib.hid (A1_1.out.below (Below.refl _ W1).drew)
  have A2_2 := Lib.hid (A2_1.out.below (Below.refl _ W1).drew)
  clear HB_1 P_1 A1_1 A2_1
  obtain ⟨p0, p1, p2⟩ := P_2.out.cell
  go_wp2
  go_region_held3 (fun w' => w'.cell? ⟨w.heap.size, 0, none⟩ = some (.int .i64 l.var) ∧ w'.cell? ⟨w.heap.size, 1, none⟩ = some (.int .i64 l.val) ∧ w'.cell? ⟨w.heap.size, 2, none⟩ = some (.bool l.neg)) (first | go_keep | exact ⟨q30, q31, q32⟩ | exact ⟨q20, q21, q22⟩ | exact ⟨q10, q11, q12⟩ | exact ⟨q00, q01, q02⟩ | exact ⟨p0, p1, p2⟩) (first | (go_at_call 59; refine (sResolve_any x0 _ _ x1 x2 l _ Rc1_5.out Rc2_5.out).mono ?_; rintro e wc4 ⟨vc4, rfl, o4, b⟩; have HO4 := Lib.hid o4; have R4 := Lib.hid b; have HB_6 := Lib.hid (HB_5.out.trans (b.mono HB_5.out.size)); have P_6 := Lib.hid (P_5.out.below b); have A1_6 := Lib.hid (A1_5.out.below b); have A2_6 := Lib.hid (A2_5.out.below b); obtain ⟨q30, q31, q32⟩ := P_6.out.cell; clear b o4) | (go_at_call 61; refine (toLiteral_any l.var l.val l.neg _).mono ?_; rintro e wc3 ⟨rfl, b⟩; have HB_5 := Lib.hid (HB_4.out.trans (b.mono HB_4.out.size)); have P_5 := Lib.hid (P_4.out.below b); have A1_5 := Lib.hid (A1_4.out.below b); have A2_5 := Lib.hid (A2_4.out.below b); have Rc1_5 := Lib.hid (Rc1_4.out.below b); have Rc2_5 := Lib.hid (Rc2_4.out.below b); obtain ⟨q20, q21, q22⟩ := P_5.out.cell; clear b) | (go_at_call 60; refine (toLiteralS_sh _ x2 _ A2_3.out HL2.out).mono ?_; rintro e wc2 ⟨uc2, rfl, rc, -, b⟩; have Rc2_4 := Lib.hid rc; have HB_4 := Lib.hid (HB_3.out.trans (b.mono HB_3.out.size)); have P_4 := Lib.hid (P_3.out.below b); have A1_4 := Lib.hid (A1_3.out.below b); have A2_4 := Lib.hid (A2_3.out.below b); have Rc1_4 := Lib.hid (Rc1_3.out.below b); obtain ⟨q10, q11, q12⟩ := P_4.out.cell; clear b rc) | (go_at_call 60; refine (toLiteralS_sh _ x1 _ A1_2.out HL1.out).mono ?_; rintro e wc1 ⟨uc1, rfl, rc, -, b⟩; have Rc1_3 := Lib.hid rc; have HB_3 := Lib.hid (HB_2.out.trans (b.mono HB_2.out.size)); have P_3 := Lib.hid (P_2.out.below b); have A1_3 := Lib.hid (A1_2.out.below b); have A2_3 := Lib.hid (A2_2.out.below b); obtain ⟨q00, q01, q02⟩ := P_3.out.cell; clear b rc))
  clear p0 p1 p2 q00 q01 q02 q10 q11 q12 q20 q21 q22 q30 q31 q32
  clear R4 HB_2 P_2 A1_2 A2_2 HB_3 P_3 A1_3 A2_3 HB_4 P_4 A1_4 A2_4 HB_5 P_5 A1_5 A2_5 Rc1_3 Rc1_4 Rc1_5 Rc2_4 Rc2_5
  obtain ⟨ys, hys⟩ : ∃ ys, ys = rsL x0 x1 x2 l := ⟨_, rfl⟩
  obtain ⟨zs, hzs⟩ : ∃ zs, zs = rsB x0 x1 x2 l := ⟨_, rfl⟩
  have o4 := HO4.out
  clear HO4
  rw [← hys] at o4
  rw [← hzs]
  have HYS := Lib.hid hys
  have HZS := Lib.hid hzs
  have RW := Lib.hid o4.rd
  obtain ⟨a4, n4, c4, e4⟩ := o4.slice3
  rw [e4] at RW ⊢
  have HYL : Hid (ys.length ≤ 1048576) := Lib.hid (by rw [hys]; exact rsL_le x0 x1 x2 l)
  clear o4 e4 hys hzs
  have hz2 : (zs != zs) = false := by simp
  have KA1 := A1_6
  have KA2 := A2_6
  have KP := P_6
  have KB := HB_6
  clear HB_6 P_6 A1_6 A2_6
  have B4_6 := Lib.hid (Below.refl wc4.heap.size wc4)
  have hsz : wc4.heap.size ≤ wc4.heap.size := B4_6.out.size
  go_wp2_with fail
  refine (toLiteralS_sh _ x1 wc4 (KA1.out.below B4_6.out) HL1.out).mono ?_
  rintro e wx1 ⟨ux1, rfl, rc, sh, b⟩
  obtain ⟨lo1, hlo1⟩ : ∃ q, q = wc4.heap.size := ⟨_, rfl⟩
  obtain ⟨hi1, hhi1⟩ : ∃ q, q = wx1.heap.size := ⟨_, rfl⟩
  have HZ1 : Hid (wc4.heap.size ≤ lo1 ∧ lo1 ≤ hi1) := Lib.hid (by rw [hlo1, hhi1]; exact ⟨hsz, b.size⟩)
  have RX1_7 := Lib.hid rc
  have SX1_7 := Lib.hid sh
  obtain ⟨ya1, yc1, eu1, -⟩ := id rc
  subst eu1
  clear rc sh hsz
  have B4_7 := Lib.hid (B4_6.out.trans (b.mono B4_6.out.size))
  clear b B4_6
  have Z1_7 : Hid (hi1 ≤ wx1.heap.size) := Lib.hid (Nat.le_of_eq hhi1)
  rw [← hlo1, ← hhi1] at SX1_7
  clear hlo1 hhi1
  have hsz : wc4.heap.size ≤ wx1.heap.size := B4_7.out.size
  go_wp2_with fail
  refine (toLiteralS_sh _ x2 wx1 (KA2.out.below B4_7.out) HL2.out).mono ?_
  rintro e wx2 ⟨ux2, rfl, rc, sh, b⟩
  obtain ⟨lo2, hlo2⟩ : ∃ q, q = wx1.heap.size := ⟨_, rfl⟩
  obtain ⟨hi2, hhi2⟩ : ∃ q, q = wx2.heap.size := ⟨_, rfl⟩
  have HZ2 : Hid (wc4.heap.size ≤ lo2 ∧ lo2 ≤ hi2) := Lib.hid (by rw [hlo2, hhi2]; exact ⟨hsz, b.size⟩)
  have RX2_8 := Lib.hid rc
  have SX2_8 := Lib.hid sh
  obtain ⟨ya2, yc2, eu2, -⟩ := id rc
  subst eu2
  clear rc sh hsz
  have B4_8 := Lib.hid (B4_7.out.trans (b.mono B4_7.out.size))
  have RX1_8 := Lib.hid (RX1_7.out.below b)
  have SX1_8 := Lib.hid (SX1_7.out.below b)
  have Z1_8 := Lib.hid (Nat.le_trans Z1_7.out b.size)
  clear b B4_7 RX1_7 SX1_7 Z1_7
  have Z2_8 : Hid (hi2 ≤ wx2.heap.size) := Lib.hid (Nat.le_of_eq hhi2)
  rw [← hlo2, ← hhi2] at SX2_8
  clear hlo2 hhi2
  obtain ⟨p0, p1, p2⟩ := (KP.out.below B4_8.out).cell
  go_wp2_with fail
  refine (toLiteral_any l.var l.val l.neg wx2).mono ?_
  rintro e w6 ⟨rfl, b⟩
  clear p0 p1 p2
  have B4_9 := Lib.hid (B4_8.out.trans (b.mono B4_8.out.size))
  have RX1_9 := Lib.hid (RX1_8.out.below b)
  have SX1_9 := Lib.hid (SX1_8.out.below b)
  have Z1_9 := Lib.hid (Nat.le_trans Z1_8.out b.size)
  have RX2_9 := Lib.hid (RX2_8.out.below b)
  have SX2_9 := Lib.hid (SX2_8.out.below b)
  have Z2_9 := Lib.hid (Nat.le_trans Z2_8.out b.size)
  clear b B4_8 RX1_8 SX1_8 Z1_8 RX2_8 SX2_8 Z2_8
  go_wp2_with fail
  refine (iResolve_any x0 _ _ x1 x2 l w6 RX1_9.out RX2_9.out).mono ?_
  rintro e w7 ⟨v7, rfl, o7, b⟩
  rw [← HYS.out] at o7
  have G_10 := Lib.hid (gLits_of_own o7)
  obtain ⟨a7, c7, e7⟩ := (gLits_of_own o7).slice
  rw [e7] at G_10 ⊢
  obtain ⟨g6, hg6⟩ : ∃ q, q = w6.heap.size := ⟨_, rfl⟩
  rw [← hg6] at G_10
  have HG6 : Hid (wc4.heap.size ≤ g6 ∧ hi1 ≤ g6 ∧ hi2 ≤ g6) := Lib.hid (by rw [hg6]; exact ⟨B4_9.out.size, Z1_9.out, Z2_9.out⟩)
  clear o7 e7 hg6
  rw [← HZS.out]
  clear Z1_9
  clear Z2_9
  have B4_10 := Lib.hid (B4_9.out.trans (b.mono B4_9.out.size))
  have RX1_10 := Lib.hid (RX1_9.out.below b)
  have SX1_10 := Lib.hid (SX1_9.out.below b)
  have RX2_10 := Lib.hid (RX2_9.out.below b)
  have SX2_10 := Lib.hid (SX2_9.out.below b)
  clear b B4_9 RX1_9 SX1_9 RX2_9 SX2_9
  go_wp2_with fail
  refine (eqLiteralS_same _ _ ys w7 G_10.out.1 (RW.out.below B4_10.out)).mono ?_
  rintro e w8 ⟨rfl, b⟩
  have B4_11 := Lib.hid (B4_10.out.trans (b.mono B4_10.out.size))
  have RX1_11 := Lib.hid (RX1_10.out.below b)
  have SX1_11 := Lib.hid (SX1_10.out.below b)
  have RX2_11 := Lib.hid (RX2_10.out.below b)
  have SX2_11 := Lib.hid (SX2_10.out.below b)
  have G_11 := Lib.hid (G_10.out.below b)
  clear b B4_10 RX1_10 SX1_10 RX2_10 SX2_10 G_10
  go_wp2_with fail
  refine (toLiteralS_sh _ x1 w8 (KA1.out.below B4_11.out) HL1.out).mono ?_
  rintro e w9 ⟨vq1, rfl, rc, -, b⟩
  obtain ⟨qa1, qc1, eq1, -⟩ := id rc
  subst eq1
  have RQ_12 := Lib.hid rc
  clear rc
  have B4_12 := Lib.hid (B4_11.out.trans (b.mono B4_11.out.size))
  have RX1_12 := Lib.hid (RX1_11.out.below b)
  have SX1_12 := Lib.hid (SX1_11.out.below b)
  have RX2_12 := Lib.hid (RX2_11.out.below b)
  have SX2_12 := Lib.hid (SX2_11.out.below b)
  have G_12 := Lib.hid (G_11.out.below b)
  clear b B4_11 RX1_11 SX1_11 RX2_11 SX2_11 G_11
  go_wp2_with fail
  refine (eqLiteralS_same _ _ x1 w9 RX1_12.out RQ_12.out).mono ?_
  rintro e w10 ⟨rfl, b⟩
  clear RQ_12
  have B4_13 := Lib.hid (B4_12.out.trans (b.mono B4_12.out.size))
  have RX1_13 := Lib.hid (RX1_12.out.below b)
  have SX1_13 := Lib.hid (SX1_12.out.below b)
  have RX2_13 := Lib.hid (RX2_12.out.below b)
  have SX2_13 := Lib.hid (SX2_12.out.below b)
  have G_13 := Lib.hid (G_12.out.below b)
  clear b B4_12 RX1_12 SX1_12 RX2_12 SX2_12 G_12
  go_wp2_with fail
  refine (toLiteralS_sh _ x2 w10 (KA2.out.below B4_13.out) HL2.out).mono ?_
  rintro e w11 ⟨vq2, rfl, rc, -, b⟩
  obtain ⟨qa2, qc2, eq2, -⟩ := id rc
  subst eq2
  have RQ_14 := Lib.hid rc
  clear rc
  have B4_14 := Lib.hid (B4_13.out.trans (b.mono B4_13.out.size))
  have RX1_14 := Lib.hid (RX1_13.out.below b)
  have SX1_14 := Lib.hid (SX1_13.out.below b)
  have RX2_14 := Lib.hid (RX2_13.out.below b)
  have SX2_14 := Lib.hid (SX2_13.out.below b)
  have G_14 := Lib.hid (G_13.out.below b)
  clear b B4_13 RX1_13 SX1_13 RX2_13 SX2_13 G_13
  go_wp2_with fail
  refine (eqLiteralS_same _ _ x2 w11 RX2_14.out RQ_14.out).mono ?_
  rintro e w12 ⟨rfl, b⟩
  clear RQ_14
  have B4_15 := Lib.hid (B4_14.out.trans (b.mono B4_14.out.size))
  have RX1_15 := Lib.hid (RX1_14.out.below b)
  have SX1_15 := Lib.hid (SX1_14.out.below b)
  have RX2_15 := Lib.hid (RX2_14.out.below b)
  have SX2_15 := Lib.hid (SX2_14.out.below b)
  have G_15 := Lib.hid (G_14.out.below b)
  clear b B4_14 RX1_14 SX1_14 RX2_14 SX2_14 G_14
  clear RX1_15
  clear RX2_15
  go_wp2_with fail
  refine (markLiteralS_sh lo1 hi1 _ 1 w12 SX1_15.out (by omega) (by omega)).mono ?_
  rintro e w13 ⟨k1, rfl, hk1a, hk1b, mm⟩
  clear SX1_15
  have B4_16 := Lib.hid (below_marked B4_15.out mm HZ1.out.1 B4_15.out.size)
  have SX2_16 := Lib.hid (SX2_15.out.marked mm)
  have G_16 := Lib.hid (G_15.out.marked mm (by have := HG6.out; omega))
  clear mm B4_15 SX2_15 G_15
  go_wp2_with fail
  refine (markLiteralS_sh lo2 hi2 _ k1 w13 SX2_16.out (by omega) (by omega)).mono ?_
  rintro e w14 ⟨k2, rfl, hk2a, hk2b, mm⟩
  clear SX2_16
  have B4_17 := Lib.hid (below_marked B4_16.out mm HZ2.out.1 B4_16.out.size)
  have G_17 := Lib.hid (G_16.out.marked mm (by have := HG6.out; omega))
  clear mm B4_16 G_16
  have hkn : decide (k2 < 0) = false := by simp; omega
  go_wp2_with fail
  refine (eqLiteralS_same _ _ ys w14 G_17.out.1 (RW.out.below B4_17.out)).mono ?_
  rintro e w15 ⟨rfl, b⟩
  have B4_18 := Lib.hid (B4_17.out.trans (b.mono B4_17.out.size))
  have G_18 := Lib.hid (G_17.out.below b)
  clear b B4_17 G_17
  go_wp2_with fail
  refine (markLiteralS_any g6 _ _ ys.length 1 w15 G_18.out.sh HYL.out (by omega) (by omega)).mono ?_
  rintro e w16 ⟨rfl, mm, rr⟩
  have HH_19 := Lib.hid rr
  have B4_19 := Lib.hid (below_marked B4_18.out mm HG6.out.1 B4_18.out.size)
  clear mm rr G_18 B4_18
  have hyl := HYL.out
  go_wp2_with fail
  refine (heldLiteralS_any _ ys.length 1 w16 HH_19.out HYL.out (by omega) (by omega)).mono ?_
  rintro e w' ⟨rfl, rfl⟩
  have hq1 : decide ((1 : Int) + 3 * (ys.length : Int) < 0) = false := by simp; omega
  have hq2 : ((1 : Int) + 3 * (ys.length : Int) != 1 + 3 * (ys.length : Int)) = false := by simp
  have B4_20 := Lib.hid (B4_19.out.trans ((Below.refl _ w16).drew.mono B4_19.out.size))
  have HH_20 := Lib.hid (HH_19.out.below (Below.refl _ w16).drew)
  clear B4_19 HH_19
  obtain ⟨p0, p1, p2⟩ := (KP.out.below B4_20.out).cell
  go_wp2
  go_region_held3 (fun w' => w'.cell? ⟨w.heap.size, 0, none⟩ = some (.int .i64 l.var) ∧ w'.cell? ⟨w.heap.size, 1, none⟩ = some (.int .i64 l.val) ∧ w'.cell? ⟨w.heap.size, 2, none⟩ = some (.bool l.neg)) (first | go_keep | exact ⟨q30, q31, q32⟩ | exact ⟨q20, q21, q22⟩ | exact ⟨q10, q11, q12⟩ | exact ⟨q00, q01, q02⟩ | exact ⟨p0, p1, p2⟩) (first | (go_at_call 62; refine (iResolve_any x0 _ _ x1 x2 l _ Rd1_23.out Rd2_23.out).mono ?_; rintro e wd4 ⟨vd4, rfl, o4, b⟩; have HO4 := Lib.hid o4; have R4 := Lib.hid b; have B4_24 := Lib.hid (B4_23.out.trans (b.mono B4_23.out.size)); have HH_24 := Lib.hid (HH_23.out.below b); obtain ⟨q30, q31, q32⟩ := (KP.out.below B4_24.out).cell; clear b o4) | (go_at_call 61; refine (toLiteral_any l.var l.val l.neg _).mono ?_; rintro e wd3 ⟨rfl, b⟩; have B4_23 := Lib.hid (B4_22.out.trans (b.mono B4_22.out.size)); have HH_23 := Lib.hid (HH_22.out.below b); have Rd1_23 := Lib.hid (Rd1_22.out.below b); have Rd2_23 := Lib.hid (Rd2_22.out.below b); obtain ⟨q20, q21, q22⟩ := (KP.out.below B4_23.out).cell; clear b) | (go_at_call 60; refine (toLiteralS_sh _ x2 _ (KA2.out.below B4_21.out) HL2.out).mono ?_; rintro e wd2 ⟨ud2, rfl, rc, -, b⟩; have Rd2_22 := Lib.hid rc; have B4_22 := Lib.hid (B4_21.out.trans (b.mono B4_21.out.size)); have HH_22 := Lib.hid (HH_21.out.below b); have Rd1_22 := Lib.hid (Rd1_21.out.below b); obtain ⟨q10, q11, q12⟩ := (KP.out.below B4_22.out).cell; clear b rc) | (go_at_call 60; refine (toLiteralS_sh _ x1 _ (KA1.out.below B4_20.out) HL1.out).mono ?_; rintro e wd1 ⟨ud1, rfl, rc, -, b⟩; have Rd1_21 := Lib.hid rc; have B4_21 := Lib.hid (B4_20.out.trans (b.mono B4_20.out.size)); have HH_21 := Lib.hid (HH_20.out.below b); obtain ⟨q00, q01, q02⟩ := (KP.out.below B4_21.out).cell; clear b rc))
  clear p0 p1 p2 q00 q01 q02 q10 q11 q12 q20 q21 q22 q30 q31 q32
  clear R4 B4_20 HH_20 B4_21 HH_21 B4_22 HH_22 B4_23 HH_23 Rd1_21 Rd1_22 Rd1_23 Rd2_22 Rd2_23
  have o9 := HO4.out
  clear HO4
  rw [← HYS.out] at o9
  rw [← HZS.out]
  have H9_24 := Lib.hid o9.rd
  obtain ⟨a9, n9, c9, e9⟩ := o9.slice3
  rw [e9] at H9_24 ⊢
  clear o9 e9
  go_wp2_with fail
  refine (eqLiteralS_same _ _ ys wd4 H9_24.out (RW.out.below B4_24.out)).mono ?_
  rintro e w17 ⟨rfl, b⟩
  have B4_25 := Lib.hid (B4_24.out.trans (b.mono B4_24.out.size))
  have HH_25 := Lib.hid (HH_24.out.below b)
  have H9_25 := Lib.hid (H9_24.out.below b)
  clear b B4_24 HH_24 H9_24
  go_wp2_with fail
  refine (heldLiteralS_any _ ys.length 1 w17 HH_25.out HYL.out (by omega) (by omega)).mono ?_
  rintro e w' ⟨rfl, rfl⟩
  go_wp2
  go_ret
  exact ⟨rfl, KB.out.trans (B4_25.out.mono KB.out.size)⟩
end Go.Proofs.Ytolfjkdkbiicmaa
