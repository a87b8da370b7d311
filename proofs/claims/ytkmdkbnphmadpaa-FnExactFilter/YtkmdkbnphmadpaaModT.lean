/- The laws' own copy of a model, and its tests of equality. -/
import Derived.Test.YtkmdkbnphmadpaaMod
namespace Go.Proofs.Ytkmdkbnphmadpaa
open Go.ChangeShapes Go.WideShapes Go.ChangeAt Go.RowKit
set_option linter.unusedVariables false
set_option linter.unusedSimpArgs false

theorem RdCons.drewN' {w : World} {v : Value} {xs : List Con} (h : RdCons w v xs) (k : Nat) : RdCons (w.drewN k) v xs := h

theorem consIn_mono {B B' : Nat} {w : World} {v : Value} {cs : List Con} (h : ConsIn B w v cs) (hb : B' ≤ B) : ConsIn B' w v cs := by
  obtain ⟨g, e, hB, hm, h⟩ := h
  refine ⟨g, e, by omega, hm, fun i c hc => ?_⟩
  obtain ⟨u2, u3, u5, e0, e1, e2, e3, e4, hi⟩ := h i c hc
  exact ⟨u2, u3, u5, e0, e1, e2, e3, e4, hi.mono hb⟩
/-- A model in blocks from B on, which may be written. -/
def ModIn (B : Nat) (w : World) (v : Value) (m : Mod) : Prop :=
  ∃ s2 u2, v = .agg #[.slice (some ⟨s2, 0, none⟩) m.doms.length m.doms.length, u2] ∧ B ≤ s2 ∧ s2 < w.heap.size ∧ (∀ k, w.frozen? ⟨s2, k, none⟩ = false) ∧ RdInts w (.slice (some ⟨s2, 0, none⟩) m.doms.length m.doms.length) m.doms ∧ ConsIn B w u2 m.cons
theorem ModIn.rd {B : Nat} {w : World} {v : Value} {m : Mod} (h : ModIn B w v m) : RdModel w v m := by
  obtain ⟨s2, u2, e, _, _, _, h1, h2⟩ := h
  exact ⟨_, _, e, h1, h2.rd⟩
/-- What toModel leaves. -/
def CopyModIn (m : Mod) (w : World) (e : Ending) (w' : World) : Prop := ∃ v, e = .returned v ∧ ModIn w.heap.size w' v m ∧ Below w.heap.size w w'
def CopyModPost (m : Mod) (w : World) (e : Ending) (w' : World) : Prop := ∃ v, e = .returned v ∧ RdModel w' v m ∧ Below w.heap.size w w'

set_option maxRecDepth 100000 in
set_option maxHeartbeats 4000000 in
theorem toModel_in (v : Value) (m : Mod) (w : World) (h : RdModel w v m) (hm : ModLe m 1048576) :
    Calls Try.prog 22 #[v] w (CopyModIn m w) := by
  obtain ⟨a1, a2, c1, c2, rfl, h1, h2⟩ := rdModel_slices h
  obtain ⟨hl1, hl2⟩ := hm
  clear h
  obtain ⟨W1, hW1⟩ : ∃ W1, ((w.alloc (.cells #[.slice a1 m.doms.length c1, .slice a2 m.cons.length c2] 34)).alloc (.cells #[.slice none 0 0, .slice none 0 0] 39)).alloc (.cells #[.slice none 0 0, .slice none 0 0] 39) = W1 := ⟨_, rfl⟩
  have bP : Blk2 W1 w.heap.size 34 (.slice a1 m.doms.length c1) (.slice a2 m.cons.length c2) := by rw [← hW1]; exact ((Blk2.new w _ _ _).alloc _).alloc _
  have bR : Blk2 W1 (w.heap.size + 1) 39 (.slice none 0 0) (.slice none 0 0) := by
    rw [← hW1]; refine Blk2.alloc ?_ _
    have := Blk2.new (w.alloc (.cells #[.slice a1 m.doms.length c1, .slice a2 m.cons.length c2] 34)) 39 (.slice none 0 0) (.slice none 0 0)
    rwa [World.size_alloc] at this
  have bO : Blk2 W1 (w.heap.size + 1 + 1) 39 (.slice none 0 0) (.slice none 0 0) := by
    rw [← hW1]
    have := Blk2.new ((w.alloc (.cells #[.slice a1 m.doms.length c1, .slice a2 m.cons.length c2] 34)).alloc (.cells #[.slice none 0 0, .slice none 0 0] 39)) 39 (.slice none 0 0) (.slice none 0 0)
    rwa [World.size_alloc, World.size_alloc] at this
  have bel1 : Below w.heap.size w W1 := by rw [← hW1]; exact (((Below.refl _ _).alloc (Nat.le_refl _) _).alloc (by simp) _).alloc (by simp; omega) _
  have HW := Lib.hid hW1
  have HBP := Lib.hid bP
  have HBR := Lib.hid bR
  have HBO := Lib.hid bO
  have HB1 := Lib.hid bel1
  have hz1 : w.heap.size + 1 + 1 < W1.heap.size := bO.lt
  clear hW1 bP bR bO bel1
  go_enter Try.func22, Try.ntmps22
  go_wp2_with fail
  rw [HW.out]
  refine (toIntS_any _ m.doms W1 (h1.below HB1.out) hl1).mono ?_
  rintro e w2 ⟨rfl, r2, b2, z2, fz2⟩
  have HP2 := Lib.hid (HBP.out.below b2)
  have HR2 := Lib.hid (HBR.out.below b2)
  have HO2 := Lib.hid (HBO.out.below b2)
  have HB2 := Lib.hid (HB1.out.trans (b2.mono HB1.out.size))
  have R2 := Lib.hid r2
  obtain ⟨s2, hs2⟩ : ∃ s2, s2 = W1.heap.size := ⟨_, rfl⟩
  rw [← hs2] at R2 hz1 z2 fz2 ⊢
  have Z2 := Lib.hid fz2
  clear fz2
  clear HBP HBR HBO b2 r2 hs2 HW HB1
  obtain ⟨p0, p1⟩ := HP2.out.cell
  obtain ⟨o0, o1⟩ := HO2.out.cell
  obtain ⟨f0, f1⟩ := HO2.out.frozen
  go_wp2_with fail
  have B3 : Below w.heap.size w (w2.setCell ⟨w.heap.size + 1 + 1, 0, none⟩ (.slice (some ⟨s2, 0, none⟩) m.doms.length m.doms.length)) := HB2.out.setCell (p := ⟨w.heap.size + 1 + 1, 0, none⟩) (by show w.heap.size ≤ w.heap.size + 1 + 1; omega) _
  have bR3 := HR2.out.other (p := ⟨w.heap.size + 1 + 1, 0, none⟩) (by show w.heap.size + 1 + 1 ≠ w.heap.size + 1; omega) (.slice (some ⟨s2, 0, none⟩) m.doms.length m.doms.length)
  have bO3 := HO2.out.set 0 (.slice (some ⟨s2, 0, none⟩) m.doms.length m.doms.length)
  have rr3 := R2.out.setCell (p := ⟨w.heap.size + 1 + 1, 0, none⟩) (by show w.heap.size + 1 + 1 ≠ s2; omega) (.slice (some ⟨s2, 0, none⟩) m.doms.length m.doms.length)
  obtain ⟨W3, hW3⟩ : ∃ W3, w2.setCell ⟨w.heap.size + 1 + 1, 0, none⟩ (.slice (some ⟨s2, 0, none⟩) m.doms.length m.doms.length) = W3 := ⟨_, rfl⟩
  rw [hW3] at B3 bR3 bO3 rr3 ⊢
  have hz3 : s2 < W3.heap.size := by rw [← hW3]; simpa using z2
  have Z3 : Hid (∀ i, W3.frozen? ⟨s2, i, none⟩ = false) := Lib.hid (fun i => by rw [← hW3]; exact (frozen_set _ _ _ _).trans (Z2.out i))
  clear Z2
  clear hW3 HP2 HR2 HO2 HB2 R2 p0 p1 o0 o1 f0 f1 z2
  refine (toConstraintS_any _ m.cons W3 (h2.below B3) hl2).mono ?_
  rintro e w4 ⟨rfl, r4, b4, z4⟩
  have HR4 := Lib.hid (bR3.below b4)
  have HO4 := Lib.hid (Blk2.below (show Blk2 W3 _ _ _ _ from bO3) b4)
  have HB4 := Lib.hid (B3.trans (b4.mono B3.size))
  have RV := Lib.hid (rr3.below b4)
  have RA := Lib.hid r4
  obtain ⟨s3, hs3⟩ : ∃ s3, s3 = W3.heap.size := ⟨_, rfl⟩
  have Z4 : Hid (∀ i, w4.frozen? ⟨s2, i, none⟩ = false) := Lib.hid (fun i => (frozen_below b4 (by omega) i).trans (Z3.out i))
  have z24 : s2 < w4.heap.size := Nat.lt_of_lt_of_le hz3 b4.size
  rw [← hs3] at RA z4 hz3 ⊢
  clear bR3 bO3 b4 r4 hs3 rr3 B3 h1 h2 hl2
  obtain ⟨o0, o1⟩ := HO4.out.cell
  obtain ⟨f0, f1⟩ := HO4.out.frozen
  obtain ⟨q0, q1⟩ := HR4.out.cell
  obtain ⟨e0, e1⟩ := HR4.out.frozen
  go_wp2
  have n2 : ∀ j : Nat, (⟨w.heap.size + 1, j, none⟩ : Addr).block ≠ s2 := fun j => by show w.heap.size + 1 ≠ s2; omega
  have l3 : ∀ j : Nat, (⟨w.heap.size + 1, j, none⟩ : Addr).block < s3 := fun j => by show w.heap.size + 1 < s3; omega
  have hB : ∀ j : Nat, w.heap.size ≤ (⟨w.heap.size + 1, j, none⟩ : Addr).block := fun j => by show w.heap.size ≤ w.heap.size + 1; omega
  refine bodyPost_ret (v := .agg #[.slice (some ⟨s2, 0, none⟩) m.doms.length m.doms.length, .slice (some ⟨s3, 0, none⟩) m.cons.length m.cons.length]) (by simp [results, Try.results22, go_sem, q0, q1]) rfl ⟨_, rfl, ⟨_, _, rfl, by omega, by simpa using z24, fun k => (by simp only [frozen_set]; exact Z4.out k), ?_, ?_⟩, ?_⟩
  · exact ((RV.out.setCell (p := ⟨w.heap.size + 1 + 1, 1, none⟩) (by show w.heap.size + 1 + 1 ≠ s2; omega) _).setCell (n2 0) _).setCell (n2 1) _
  · exact consIn_mono (((RA.out.setCell (p := ⟨w.heap.size + 1 + 1, 1, none⟩) (by show w.heap.size + 1 + 1 < s3; omega) _).setCell (l3 0) _).setCell (l3 1) _) (by omega)
  · exact ((HB4.out.setCell (p := ⟨w.heap.size + 1 + 1, 1, none⟩) (by show w.heap.size ≤ w.heap.size + 1 + 1; omega) _).setCell (hB 0) _).setCell (hB 1) _

theorem toModel_any (v : Value) (m : Mod) (w : World) (h : RdModel w v m) (hm : ModLe m 1048576) :
    Calls Try.prog 22 #[v] w (CopyModPost m w) :=
  (toModel_in v m w h hm).mono fun _ _ ⟨v', e1, e2, e3⟩ => ⟨v', e1, e2.rd, e3⟩

set_option maxRecDepth 100000 in
set_option maxHeartbeats 4000000 in
theorem eqConstraintS_same (v1 v2 : Value) (cs : List Con) (w : World) (h1 : RdCons w v1 cs) (h2 : RdCons w v2 cs) :
    Calls Try.prog 68 #[v1, v2] w (SamePostB w) := by
  have H1 := Lib.hid h1
  have H2 := Lib.hid h2
  obtain ⟨a1, c1, ev1, hl1, hm1, _⟩ := h1
  obtain ⟨a2, c2, ev2, hl2, hm2, _⟩ := h2
  rw [ev1] at H1 ⊢
  rw [ev2] at H2 ⊢
  unfold maxLen at hm1 hm2
  obtain ⟨n, hn⟩ : ∃ n, n = cs.length := ⟨_, rfl⟩
  rw [← hn] at hl1 hl2 H1 H2 ⊢
  clear hn ev1 ev2
  have hne : ((n : Int) != (n : Int)) = false := by simp
  go_enter Try.func68, Try.ntmps68
  go_wp2
  go_loopw [5] (fun i wr => ∃ k : Nat, k ≤ n ∧ i = .int .i64 k ∧ Below w.heap.size w wr) (fun i _ => n - (intOf i).toNat)
  case atStart => exact ⟨0, Nat.zero_le _, rfl, Below.refl _ _⟩
  case round =>
    obtain ⟨k, hk, rfl, hbel⟩ := hrel
    by_cases hlt : k < n
    · obtain ⟨b1, o1, c, x2, x3, x5, y2, y3, y5, rfl, hck, k0, k1, k2, k3, k4, hr1⟩ := rdCons_at (H1.out.below hbel) hlt
      obtain ⟨b2, o2, c', z2, z3, z5, t2, t3, t5, rfl, hck', j0, j1, j2, j3, j4, hr2⟩ := rdCons_at (H2.out.below hbel) hlt
      rw [hck] at hck'
      obtain rfl := Option.some.inj hck'
      have R1 : Hid (RdCon wr.drew _ c) := Lib.hid hr1.drew
      have R2 : Hid (RdCon wr.drew _ c) := Lib.hid hr2.drew
      have HB : Hid (Below w.heap.size w wr.drew) := Lib.hid hbel.drew
      clear hr1 hr2 hck hck' hbel
      go_wp2_with fail
      go_region_with (go_at_call 19; refine (eqConstraint_same _ _ c _ R1.out R2.out).mono ?_; rintro e w9 ⟨rfl, b9⟩; have B9 := Lib.hid (HB.out.trans (b9.mono HB.out.size)); clear b9)
      all_goals go_wp2
      all_goals go_roundw
      all_goals first
        | exact ⟨k + 1, by omega, by go_num, B9.out⟩
        | (simp [intOf]; omega)
    · obtain rfl : k = n := by omega
      go_wp2
      go_ret
      exact ⟨rfl, hbel⟩

set_option maxRecDepth 100000 in
set_option maxHeartbeats 2000000 in
theorem eqModel_same (v1 v2 : Value) (m : Mod) (w : World) (h1 : RdModel w v1 m) (h2 : RdModel w v2 m) :
    Calls Try.prog 24 #[v1, v2] w (SamePostB w) := by
  obtain ⟨a1, a2, c1, c2, rfl, g1, g2⟩ := rdModel_slices h1
  obtain ⟨b1, b2, d1, d2, rfl, j1, j2⟩ := rdModel_slices h2
  have hB : Below w.heap.size w ((w.alloc (.cells #[.slice a1 m.doms.length c1, .slice a2 m.cons.length c2] 39)).alloc (.cells #[.slice b1 m.doms.length d1, .slice b2 m.cons.length d2] 39)) := ((Below.refl _ _).alloc (Nat.le_refl _) _).alloc (by simp) _
  have I1 := Lib.hid (g1.below hB)
  have I2 := Lib.hid (g2.below hB)
  have J1 := Lib.hid (j1.below hB)
  have J2 := Lib.hid (j2.below hB)
  have HB := Lib.hid hB
  clear h1 h2 g1 g2 j1 j2 hB
  go_enter Try.func24, Try.ntmps24
  go_wp2_with fail
  refine (eqIntS_same _ _ m.doms _ I1.out J1.out).mono ?_
  rintro e w' ⟨rfl, m1, rfl⟩
  go_wp2_with fail
  have HB1 := Lib.hid (below_drewN' HB.out m1)
  refine (eqConstraintS_same _ _ m.cons _ (I2.out.drewN' _) (J2.out.drewN' _)).mono ?_
  rintro e w' ⟨rfl, b9⟩
  have B9 := Lib.hid (HB1.out.trans (b9.mono HB1.out.size))
  clear b9
  go_wp2
  go_ret
  exact ⟨rfl, B9.out⟩
end Go.Proofs.Ytkmdkbnphmadpaa
