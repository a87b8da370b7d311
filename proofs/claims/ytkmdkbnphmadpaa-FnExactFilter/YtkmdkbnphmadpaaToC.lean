/- The laws' own copy of a constraint: szConstraint, toConstraint. -/
import Derived.Test.YtkmdkbnphmadpaaTo
namespace Go.Proofs.Ytkmdkbnphmadpaa
open Go.ChangeShapes Go.WideShapes Go.ChangeAt Go.RowKit
set_option linter.unusedVariables false
set_option linter.unusedSimpArgs false

/-- A block of five cells. -/
def Blk5 (w : World) (b : Nat) (t : TypeId) (u0 u1 u2 u3 u4 : Value) : Prop := w.heap[b]? = some (.cells #[u0, u1, u2, u3, u4] t (0, 0))
section
variable {w w' : World} {b : Nat} {t : TypeId} {u0 u1 u2 u3 u4 : Value}
theorem Blk5.cell (h : Blk5 w b t u0 u1 u2 u3 u4) : w.cell? ⟨b, 0, none⟩ = some u0 ∧ w.cell? ⟨b, 1, none⟩ = some u1 ∧ w.cell? ⟨b, 2, none⟩ = some u2 ∧ w.cell? ⟨b, 3, none⟩ = some u3 ∧ w.cell? ⟨b, 4, none⟩ = some u4 := by
  simp [World.cell?, show w.heap[b]? = _ from h]
theorem Blk5.frozen (h : Blk5 w b t u0 u1 u2 u3 u4) : w.frozen? ⟨b, 0, none⟩ = false ∧ w.frozen? ⟨b, 1, none⟩ = false ∧ w.frozen? ⟨b, 2, none⟩ = false ∧ w.frozen? ⟨b, 3, none⟩ = false ∧ w.frozen? ⟨b, 4, none⟩ = false := by
  simp [World.frozen?, show w.heap[b]? = _ from h]
theorem Blk5.lt (h : Blk5 w b t u0 u1 u2 u3 u4) : b < w.heap.size := (Array.getElem?_eq_some_iff.1 h).1
theorem Blk5.below (h : Blk5 w b t u0 u1 u2 u3 u4) (hb : Below w.heap.size w w') : Blk5 w' b t u0 u1 u2 u3 u4 := (hb.block b h.lt).trans h
theorem Blk5.other (h : Blk5 w b t u0 u1 u2 u3 u4) {p : Addr} (hp : p.block ≠ b) (u : Value) : Blk5 (w.setCell p u) b t u0 u1 u2 u3 u4 := (Below.heap_setCell w p u b (Ne.symm hp)).trans h
theorem Blk5.set (h : Blk5 w b t u0 u1 u2 u3 u4) (j : Nat) (u : Value) : (w.setCell ⟨b, j, none⟩ u).heap[b]? = some (.cells (#[u0, u1, u2, u3, u4].setIfInBounds j u) t (0, 0)) := by
  obtain ⟨hlt, hk⟩ := Array.getElem?_eq_some_iff.1 h
  show (w.heap.modify b _)[b]? = _
  rw [Array.getElem?_eq_getElem (by rw [Array.size_modify]; exact hlt), Array.getElem_modify_self, hk]
  rfl
theorem Blk5.new (w : World) (t : TypeId) (u0 u1 u2 u3 u4 : Value) : Blk5 (w.alloc (.cells #[u0, u1, u2, u3, u4] t)) w.heap.size t u0 u1 u2 u3 u4 := World.alloc_heap_new w _
theorem Blk5.alloc (h : Blk5 w b t u0 u1 u2 u3 u4) (o : Obj) : Blk5 (w.alloc o) b t u0 u1 u2 u3 u4 := (Below.heap_alloc w o b h.lt).trans h
end

/-- What the size test gives. -/
def ConLe (c : Con) (L : Nat) : Prop := c.vars.length ≤ L ∧ c.args.length ≤ L ∧ RowsLe c.rows L
def SzPostB (left : Int) (Q : Prop) (w : World) (e : Ending) (w' : World) : Prop := ∃ r : Int, e = .returned (.int .i64 r) ∧ -1 ≤ r ∧ r ≤ left ∧ (0 ≤ r → Q) ∧ Below w.heap.size w w'

theorem RowsLe.mono {rows : List (List Int)} {a b : Nat} (h : RowsLe rows a) (hab : a ≤ b) : RowsLe rows b := ⟨Nat.le_trans h.1 hab, fun j hj => Nat.le_trans (h.2 j hj) hab⟩

theorem rdCon_slices {w : World} {v : Value} {c : Con} (h : RdCon w v c) : ∃ a2 a3 a5 c2 c3 c5, v = .agg #[.int .i64 c.kind, .slice a2 c.vars.length c2, .slice a3 c.args.length c3, .int .i64 c.bound, .slice a5 c.rows.length c5] ∧
    RdInts w (.slice a2 c.vars.length c2) c.vars ∧ RdInts w (.slice a3 c.args.length c3) c.args ∧ RdRows w (.slice a5 c.rows.length c5) c.rows := by
  obtain ⟨u2, u3, u5, rfl, h2, h3, h5⟩ := h
  have g2 := h2; have g3 := h3; have g5 := h5
  obtain ⟨a2, c2, rfl, _⟩ := g2
  obtain ⟨a3, c3, rfl, _⟩ := g3
  obtain ⟨a5, c5, rfl, _⟩ := g5
  exact ⟨a2, a3, a5, c2, c3, c5, rfl, h2, h3, h5⟩

set_option maxRecDepth 100000 in
set_option maxHeartbeats 2000000 in
theorem szConstraint_any (v : Value) (c : Con) (left : Int) (w : World) (h : RdCon w v c) (h0 : 0 ≤ left) (h1 : left ≤ 1048576) :
    Calls Try.prog 15 #[v, .int .i64 left] w (SzPostB left (ConLe c left.toNat) w) := by
  obtain ⟨a2, a3, a5, c2, c3, c5, rfl, h2, h3, h5⟩ := rdCon_slices h
  have hB : Below w.heap.size w (w.alloc (.cells #[.int .i64 c.kind, .slice a2 c.vars.length c2, .slice a3 c.args.length c3, .int .i64 c.bound, .slice a5 c.rows.length c5] 25)) := (Below.refl _ _).alloc (Nat.le_refl _) _
  have H2 := Lib.hid (h2.below hB)
  have H3 := Lib.hid (h3.below hB)
  have H5 := Lib.hid (h5.below hB)
  have HB := Lib.hid hB
  clear h h2 h3 h5 hB
  go_enter Try.func15, Try.ntmps15
  go_wp2_with fail
  refine (szIntS_any _ c.vars left _ H2.out h0 h1).mono ?_
  rintro e w' ⟨r1, rfl, q1, q2, q3, rfl⟩
  have Q3 := Lib.hid q3
  clear q3
  by_cases hr1 : r1 < 0
  · go_wp2
    go_ret
    exact ⟨-1, rfl, by omega, by omega, fun h => by omega, HB.out⟩
  go_wp2_with fail
  refine (szIntS_any _ c.args r1 _ H3.out (by omega) (by omega)).mono ?_
  rintro e w' ⟨r2, rfl, p1, p2, p3, rfl⟩
  have P3 := Lib.hid p3
  clear p3
  by_cases hr2 : r2 < 0
  · go_wp2
    go_ret
    exact ⟨-1, rfl, by omega, by omega, fun h => by omega, HB.out⟩
  go_wp2_with fail
  refine (szIntSS_any _ c.rows r2 _ H5.out (by omega) (by omega)).mono ?_
  rintro e w' ⟨r3, rfl, s1, s2, s3, rfl⟩
  have S3 := Lib.hid s3
  clear s3
  by_cases hr3 : r3 < 0
  · go_wp2
    go_ret
    exact ⟨-1, rfl, by omega, by omega, fun h => by omega, HB.out⟩
  go_wp2
  go_ret
  refine ⟨r3, rfl, by omega, by omega, fun _ => ⟨?_, ?_, ?_⟩, HB.out⟩
  · have := Q3.out (by omega); omega
  · have := P3.out (by omega); omega
  · exact (S3.out (by omega)).mono (by omega)

/-- A constraint whose memory lies in blocks from B on. -/
def ConAbove (B : Nat) (w : World) (v : Value) : Prop :=
  ∃ (kind bound : Int) (s2 n2 c2 s3 n3 c3 s5 n5 c5 : Nat), v = .agg #[.int .i64 kind, .slice (some ⟨s2, 0, none⟩) n2 c2, .slice (some ⟨s3, 0, none⟩) n3 c3, .int .i64 bound, .slice (some ⟨s5, 0, none⟩) n5 c5] ∧ B ≤ s2 ∧ B ≤ s3 ∧ RowsAbove B w (.slice (some ⟨s5, 0, none⟩) n5 c5)
theorem RowsAbove.mono {B B' : Nat} {w : World} {v : Value} (h : RowsAbove B w v) (hb : B' ≤ B) : RowsAbove B' w v := fun b off n c e =>
  ⟨Nat.le_trans hb (h b off n c e).1, fun i u hi hu b' o' n' c' eu => Nat.le_trans hb ((h b off n c e).2 i u hi hu b' o' n' c' eu)⟩
/-- A constraint whose memory may be written. -/
def ConUn (w : World) (v : Value) : Prop :=
  ∃ (kind bound : Int) (s2 n2 c2 s3 n3 c3 s5 n5 c5 : Nat), v = .agg #[.int .i64 kind, .slice (some ⟨s2, 0, none⟩) n2 c2, .slice (some ⟨s3, 0, none⟩) n3 c3, .int .i64 bound, .slice (some ⟨s5, 0, none⟩) n5 c5] ∧
    s2 < w.heap.size ∧ (∀ k, w.frozen? ⟨s2, k, none⟩ = false) ∧ s3 < w.heap.size ∧ (∀ k, w.frozen? ⟨s3, k, none⟩ = false) ∧ RowsUn w (.slice (some ⟨s5, 0, none⟩) n5 c5)
/-- What toConstraint leaves. -/
def CopyConFull (c : Con) (w : World) (e : Ending) (w' : World) : Prop := ∃ v, e = .returned v ∧ RdCon w' v c ∧ Below w.heap.size w w' ∧ ConAbove w.heap.size w' v ∧ ConUn w' v
def CopyConPost (c : Con) (w : World) (e : Ending) (w' : World) : Prop := ∃ v, e = .returned v ∧ RdCon w' v c ∧ Below w.heap.size w w'

set_option maxRecDepth 100000 in
set_option maxHeartbeats 4000000 in
theorem toConstraint_full (v : Value) (c : Con) (w : World) (h : RdCon w v c) (hc : ConLe c 1048576) :
    Calls Try.prog 17 #[v] w (CopyConFull c w) := by
  obtain ⟨a2, a3, a5, c2, c3, c5, rfl, h2, h3, h5⟩ := rdCon_slices h
  obtain ⟨hl1, hl2, hl3⟩ := hc
  clear h
  obtain ⟨W1, hW1⟩ : ∃ W1, ((w.alloc (.cells #[.int .i64 c.kind, .slice a2 c.vars.length c2, .slice a3 c.args.length c3, .int .i64 c.bound, .slice a5 c.rows.length c5] 25)).alloc (.cells #[.int .i64 0, .slice none 0 0, .slice none 0 0, .int .i64 0, .slice none 0 0] 28)).alloc (.cells #[.int .i64 c.kind, .slice none 0 0, .slice none 0 0, .int .i64 0, .slice none 0 0] 28) = W1 := ⟨_, rfl⟩
  have bP : Blk5 W1 w.heap.size 25 (.int .i64 c.kind) (.slice a2 c.vars.length c2) (.slice a3 c.args.length c3) (.int .i64 c.bound) (.slice a5 c.rows.length c5) := by rw [← hW1]; exact ((Blk5.new w _ _ _ _ _ _).alloc _).alloc _
  have bR : Blk5 W1 (w.heap.size + 1) 28 (.int .i64 0) (.slice none 0 0) (.slice none 0 0) (.int .i64 0) (.slice none 0 0) := by
    rw [← hW1]; refine Blk5.alloc ?_ _
    have := Blk5.new (w.alloc (.cells #[.int .i64 c.kind, .slice a2 c.vars.length c2, .slice a3 c.args.length c3, .int .i64 c.bound, .slice a5 c.rows.length c5] 25)) 28 (.int .i64 0) (.slice none 0 0) (.slice none 0 0) (.int .i64 0) (.slice none 0 0)
    rwa [World.size_alloc] at this
  have bO : Blk5 W1 (w.heap.size + 1 + 1) 28 (.int .i64 c.kind) (.slice none 0 0) (.slice none 0 0) (.int .i64 0) (.slice none 0 0) := by
    rw [← hW1]
    have := Blk5.new ((w.alloc (.cells #[.int .i64 c.kind, .slice a2 c.vars.length c2, .slice a3 c.args.length c3, .int .i64 c.bound, .slice a5 c.rows.length c5] 25)).alloc (.cells #[.int .i64 0, .slice none 0 0, .slice none 0 0, .int .i64 0, .slice none 0 0] 28)) 28 (.int .i64 c.kind) (.slice none 0 0) (.slice none 0 0) (.int .i64 0) (.slice none 0 0)
    rwa [World.size_alloc, World.size_alloc] at this
  have bel1 : Below w.heap.size w W1 := by rw [← hW1]; exact (((Below.refl _ _).alloc (Nat.le_refl _) _).alloc (by simp) _).alloc (by simp; omega) _
  have HW := Lib.hid hW1
  have HBP := Lib.hid bP
  have HBR := Lib.hid bR
  have HBO := Lib.hid bO
  have HB1 := Lib.hid bel1
  have hz1 : w.heap.size + 1 + 1 < W1.heap.size := bO.lt
  clear hW1 bP bR bO bel1
  go_enter Try.func17, Try.ntmps17
  go_wp2_with fail
  rw [HW.out]
  refine (toIntS_any _ c.vars W1 (h2.below HB1.out) hl1).mono ?_
  rintro e w2 ⟨rfl, r2, b2, z2, fz2⟩
  have HP2 := Lib.hid (HBP.out.below b2)
  have HR2 := Lib.hid (HBR.out.below b2)
  have HO2 := Lib.hid (HBO.out.below b2)
  have HB2 := Lib.hid (HB1.out.trans (b2.mono HB1.out.size))
  have R2 := Lib.hid r2
  obtain ⟨s2, hs2⟩ : ∃ s2, s2 = W1.heap.size := ⟨_, rfl⟩
  rw [← hs2] at R2 hz1 z2 fz2 ⊢
  have Z2 := Lib.hid fz2
  clear fz2
  clear HBP HBR HBO b2 r2 hs2 HW HB1
  obtain ⟨p0, p1, p2, p3, p4⟩ := HP2.out.cell
  obtain ⟨o0, o1, o2, o3, o4⟩ := HO2.out.cell
  obtain ⟨f0, f1, f2, f3, f4⟩ := HO2.out.frozen
  go_wp2_with fail
  have B3 : Below w.heap.size w (w2.setCell ⟨w.heap.size + 1 + 1, 1, none⟩ (.slice (some ⟨s2, 0, none⟩) c.vars.length c.vars.length)) := HB2.out.setCell (p := ⟨w.heap.size + 1 + 1, 1, none⟩) (by show w.heap.size ≤ w.heap.size + 1 + 1; omega) _
  have bP3 := HP2.out.other (p := ⟨w.heap.size + 1 + 1, 1, none⟩) (by show w.heap.size + 1 + 1 ≠ w.heap.size; omega) (.slice (some ⟨s2, 0, none⟩) c.vars.length c.vars.length)
  have bR3 := HR2.out.other (p := ⟨w.heap.size + 1 + 1, 1, none⟩) (by show w.heap.size + 1 + 1 ≠ w.heap.size + 1; omega) (.slice (some ⟨s2, 0, none⟩) c.vars.length c.vars.length)
  have bO3 := HO2.out.set 1 (.slice (some ⟨s2, 0, none⟩) c.vars.length c.vars.length)
  have rr3 := R2.out.setCell (p := ⟨w.heap.size + 1 + 1, 1, none⟩) (by show w.heap.size + 1 + 1 ≠ s2; omega) (.slice (some ⟨s2, 0, none⟩) c.vars.length c.vars.length)
  obtain ⟨W3, hW3⟩ : ∃ W3, w2.setCell ⟨w.heap.size + 1 + 1, 1, none⟩ (.slice (some ⟨s2, 0, none⟩) c.vars.length c.vars.length) = W3 := ⟨_, rfl⟩
  rw [hW3] at B3 bP3 bR3 bO3 rr3 ⊢
  have hz3 : s2 < W3.heap.size := by rw [← hW3]; simpa using z2
  have Z3 : Hid (∀ i, W3.frozen? ⟨s2, i, none⟩ = false) := Lib.hid (fun i => by rw [← hW3]; exact (frozen_set _ _ _ _).trans (Z2.out i))
  clear Z2
  clear hW3 HP2 HR2 HO2 HB2 R2 p0 p1 p2 p3 p4 o0 o1 o2 o3 o4 f0 f1 f2 f3 f4 z2
  refine (toIntS_any _ c.args W3 (h3.below B3) hl2).mono ?_
  rintro e w4 ⟨rfl, r4, b4, z4, fz4⟩
  have HP4 := Lib.hid (bP3.below b4)
  have HR4 := Lib.hid (bR3.below b4)
  have HO4 := Lib.hid (Blk5.below (show Blk5 W3 _ _ _ _ _ _ _ from bO3) b4)
  have HB4 := Lib.hid (B3.trans (b4.mono B3.size))
  have RV := Lib.hid (rr3.below b4)
  have RA := Lib.hid r4
  obtain ⟨s3, hs3⟩ : ∃ s3, s3 = W3.heap.size := ⟨_, rfl⟩
  have ZV4 : Hid (∀ i, w4.frozen? ⟨s2, i, none⟩ = false) := Lib.hid (fun i => (frozen_below b4 (by omega) i).trans (Z3.out i))
  have z24 : s2 < w4.heap.size := Nat.lt_of_lt_of_le hz3 b4.size
  rw [← hs3] at RA z4 hz3 fz4 ⊢
  have ZA4 := Lib.hid fz4
  clear fz4 Z3
  clear bP3 bR3 bO3 b4 r4 hs3 rr3 B3
  obtain ⟨p0, p1, p2, p3, p4⟩ := HP4.out.cell
  obtain ⟨o0, o1, o2, o3, o4⟩ := HO4.out.cell
  obtain ⟨f0, f1, f2, f3, f4⟩ := HO4.out.frozen
  go_wp2_with fail
  have hO : w.heap.size ≤ w.heap.size + 1 + 1 := by omega
  have B5 : Below w.heap.size w ((w4.setCell ⟨w.heap.size + 1 + 1, 2, none⟩ (.slice (some ⟨s3, 0, none⟩) c.args.length c.args.length)).setCell ⟨w.heap.size + 1 + 1, 3, none⟩ (.int .i64 c.bound)) := (HB4.out.setCell (p := ⟨w.heap.size + 1 + 1, 2, none⟩) hO _).setCell (p := ⟨w.heap.size + 1 + 1, 3, none⟩) hO _
  have bR5 := (HR4.out.other (p := ⟨w.heap.size + 1 + 1, 2, none⟩) (by show w.heap.size + 1 + 1 ≠ w.heap.size + 1; omega) (.slice (some ⟨s3, 0, none⟩) c.args.length c.args.length)).other (p := ⟨w.heap.size + 1 + 1, 3, none⟩) (by show w.heap.size + 1 + 1 ≠ w.heap.size + 1; omega) (.int .i64 c.bound)
  have bO5 := Blk5.set (show Blk5 _ _ _ _ _ _ _ _ from HO4.out.set 2 (.slice (some ⟨s3, 0, none⟩) c.args.length c.args.length)) 3 (.int .i64 c.bound)
  have rv5 := (RV.out.setCell (p := ⟨w.heap.size + 1 + 1, 2, none⟩) (by show w.heap.size + 1 + 1 ≠ s2; omega) (.slice (some ⟨s3, 0, none⟩) c.args.length c.args.length)).setCell (p := ⟨w.heap.size + 1 + 1, 3, none⟩) (by show w.heap.size + 1 + 1 ≠ s2; omega) (.int .i64 c.bound)
  have ra5 := (RA.out.setCell (p := ⟨w.heap.size + 1 + 1, 2, none⟩) (by show w.heap.size + 1 + 1 ≠ s3; omega) (.slice (some ⟨s3, 0, none⟩) c.args.length c.args.length)).setCell (p := ⟨w.heap.size + 1 + 1, 3, none⟩) (by show w.heap.size + 1 + 1 ≠ s3; omega) (.int .i64 c.bound)
  obtain ⟨W5, hW5⟩ : ∃ W5, (w4.setCell ⟨w.heap.size + 1 + 1, 2, none⟩ (.slice (some ⟨s3, 0, none⟩) c.args.length c.args.length)).setCell ⟨w.heap.size + 1 + 1, 3, none⟩ (.int .i64 c.bound) = W5 := ⟨_, rfl⟩
  rw [hW5] at B5 bR5 bO5 rv5 ra5 ⊢
  have hz5 : s3 < W5.heap.size := by rw [← hW5]; simpa using z4
  have ZV5 : Hid (∀ i, W5.frozen? ⟨s2, i, none⟩ = false) := Lib.hid (fun i => by rw [← hW5]; exact (frozen_set _ _ _ _).trans ((frozen_set _ _ _ _).trans (ZV4.out i)))
  have ZA5 : Hid (∀ i, W5.frozen? ⟨s3, i, none⟩ = false) := Lib.hid (fun i => by rw [← hW5]; exact (frozen_set _ _ _ _).trans ((frozen_set _ _ _ _).trans (ZA4.out i)))
  have z25 : s2 < W5.heap.size := by rw [← hW5]; simpa using z24
  clear ZV4 ZA4 z24
  clear hW5 HP4 HR4 HO4 HB4 RV RA p0 p1 p2 p3 p4 o0 o1 o2 o3 o4 f0 f1 f2 f3 f4 z4
  refine (toIntSS_any _ c.rows W5 (h5.below B5) hl3).mono ?_
  rintro e w6 ⟨rfl, r6, b6, z6, ab6, un6⟩
  have ZV6 : Hid (∀ i, w6.frozen? ⟨s2, i, none⟩ = false) := Lib.hid (fun i => (frozen_below b6 z25 i).trans (ZV5.out i))
  have ZA6 : Hid (∀ i, w6.frozen? ⟨s3, i, none⟩ = false) := Lib.hid (fun i => (frozen_below b6 hz5 i).trans (ZA5.out i))
  have z26 : s2 < w6.heap.size := Nat.lt_of_lt_of_le z25 b6.size
  have z36 : s3 < w6.heap.size := Nat.lt_of_lt_of_le hz5 b6.size
  have HR6 := Lib.hid (bR5.below b6)
  have HO6 := Lib.hid (Blk5.below (show Blk5 W5 _ _ _ _ _ _ _ from bO5) b6)
  have HB6 := Lib.hid (B5.trans (b6.mono B5.size))
  have RV := Lib.hid (rv5.below b6)
  have RA := Lib.hid (ra5.below b6)
  have RR := Lib.hid r6
  have AB := Lib.hid ab6
  have UN := Lib.hid un6
  obtain ⟨s5, hs5⟩ : ∃ s5, s5 = W5.heap.size := ⟨_, rfl⟩
  rw [← hs5] at RR AB UN hz5 z6 ⊢
  clear un6 ZV5 ZA5 ab6 bR5 bO5 b6 r6 hs5 rv5 ra5 B5 h2 h3 h5 hl3 hO
  obtain ⟨o0, o1, o2, o3, o4⟩ := HO6.out.cell
  obtain ⟨f0, f1, f2, f3, f4⟩ := HO6.out.frozen
  obtain ⟨q0, q1, q2, q3, q4⟩ := HR6.out.cell
  obtain ⟨e0, e1, e2, e3, e4⟩ := HR6.out.frozen
  go_wp2
  have n2 : ∀ j : Nat, (⟨w.heap.size + 1, j, none⟩ : Addr).block ≠ s2 := fun j => by show w.heap.size + 1 ≠ s2; omega
  have n3 : ∀ j : Nat, (⟨w.heap.size + 1, j, none⟩ : Addr).block ≠ s3 := fun j => by show w.heap.size + 1 ≠ s3; omega
  have l5 : ∀ j : Nat, (⟨w.heap.size + 1, j, none⟩ : Addr).block < s5 := fun j => by show w.heap.size + 1 < s5; omega
  have hB : ∀ j : Nat, w.heap.size ≤ (⟨w.heap.size + 1, j, none⟩ : Addr).block := fun j => by show w.heap.size ≤ w.heap.size + 1; omega
  refine bodyPost_ret (v := .agg #[.int .i64 c.kind, .slice (some ⟨s2, 0, none⟩) c.vars.length c.vars.length, .slice (some ⟨s3, 0, none⟩) c.args.length c.args.length, .int .i64 c.bound, .slice (some ⟨s5, 0, none⟩) c.rows.length c.rows.length]) (by simp [results, Try.results17, go_sem, q0, q1, q2, q3, q4]) rfl ⟨_, rfl, ⟨_, _, _, rfl, ?_, ?_, ?_⟩, ?_, ⟨_, _, _, _, _, _, _, _, _, _, _, rfl, by omega, by omega, ?_⟩, ⟨_, _, _, _, _, _, _, _, _, _, _, rfl, ?_, ?_, ?_, ?_, ?_⟩⟩
  · exact (((((RV.out.setCell (p := ⟨w.heap.size + 1 + 1, 4, none⟩) (by show w.heap.size + 1 + 1 ≠ s2; omega) _).setCell (n2 0) _).setCell (n2 1) _).setCell (n2 2) _).setCell (n2 3) _).setCell (n2 4) _
  · exact (((((RA.out.setCell (p := ⟨w.heap.size + 1 + 1, 4, none⟩) (by show w.heap.size + 1 + 1 ≠ s3; omega) _).setCell (n3 0) _).setCell (n3 1) _).setCell (n3 2) _).setCell (n3 3) _).setCell (n3 4) _
  · have t0 := RR.out.setCell AB.out (p := ⟨w.heap.size + 1 + 1, 4, none⟩) (by show w.heap.size + 1 + 1 < s5; omega) (.slice (some ⟨s5, 0, none⟩) c.rows.length c.rows.length)
    have t1 := t0.1.setCell t0.2 (l5 0) (.int .i64 c.kind)
    have t2 := t1.1.setCell t1.2 (l5 1) (.slice (some ⟨s2, 0, none⟩) c.vars.length c.vars.length)
    have t3 := t2.1.setCell t2.2 (l5 2) (.slice (some ⟨s3, 0, none⟩) c.args.length c.args.length)
    have t4 := t3.1.setCell t3.2 (l5 3) (.int .i64 c.bound)
    exact (t4.1.setCell t4.2 (l5 4) (.slice (some ⟨s5, 0, none⟩) c.rows.length c.rows.length)).1
  · exact (((((HB6.out.setCell (p := ⟨w.heap.size + 1 + 1, 4, none⟩) (by show w.heap.size ≤ w.heap.size + 1 + 1; omega) _).setCell (hB 0) _).setCell (hB 1) _).setCell (hB 2) _).setCell (hB 3) _).setCell (hB 4) _
  · have t0 := RR.out.setCell AB.out (p := ⟨w.heap.size + 1 + 1, 4, none⟩) (by show w.heap.size + 1 + 1 < s5; omega) (.slice (some ⟨s5, 0, none⟩) c.rows.length c.rows.length)
    have t1 := t0.1.setCell t0.2 (l5 0) (.int .i64 c.kind)
    have t2 := t1.1.setCell t1.2 (l5 1) (.slice (some ⟨s2, 0, none⟩) c.vars.length c.vars.length)
    have t3 := t2.1.setCell t2.2 (l5 2) (.slice (some ⟨s3, 0, none⟩) c.args.length c.args.length)
    have t4 := t3.1.setCell t3.2 (l5 3) (.int .i64 c.bound)
    exact (t4.1.setCell t4.2 (l5 4) (.slice (some ⟨s5, 0, none⟩) c.rows.length c.rows.length)).2.mono (by omega)
  · simpa using z26
  · exact fun k => by simp only [frozen_set]; exact ZV6.out k
  · simpa using z36
  · exact fun k => by simp only [frozen_set]; exact ZA6.out k
  · have t0 := RR.out.setCell AB.out (p := ⟨w.heap.size + 1 + 1, 4, none⟩) (by show w.heap.size + 1 + 1 < s5; omega) (.slice (some ⟨s5, 0, none⟩) c.rows.length c.rows.length)
    have u0 := UN.out.setCell AB.out (p := ⟨w.heap.size + 1 + 1, 4, none⟩) (by show w.heap.size + 1 + 1 < s5; omega) (.slice (some ⟨s5, 0, none⟩) c.rows.length c.rows.length)
    have t1 := t0.1.setCell t0.2 (l5 0) (.int .i64 c.kind)
    have u1 := u0.setCell t0.2 (l5 0) (.int .i64 c.kind)
    have t2 := t1.1.setCell t1.2 (l5 1) (.slice (some ⟨s2, 0, none⟩) c.vars.length c.vars.length)
    have u2 := u1.setCell t1.2 (l5 1) (.slice (some ⟨s2, 0, none⟩) c.vars.length c.vars.length)
    have t3 := t2.1.setCell t2.2 (l5 2) (.slice (some ⟨s3, 0, none⟩) c.args.length c.args.length)
    have u3 := u2.setCell t2.2 (l5 2) (.slice (some ⟨s3, 0, none⟩) c.args.length c.args.length)
    have t4 := t3.1.setCell t3.2 (l5 3) (.int .i64 c.bound)
    have u4 := u3.setCell t3.2 (l5 3) (.int .i64 c.bound)
    exact u4.setCell t4.2 (l5 4) (.slice (some ⟨s5, 0, none⟩) c.rows.length c.rows.length)

theorem toConstraint_any (v : Value) (c : Con) (w : World) (h : RdCon w v c) (hc : ConLe c 1048576) :
    Calls Try.prog 17 #[v] w (CopyConPost c w) :=
  (toConstraint_full v c w h hc).mono fun _ _ ⟨v', e1, e2, e3, _⟩ => ⟨v', e1, e2, e3⟩
end Go.Proofs.Ytkmdkbnphmadpaa
