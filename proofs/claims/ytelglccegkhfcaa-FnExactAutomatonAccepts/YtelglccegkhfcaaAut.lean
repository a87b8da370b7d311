/- Automata: how they read; the laws' own copies, and their tests of equality. -/
import Derived.Test.YtelglccegkhfcaaMod
import Derived.Test.YtelglccegkhfcaaMkC
namespace Go.Proofs.Ytelglccegkhfcaa
open Go.ChangeShapes Go.WideShapes Go.ChangeAt Go.RowKit Go.Deep
set_option linter.unusedVariables false
set_option linter.unusedSimpArgs false

/-- An automaton as plain data. -/
structure Aut where
  next : List (List Int)
  fin : List Int

/-- The value v is the automaton a. -/
def RdAut (w : World) (v : Value) (a : Aut) : Prop := ∃ u1 u2, v = .agg #[u1, u2] ∧ RdRows w u1 a.next ∧ RdInts w u2 a.fin
theorem RdAut.below {w w' : World} {v : Value} {a : Aut} (h : RdAut w v a) (hb : Below w.heap.size w w') : RdAut w' v a := by
  obtain ⟨u1, u2, e, h1, h2⟩ := h
  exact ⟨u1, u2, e, h1.below hb, h2.below hb⟩
theorem RdRows.drewA {w : World} {v : Value} {rows : List (List Int)} (h : RdRows w v rows) : RdRows w.drew v rows := h
theorem RdAut.drew {w : World} {v : Value} {a : Aut} (h : RdAut w v a) : RdAut w.drew v a := h

section
variable {H : Type} {enc : TypeId × Value → H} {w : World} {base : Nat} {held : Bool}
set_option maxRecDepth 100000 in
theorem rdAut_of_trod {r : Reach} {b0 : Nat} {v : Value} {d : DataW H} {p : List MemPlace} (hv : Value.okWide Try.prog w r b0 64 v) (h : DataW.Trod enc Try.prog w base (fun _ => true) held 64 v d p) : ∃ a, RdAut w v a := by
  obtain ⟨cs, rfl, _⟩ := okWide_struct Try.underlying64 hv
  obtain ⟨n, hf⟩ := h
  obtain ⟨hl, m, hf⟩ := cells_of_struct Try.underlying64 (by kernel_rfl) (by kernel_rfl) hf
  obtain ⟨v0, z0, e0, r0⟩ := hf 0 _ rfl
  obtain ⟨v1, z1, e1, r1⟩ := hf 1 _ rfl
  obtain ⟨rs, s0⟩ := rdRows_of_trod r0
  obtain ⟨fs, s1⟩ := rdInts_of_trod r1
  obtain ⟨l⟩ := cs
  refine ⟨⟨rs, fs⟩, v0, v1, ?_, s0, s1⟩
  match l, hl, e0, e1 with
  | [c0, c1], _, e0, e1 => simp_all [Value.cells]
end

theorem rdAut_slices {w : World} {v : Value} {a : Aut} (h : RdAut w v a) : ∃ a1 a2 c1 c2, v = .agg #[.slice a1 a.next.length c1, .slice a2 a.fin.length c2] ∧ RdRows w (.slice a1 a.next.length c1) a.next ∧ RdInts w (.slice a2 a.fin.length c2) a.fin := by
  obtain ⟨u1, u2, rfl, h1, h2⟩ := h
  have g1 := h1; have g2 := h2
  obtain ⟨a1, c1, rfl, _⟩ := g1
  obtain ⟨a2, c2, rfl, _⟩ := g2
  exact ⟨a1, a2, c1, c2, rfl, h1, h2⟩
def AutLe (a : Aut) (L : Nat) : Prop := RowsLe a.next L ∧ a.fin.length ≤ L

set_option maxRecDepth 100000 in
set_option maxHeartbeats 2000000 in
theorem szAutomaton_any (v : Value) (a : Aut) (left : Int) (w : World) (h : RdAut w v a) (h0 : 0 ≤ left) (h1 : left ≤ 1048576) :
    Calls Try.prog 47 #[v, .int .i64 left] w (SzPostB left (AutLe a left.toNat) w) := by
  obtain ⟨a1, a2, c1, c2, rfl, g1, g2⟩ := rdAut_slices h
  have hB : Below w.heap.size w (w.alloc (.cells #[.slice a1 a.next.length c1, .slice a2 a.fin.length c2] 64)) := (Below.refl _ _).alloc (Nat.le_refl _) _
  have H1 := Lib.hid (g1.below hB)
  have H2 := Lib.hid (g2.below hB)
  have HB := Lib.hid hB
  clear h g1 g2 hB
  go_enter Try.func47, Try.ntmps47
  go_wp2_with fail
  refine (szIntSS_any _ a.next left _ H1.out h0 h1).mono ?_
  rintro e w' ⟨r1, rfl, q1, q2, q3, rfl⟩
  have Q3 := Lib.hid q3
  clear q3
  by_cases hr1 : r1 < 0
  · go_wp2
    go_ret
    exact ⟨-1, rfl, by omega, by omega, fun h => by omega, HB.out⟩
  go_wp2_with fail
  refine (szIntS_any _ a.fin r1 _ H2.out (by omega) (by omega)).mono ?_
  rintro e w' ⟨r2, rfl, p1, p2, p3, rfl⟩
  have P3 := Lib.hid p3
  clear p3
  by_cases hr2 : r2 < 0
  · go_wp2
    go_ret
    exact ⟨-1, rfl, by omega, by omega, fun h => by omega, HB.out⟩
  go_wp2
  go_ret
  refine ⟨r2, rfl, by omega, by omega, fun _ => ⟨(Q3.out (by omega)).mono (by omega), ?_⟩, HB.out⟩
  have := P3.out (by omega); omega

/-- Rows in blocks from B on, which may be written. -/
structure RowsIn (B : Nat) (w : World) (v : Value) (rows : List (List Int)) : Prop where
  rd : RdRows w v rows
  ab : RowsAbove B w v
  un : RowsUn w v
theorem RowsAbove.belowA {B : Nat} {w w' : World} {v : Value} {rows : List (List Int)} (h : RowsAbove B w v) (hr : RdRows w v rows) (hb : Below w.heap.size w w') : RowsAbove B w' v := by
  intro b off n c e
  obtain ⟨g1, g2⟩ := h b off n c e
  refine ⟨g1, fun i u hi hu => g2 i u hi ?_⟩
  obtain ⟨a, cap, ev, _, _, h3⟩ := hr
  rw [e] at ev
  simp at ev
  obtain ⟨rfl, rfl, rfl⟩ := ev
  rcases h3 with h3 | ⟨b', off', e', h3⟩
  · omega
  · simp at e'
    obtain ⟨rfl, rfl⟩ := e'
    obtain ⟨x, hx, _⟩ := h3 i hi
    rw [(hb.cell (World.block_lt_of_cell? w _ hx))] at hu
    exact hu
theorem RowsIn.below {B : Nat} {w w' : World} {v : Value} {rows : List (List Int)} (h : RowsIn B w v rows) (hb : Below w.heap.size w w') : RowsIn B w' v rows := ⟨h.rd.below hb, h.ab.belowA h.rd hb, h.un.below h.rd hb⟩
theorem RowsIn.setCell {B : Nat} {w : World} {v : Value} {rows : List (List Int)} (h : RowsIn B w v rows) {p : Addr} (hp : p.block < B) (u : Value) : RowsIn B (w.setCell p u) v rows := ⟨(h.rd.setCell h.ab hp u).1, (h.rd.setCell h.ab hp u).2, h.un.setCell h.ab hp u⟩
/-- What toAutomaton leaves. -/
def AutIn (B : Nat) (w : World) (v : Value) (a : Aut) : Prop :=
  ∃ s2 s3, v = .agg #[.slice (some ⟨s2, 0, none⟩) a.next.length a.next.length, .slice (some ⟨s3, 0, none⟩) a.fin.length a.fin.length] ∧ B ≤ s2 ∧ B ≤ s3 ∧ (∀ k, w.frozen? ⟨s3, k, none⟩ = false) ∧ RowsIn s2 w (.slice (some ⟨s2, 0, none⟩) a.next.length a.next.length) a.next ∧ RdInts w (.slice (some ⟨s3, 0, none⟩) a.fin.length a.fin.length) a.fin
theorem AutIn.rd {B : Nat} {w : World} {v : Value} {a : Aut} (h : AutIn B w v a) : RdAut w v a := by
  obtain ⟨s2, s3, e, _, _, _, h1, h2⟩ := h
  exact ⟨_, _, e, h1.rd, h2⟩
def CopyAutIn (a : Aut) (w : World) (e : Ending) (w' : World) : Prop := ∃ v, e = .returned v ∧ AutIn w.heap.size w' v a ∧ Below w.heap.size w w'

set_option maxRecDepth 100000 in
set_option maxHeartbeats 4000000 in
theorem toAutomaton_in (v : Value) (a : Aut) (w : World) (h : RdAut w v a) (hm : AutLe a 1048576) :
    Calls Try.prog 49 #[v] w (CopyAutIn a w) := by
  obtain ⟨a1, a2, c1, c2, rfl, h1, h2⟩ := rdAut_slices h
  obtain ⟨hl1, hl2⟩ := hm
  clear h
  obtain ⟨W1, hW1⟩ : ∃ W1, ((w.alloc (.cells #[.slice a1 a.next.length c1, .slice a2 a.fin.length c2] 64)).alloc (.cells #[.slice none 0 0, .slice none 0 0] 67)).alloc (.cells #[.slice none 0 0, .slice none 0 0] 67) = W1 := ⟨_, rfl⟩
  have bP : Blk2 W1 w.heap.size 64 (.slice a1 a.next.length c1) (.slice a2 a.fin.length c2) := by rw [← hW1]; exact ((Blk2.new w _ _ _).alloc _).alloc _
  have bR : Blk2 W1 (w.heap.size + 1) 67 (.slice none 0 0) (.slice none 0 0) := by
    rw [← hW1]; refine Blk2.alloc ?_ _
    have := Blk2.new (w.alloc (.cells #[.slice a1 a.next.length c1, .slice a2 a.fin.length c2] 64)) 67 (.slice none 0 0) (.slice none 0 0)
    rwa [World.size_alloc] at this
  have bO : Blk2 W1 (w.heap.size + 1 + 1) 67 (.slice none 0 0) (.slice none 0 0) := by
    rw [← hW1]
    have := Blk2.new ((w.alloc (.cells #[.slice a1 a.next.length c1, .slice a2 a.fin.length c2] 64)).alloc (.cells #[.slice none 0 0, .slice none 0 0] 67)) 67 (.slice none 0 0) (.slice none 0 0)
    rwa [World.size_alloc, World.size_alloc] at this
  have bel1 : Below w.heap.size w W1 := by rw [← hW1]; exact (((Below.refl _ _).alloc (Nat.le_refl _) _).alloc (by simp) _).alloc (by simp; omega) _
  have HW := Lib.hid hW1
  have HBP := Lib.hid bP
  have HBR := Lib.hid bR
  have HBO := Lib.hid bO
  have HB1 := Lib.hid bel1
  have hz1 : w.heap.size + 1 + 1 < W1.heap.size := bO.lt
  clear hW1 bP bR bO bel1
  go_enter Try.func49, Try.ntmps49
  go_wp2_with fail
  rw [HW.out]
  refine (toIntSS_any _ a.next W1 (h1.below HB1.out) hl1).mono ?_
  rintro e w2 ⟨rfl, r2, b2, z2, ab2, un2⟩
  have HP2 := Lib.hid (HBP.out.below b2)
  have HR2 := Lib.hid (HBR.out.below b2)
  have HO2 := Lib.hid (HBO.out.below b2)
  have HB2 := Lib.hid (HB1.out.trans (b2.mono HB1.out.size))
  have R2 := Lib.hid (RowsIn.mk r2 ab2 un2)
  obtain ⟨s2, hs2⟩ : ∃ s2, s2 = W1.heap.size := ⟨_, rfl⟩
  rw [← hs2] at R2 hz1 z2 ⊢
  clear HBP HBR HBO b2 r2 ab2 un2 hs2 HW HB1
  obtain ⟨p0, p1⟩ := HP2.out.cell
  obtain ⟨o0, o1⟩ := HO2.out.cell
  obtain ⟨f0, f1⟩ := HO2.out.frozen
  go_wp2_with fail
  have B3 : Below w.heap.size w (w2.setCell ⟨w.heap.size + 1 + 1, 0, none⟩ (.slice (some ⟨s2, 0, none⟩) a.next.length a.next.length)) := HB2.out.setCell (p := ⟨w.heap.size + 1 + 1, 0, none⟩) (by show w.heap.size ≤ w.heap.size + 1 + 1; omega) _
  have bR3 := HR2.out.other (p := ⟨w.heap.size + 1 + 1, 0, none⟩) (by show w.heap.size + 1 + 1 ≠ w.heap.size + 1; omega) (.slice (some ⟨s2, 0, none⟩) a.next.length a.next.length)
  have bO3 := HO2.out.set 0 (.slice (some ⟨s2, 0, none⟩) a.next.length a.next.length)
  have rr3 := R2.out.setCell (p := ⟨w.heap.size + 1 + 1, 0, none⟩) (by show w.heap.size + 1 + 1 < s2; omega) (.slice (some ⟨s2, 0, none⟩) a.next.length a.next.length)
  obtain ⟨W3, hW3⟩ : ∃ W3, w2.setCell ⟨w.heap.size + 1 + 1, 0, none⟩ (.slice (some ⟨s2, 0, none⟩) a.next.length a.next.length) = W3 := ⟨_, rfl⟩
  rw [hW3] at B3 bR3 bO3 rr3 ⊢
  have hz3 : s2 < W3.heap.size := by rw [← hW3]; simpa using z2
  clear hW3 HP2 HR2 HO2 HB2 R2 p0 p1 o0 o1 f0 f1 z2
  refine (toIntS_any _ a.fin W3 (h2.below B3) hl2).mono ?_
  rintro e w4 ⟨rfl, r4, b4, z4, fz4⟩
  have HR4 := Lib.hid (bR3.below b4)
  have HO4 := Lib.hid (Blk2.below (show Blk2 W3 _ _ _ _ from bO3) b4)
  have HB4 := Lib.hid (B3.trans (b4.mono B3.size))
  have RV := Lib.hid (rr3.below b4)
  have RA := Lib.hid r4
  obtain ⟨s3, hs3⟩ : ∃ s3, s3 = W3.heap.size := ⟨_, rfl⟩
  rw [← hs3] at RA z4 hz3 fz4 ⊢
  have Z4 := Lib.hid fz4
  clear bR3 bO3 b4 r4 hs3 rr3 B3 h1 h2 hl2 fz4
  obtain ⟨o0, o1⟩ := HO4.out.cell
  obtain ⟨f0, f1⟩ := HO4.out.frozen
  obtain ⟨q0, q1⟩ := HR4.out.cell
  obtain ⟨e0, e1⟩ := HR4.out.frozen
  go_wp2
  have n2 : ∀ j : Nat, (⟨w.heap.size + 1, j, none⟩ : Addr).block < s2 := fun j => by show w.heap.size + 1 < s2; omega
  have l3 : ∀ j : Nat, (⟨w.heap.size + 1, j, none⟩ : Addr).block ≠ s3 := fun j => by show w.heap.size + 1 ≠ s3; omega
  have hB : ∀ j : Nat, w.heap.size ≤ (⟨w.heap.size + 1, j, none⟩ : Addr).block := fun j => by show w.heap.size ≤ w.heap.size + 1; omega
  refine bodyPost_ret (v := .agg #[.slice (some ⟨s2, 0, none⟩) a.next.length a.next.length, .slice (some ⟨s3, 0, none⟩) a.fin.length a.fin.length]) (by simp [results, Try.results49, go_sem, q0, q1]) rfl ⟨_, rfl, ⟨_, _, rfl, by omega, by omega, fun k => (by simp only [frozen_set]; exact Z4.out k), ?_, ?_⟩, ?_⟩
  · exact ((RV.out.setCell (p := ⟨w.heap.size + 1 + 1, 1, none⟩) (by show w.heap.size + 1 + 1 < s2; omega) _).setCell (n2 0) _).setCell (n2 1) _
  · exact ((RA.out.setCell (p := ⟨w.heap.size + 1 + 1, 1, none⟩) (by show w.heap.size + 1 + 1 ≠ s3; omega) _).setCell (l3 0) _).setCell (l3 1) _
  · exact ((HB4.out.setCell (p := ⟨w.heap.size + 1 + 1, 1, none⟩) (by show w.heap.size ≤ w.heap.size + 1 + 1; omega) _).setCell (hB 0) _).setCell (hB 1) _

set_option maxRecDepth 100000 in
set_option maxHeartbeats 2000000 in
theorem eqAutomaton_same (v1 v2 : Value) (a : Aut) (w : World) (h1 : RdAut w v1 a) (h2 : RdAut w v2 a) :
    Calls Try.prog 51 #[v1, v2] w (SamePostB w) := by
  obtain ⟨a1, a2, c1, c2, rfl, g1, g2⟩ := rdAut_slices h1
  obtain ⟨b1, b2, d1, d2, rfl, j1, j2⟩ := rdAut_slices h2
  have hB : Below w.heap.size w ((w.alloc (.cells #[.slice a1 a.next.length c1, .slice a2 a.fin.length c2] 67)).alloc (.cells #[.slice b1 a.next.length d1, .slice b2 a.fin.length d2] 67)) := ((Below.refl _ _).alloc (Nat.le_refl _) _).alloc (by simp) _
  have I1 := Lib.hid (g1.below hB)
  have I2 := Lib.hid (g2.below hB)
  have J1 := Lib.hid (j1.below hB)
  have J2 := Lib.hid (j2.below hB)
  have HB := Lib.hid hB
  clear h1 h2 g1 g2 j1 j2 hB
  go_enter Try.func51, Try.ntmps51
  go_wp2_with fail
  refine (eqIntSS_same _ _ a.next _ I1.out J1.out).mono ?_
  rintro e w' ⟨rfl, m1, rfl⟩
  go_wp2_with fail
  have HB1 := Lib.hid (below_drewN' HB.out m1)
  refine (eqIntS_same _ _ a.fin _ (I2.out.drewN' _) (J2.out.drewN' _)).mono ?_
  rintro e w' ⟨rfl, m2, rfl⟩
  have B9 := Lib.hid (below_drewN' HB.out (m1 + m2))
  go_wp2
  go_ret
  exact ⟨rfl, B9.out⟩

/-- An automaton that may be written. -/
def ShAut (lo hi : Nat) (w : World) (v : Value) : Prop := ∃ u1 u2 n, v = .agg #[u1, u2] ∧ ShR lo hi w u1 ∧ ShI lo hi w u2 n ∧ n ≤ 1048576
theorem ShAut.marked {lo hi lo' hi' : Nat} {w w' : World} {v : Value} (h : ShAut lo hi w v) (hm : Marked lo' hi' w w') : ShAut lo hi w' v := by
  obtain ⟨u1, u2, n, e, h1, h2, h3⟩ := h; exact ⟨u1, u2, n, e, h1.marked hm, h2.marked hm, h3⟩
theorem ShAut.below {lo hi : Nat} {w w' : World} {v : Value} (h : ShAut lo hi w v) (hb : Below w.heap.size w w') : ShAut lo hi w' v := h.marked (Marked.of_below (lo := 0) (hi := 0) hb)
theorem RowsAbove.monoA {B C : Nat} {w : World} {v : Value} (h : RowsAbove B w v) (hc : C ≤ B) : RowsAbove C w v := fun b off n c e => ⟨Nat.le_trans hc (h b off n c e).1, fun i u hi hu b' o' n' c' e' => Nat.le_trans hc ((h b off n c e).2 i u hi hu b' o' n' c' e')⟩
theorem toAutomaton_sh (v : Value) (a : Aut) (w : World) (h : RdAut w v a) (hm : AutLe a 1048576) :
    Calls Try.prog 49 #[v] w fun e w' => ∃ v', e = .returned v' ∧ RdAut w' v' a ∧ ShAut w.heap.size w'.heap.size w' v' ∧ Below w.heap.size w w' := by
  refine (toAutomaton_in v a w h hm).mono ?_
  rintro e w' ⟨v', rfl, mi, b⟩
  refine ⟨_, rfl, mi.rd, ?_, b⟩
  obtain ⟨s, u, eq, l1, l2, l3, l4, l5⟩ := mi
  exact ⟨_, _, _, eq, shR_of l4.rd (l4.ab.monoA l1) l4.un hm.1, shI_of l5 l2 l3, hm.2⟩
end Go.Proofs.Ytelglccegkhfcaa
