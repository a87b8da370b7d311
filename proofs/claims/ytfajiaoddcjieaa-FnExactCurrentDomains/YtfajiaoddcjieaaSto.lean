/- Stores: how they read; how large they are; the laws' own copies, their tests of equality, their marks. -/
import Derived.Test.YtfajiaoddcjieaaMkC
namespace Go.Proofs.Ytfajiaoddcjieaa
open Go.ChangeShapes Go.WideShapes Go.ChangeAt Go.RowKit Go.Deep
set_option linter.unusedVariables false
set_option linter.unusedSimpArgs false

/-- A store as plain data. -/
structure Sto where
  m : Mod
  levels : List (List Int)

/-- The value v is the store s. -/
def RdStore (w : World) (v : Value) (s : Sto) : Prop := ∃ u1 u2 u3, v = .agg #[u1, u2, u3] ∧ RdInts w u1 s.m.doms ∧ RdCons w u2 s.m.cons ∧ RdRows w u3 s.levels
theorem RdStore.below {w w' : World} {v : Value} {s : Sto} (h : RdStore w v s) (hb : Below w.heap.size w w') : RdStore w' v s := by
  obtain ⟨u1, u2, u3, e, h1, h2, h3⟩ := h
  exact ⟨u1, u2, u3, e, h1.below hb, h2.below hb, h3.below hb⟩
theorem RdStore.drew {w : World} {v : Value} {s : Sto} (h : RdStore w v s) : RdStore w.drew v s := h

section
variable {H : Type} {enc : TypeId × Value → H} {w : World} {base : Nat} {held : Bool}
set_option maxRecDepth 100000 in
theorem model_of_cells {n : Nat} {cs : List Value} {y : DataW H × List MemPlace} (h : DataW.trod enc Try.prog w base (fun _ => true) held n 25 cs = some y) :
    ∃ (m : Mod) (u1 u2 : Value), cs = [u1, u2] ∧ RdInts w u1 m.doms ∧ RdCons w u2 m.cons := by
  obtain ⟨hl, m, hf⟩ := cells_of_struct Try.underlying25 (by kernel_rfl) (by kernel_rfl) h
  obtain ⟨v0, z0, e0, r0⟩ := hf 0 _ rfl
  obtain ⟨v1, z1, e1, r1⟩ := hf 1 _ rfl
  obtain ⟨ds, s0⟩ := rdInts_of_trod r0
  obtain ⟨cn, s1⟩ := rdCons_of_trod r1
  refine ⟨⟨ds, cn⟩, v0, v1, ?_, s0, s1⟩
  match cs, hl, e0, e1 with
  | [c0, c1], _, e0, e1 => simp_all
set_option maxRecDepth 100000 in
theorem store_of_cells {n : Nat} {cs : List Value} {y : DataW H × List MemPlace} (h : DataW.trod enc Try.prog w base (fun _ => true) held n 28 cs = some y) :
    ∃ (s : Sto) (u1 u2 u3 : Value), cs = [u1, u2, u3] ∧ RdInts w u1 s.m.doms ∧ RdCons w u2 s.m.cons ∧ RdRows w u3 s.levels := by
  have hC : Try.prog.cellsOf 28 = 3 := by kernel_rfl
  have hK : Try.prog.cellsOf 25 = 2 := by kernel_rfl
  have hI : Try.prog.cellsOf 26 = 1 := by kernel_rfl
  obtain ⟨xs, m, _, _, hl, hx, hf⟩ := DataW.trod_struct Try.underlying28 h
  have hx2 : xs.length = 2 := hx
  have h0 : DataW.trod enc Try.prog w base (fun _ => true) held m 25 (List.take (Try.prog.cellsOf 25) (List.drop 0 cs)) = xs[0]? := hf 0 _ rfl
  have h1 : DataW.trod enc Try.prog w base (fun _ => true) held m 26 (List.take (Try.prog.cellsOf 26) (List.drop 2 cs)) = xs[1]? := hf 1 _ rfl
  rw [List.getElem?_eq_getElem (by omega)] at h0 h1
  rw [hK] at h0
  rw [hI] at h1
  rw [hC] at hl
  obtain ⟨c, u1, u2, e, g1, g2⟩ := model_of_cells h0
  match cs, hl, e, h1 with
  | [c0, c1, c2], _, e, h1 =>
    obtain ⟨rows, g3⟩ := rdRows_of_trod (v := c2) h1
    simp at e
    obtain ⟨rfl, rfl⟩ := e
    exact ⟨⟨c, rows⟩, _, _, _, rfl, g1, g2, g3⟩
set_option maxRecDepth 100000 in
theorem rdStore_of_trod {r : Reach} {b0 : Nat} {v : Value} {d : DataW H} {p : List MemPlace} (hv : Value.okWide Try.prog w r b0 28 v) (h : DataW.Trod enc Try.prog w base (fun _ => true) held 28 v d p) : ∃ s, RdStore w v s := by
  obtain ⟨cs, rfl, _⟩ := okWide_struct Try.underlying28 hv
  obtain ⟨n, hf⟩ := h
  obtain ⟨s, u1, u2, u3, e, g1, g2, g3⟩ := store_of_cells hf
  obtain ⟨l⟩ := cs
  simp [Value.cells] at e
  exact ⟨s, u1, u2, u3, by rw [e], g1, g2, g3⟩
end

theorem rdStore_slices {w : World} {v : Value} {s : Sto} (h : RdStore w v s) : ∃ a1 a2 a3 c1 c2 c3, v = .agg #[.slice a1 s.m.doms.length c1, .slice a2 s.m.cons.length c2, .slice a3 s.levels.length c3] ∧
    RdInts w (.slice a1 s.m.doms.length c1) s.m.doms ∧ RdCons w (.slice a2 s.m.cons.length c2) s.m.cons ∧ RdRows w (.slice a3 s.levels.length c3) s.levels := by
  obtain ⟨u1, u2, u3, rfl, h1, h2, h3⟩ := h
  have g1 := h1; have g2 := h2; have g3 := h3
  obtain ⟨a1, c1, rfl, _⟩ := g1
  obtain ⟨a2, c2, rfl, _⟩ := g2
  obtain ⟨a3, c3, rfl, _⟩ := g3
  exact ⟨a1, a2, a3, c1, c2, c3, rfl, h1, h2, h3⟩

/-- A block of three cells. -/
def Blk3 (w : World) (b : Nat) (t : TypeId) (u0 u1 u2 : Value) : Prop := w.heap[b]? = some (.cells #[u0, u1, u2] t (0, 0))
section
variable {w w' : World} {b : Nat} {t : TypeId} {u0 u1 u2 : Value}
theorem Blk3.cell (h : Blk3 w b t u0 u1 u2) : w.cell? ⟨b, 0, none⟩ = some u0 ∧ w.cell? ⟨b, 1, none⟩ = some u1 ∧ w.cell? ⟨b, 2, none⟩ = some u2 := by
  simp [World.cell?, show w.heap[b]? = _ from h]
theorem Blk3.frozen (h : Blk3 w b t u0 u1 u2) : w.frozen? ⟨b, 0, none⟩ = false ∧ w.frozen? ⟨b, 1, none⟩ = false ∧ w.frozen? ⟨b, 2, none⟩ = false := by
  simp [World.frozen?, show w.heap[b]? = _ from h]
theorem Blk3.lt (h : Blk3 w b t u0 u1 u2) : b < w.heap.size := (Array.getElem?_eq_some_iff.1 h).1
theorem Blk3.below (h : Blk3 w b t u0 u1 u2) (hb : Below w.heap.size w w') : Blk3 w' b t u0 u1 u2 := (hb.block b h.lt).trans h
theorem Blk3.other (h : Blk3 w b t u0 u1 u2) {p : Addr} (hp : p.block ≠ b) (u : Value) : Blk3 (w.setCell p u) b t u0 u1 u2 := (Below.heap_setCell w p u b (Ne.symm hp)).trans h
theorem Blk3.set (h : Blk3 w b t u0 u1 u2) (j : Nat) (u : Value) : (w.setCell ⟨b, j, none⟩ u).heap[b]? = some (.cells (#[u0, u1, u2].setIfInBounds j u) t (0, 0)) := by
  obtain ⟨hlt, hk⟩ := Array.getElem?_eq_some_iff.1 h
  show (w.heap.modify b _)[b]? = _
  rw [Array.getElem?_eq_getElem (by rw [Array.size_modify]; exact hlt), Array.getElem_modify_self, hk]
  rfl
theorem Blk3.new (w : World) (t : TypeId) (u0 u1 u2 : Value) : Blk3 (w.alloc (.cells #[u0, u1, u2] t)) w.heap.size t u0 u1 u2 := World.alloc_heap_new w _
theorem Blk3.alloc (h : Blk3 w b t u0 u1 u2) (o : Obj) : Blk3 (w.alloc o) b t u0 u1 u2 := (Below.heap_alloc w o b h.lt).trans h
theorem Blk3.at (h : Blk3 w b t u0 u1 u2) {n : Nat} (e : n = b) : Blk3 w n t u0 u1 u2 := e ▸ h
theorem Blk3.drew (h : Blk3 w b t u0 u1 u2) : Blk3 w.drew b t u0 u1 u2 := h
end

/-- A store no larger than L. -/
def StoreLe (s : Sto) (L : Nat) : Prop := ModLe s.m L ∧ RowsLe s.levels L
set_option maxRecDepth 100000 in
set_option maxHeartbeats 2000000 in
theorem szStore_any (v : Value) (s : Sto) (left : Int) (w : World) (h : RdStore w v s) (h0 : 0 ≤ left) (h1 : left ≤ 1048576) :
    Calls Try.prog 13 #[v, .int .i64 left] w (SzPostB left (StoreLe s left.toNat) w) := by
  obtain ⟨a1, a2, a3, c1, c2, c3, rfl, g1, g2, g3⟩ := rdStore_slices h
  have hB : Below w.heap.size w (w.alloc (.cells #[.slice a1 s.m.doms.length c1, .slice a2 s.m.cons.length c2, .slice a3 s.levels.length c3] 28)) := (Below.refl _ _).alloc (Nat.le_refl _) _
  have hP := Blk3.new w 28 (.slice a1 s.m.doms.length c1) (.slice a2 s.m.cons.length c2) (.slice a3 s.levels.length c3)
  have HM := Lib.hid (show RdModel _ (.agg #[.slice a1 s.m.doms.length c1, .slice a2 s.m.cons.length c2]) s.m from ⟨_, _, rfl, g1.below hB, g2.below hB⟩)
  have H3 := Lib.hid (g3.below hB)
  have HB := Lib.hid hB
  have HP := Lib.hid hP
  clear h g1 g2 g3 hB hP
  go_enter Try.func13, Try.ntmps13
  go_wp2_with fail
  refine (szModel_any _ s.m left _ HM.out h0 h1).mono ?_
  rintro e w' ⟨r1, rfl, q1, q2, q3, b⟩
  have Q3 := Lib.hid q3
  have HB2 := Lib.hid (HB.out.trans (b.mono HB.out.size))
  have H32 := Lib.hid (H3.out.below b)
  obtain ⟨p0, p1, p2⟩ := (HP.out.below b).cell
  clear q3 b
  by_cases hr1 : r1 < 0
  · go_wp2
    go_ret
    exact ⟨-1, rfl, by omega, by omega, fun h => by omega, HB2.out⟩
  go_wp2_with fail
  refine (szIntSS_any _ s.levels r1 _ H32.out (by omega) (by omega)).mono ?_
  rintro e w2 ⟨r2, rfl, t1, t2, t3, rfl⟩
  have T3 := Lib.hid t3
  clear t3
  by_cases hr2 : r2 < 0
  · go_wp2
    go_ret
    exact ⟨-1, rfl, by omega, by omega, fun h => by omega, HB2.out⟩
  go_wp2
  go_ret
  refine ⟨r2, rfl, by omega, by omega, fun _ => ⟨Q3.out (by omega), (T3.out (by omega)).mono (by omega)⟩, HB2.out⟩

/-! ### The copy of a store -/
/-- A list of constraints in blocks from B on, or none. -/
def ConsIx (B : Nat) (w : World) (v : Value) (cs : List Con) : Prop :=
  (∃ g, v = .slice (some ⟨g, 0, none⟩) cs.length cs.length) ∧ cs.length ≤ maxLen ∧ (cs.length = 0 ∨ ConsIn B w v cs)
theorem consIx_of {B : Nat} {w : World} {v : Value} {cs : List Con} (h : ConsIn B w v cs) : ConsIx B w v cs := by
  obtain ⟨g, e, h1, h2, h3⟩ := id h
  exact ⟨⟨g, e⟩, h2.1, .inr h⟩
theorem ConsIx.below {B : Nat} {w w' : World} {v : Value} {cs : List Con} (h : ConsIx B w v cs) (hb : Below w.heap.size w w') : ConsIx B w' v cs := by
  obtain ⟨⟨g, e⟩, h1, h2⟩ := h
  refine ⟨⟨g, e⟩, h1, ?_⟩
  by_cases h0 : cs.length = 0
  · exact .inl h0
  · rcases h2 with h2 | h2
    · exact .inl h2
    · refine .inr (h2.below hb (fun g' n c e' => ?_))
      obtain ⟨g2, e2, _, _, h3⟩ := h2
      rw [e2] at e'
      simp at e'
      obtain ⟨rfl, _⟩ := e'
      obtain ⟨u2, u3, u5, k0, _⟩ := h3 0 _ (List.getElem?_eq_getElem (by omega))
      exact World.block_lt_of_cell? w _ k0
theorem ConsIx.setCell {B : Nat} {w : World} {v : Value} {cs : List Con} (h : ConsIx B w v cs) {p : Addr} (hp : p.block < B) (u : Value) : ConsIx B (w.setCell p u) v cs :=
  ⟨h.1, h.2.1, h.2.2.imp id (fun h => h.setCell hp u)⟩
theorem ConsIx.rd {B : Nat} {w : World} {v : Value} {cs : List Con} (h : ConsIx B w v cs) : RdCons w v cs := by
  obtain ⟨⟨g, e⟩, h1, h2⟩ := h
  rcases h2 with h2 | h2
  · exact ⟨_, _, e, Nat.le_refl _, h1, .inl h2⟩
  · exact h2.rd
theorem ConsIx.sh {B : Nat} {w : World} {v : Value} {cs : List Con} (h : ConsIx B w v cs) (hL : ConsLe cs 1048576) : ShCs B w.heap.size w v := by
  obtain ⟨⟨g, e⟩, h1, h2⟩ := h
  rcases h2 with h2 | h2
  · exact ⟨_, _, _, e, Nat.le_refl _, h1, hL.1, .inl h2⟩
  · exact shCs_of h2 hL

/-- What lies in a copy of a store. -/
structure StoIn (B : Nat) (w : World) (u1 u2 u3 : Value) (s : Sto) : Prop where
  d : ∃ s2, u1 = .slice (some ⟨s2, 0, none⟩) s.m.doms.length s.m.doms.length ∧ B ≤ s2 ∧ s2 < w.heap.size ∧ (∀ k, w.frozen? ⟨s2, k, none⟩ = false) ∧ RdInts w u1 s.m.doms
  c : ConsIx B w u2 s.m.cons
  l : RdRows w u3 s.levels ∧ RowsAbove B w u3 ∧ RowsUn w u3
theorem StoIn.setCell {B : Nat} {w : World} {u1 u2 u3 : Value} {s : Sto} (h : StoIn B w u1 u2 u3 s) {p : Addr} (hp : p.block < B) (u : Value) : StoIn B (w.setCell p u) u1 u2 u3 s := by
  obtain ⟨⟨s2, rfl, h1, h2, h3, h4⟩, hc, l1, l2, l3⟩ := h
  exact ⟨⟨s2, rfl, h1, by simpa using h2, fun k => (frozen_set _ _ _ _).trans (h3 k), h4.setCell (by omega) u⟩, hc.setCell hp u, (l1.setCell l2 hp u).1, (l1.setCell l2 hp u).2, l3.setCell l2 hp u⟩
theorem StoIn.rd {B : Nat} {w : World} {u1 u2 u3 : Value} {s : Sto} (h : StoIn B w u1 u2 u3 s) : RdStore w (.agg #[u1, u2, u3]) s := by
  obtain ⟨⟨s2, rfl, h1, h2, h3, h4⟩, hc, l1, l2, l3⟩ := h
  exact ⟨_, _, _, rfl, h4, hc.rd, l1⟩
/-- A store that may be written. -/
def ShSt (lo hi : Nat) (w : World) (v : Value) : Prop := ∃ u1 u2 u3 n, v = .agg #[u1, u2, u3] ∧ ShI lo hi w u1 n ∧ n ≤ 1048576 ∧ ShCs lo hi w u2 ∧ ShR lo hi w u3
theorem ShSt.marked {lo hi lo' hi' : Nat} {w w' : World} {v : Value} (h : ShSt lo hi w v) (hm : Marked lo' hi' w w') : ShSt lo hi w' v := by
  obtain ⟨u1, u2, u3, n, e, h1, h2, h3, h4⟩ := h; exact ⟨u1, u2, u3, n, e, h1.marked hm, h2, h3.marked hm, h4.marked hm⟩
theorem ShSt.below {lo hi : Nat} {w w' : World} {v : Value} (h : ShSt lo hi w v) (hb : Below w.heap.size w w') : ShSt lo hi w' v := h.marked (Marked.of_below (lo := 0) (hi := 0) hb)
theorem ShI.lower {lo lo' hi : Nat} {w : World} {v : Value} {n : Nat} (h : ShI lo hi w v n) (hl : lo' ≤ lo) : ShI lo' hi w v n := by
  obtain ⟨a, c, e, h1, h2, h3⟩ := h
  refine ⟨a, c, e, h1, h2, ?_⟩
  rcases h3 with h3 | ⟨b, off, ea, hb, hb', h3⟩
  · exact .inl h3
  · exact .inr ⟨b, off, ea, by omega, hb', h3⟩
theorem ShR.lower {lo lo' hi : Nat} {w : World} {v : Value} (h : ShR lo hi w v) (hl : lo' ≤ lo) : ShR lo' hi w v := by
  obtain ⟨a, n, c, e, h1, h2, hn, h3⟩ := h
  refine ⟨a, n, c, e, h1, h2, hn, ?_⟩
  rcases h3 with h3 | ⟨b, off, ea, h3⟩
  · exact .inl h3
  · refine .inr ⟨b, off, ea, fun i hi => ?_⟩
    obtain ⟨u, m, hu, hs, hm⟩ := h3 i hi
    exact ⟨u, m, hu, hs.lower hl, hm⟩
theorem ShCs.lower {lo lo' hi : Nat} {w : World} {v : Value} (h : ShCs lo hi w v) (hl : lo' ≤ lo) : ShCs lo' hi w v := by
  obtain ⟨a, n, c, e, h1, h2, hn, h3⟩ := h
  refine ⟨a, n, c, e, h1, h2, hn, ?_⟩
  rcases h3 with h3 | ⟨b, off, ea, hb1, hb2, h3⟩
  · exact .inl h3
  · refine .inr ⟨b, off, ea, by omega, hb2, fun i hi => ?_⟩
    obtain ⟨x, y, u2, u3, u5, n2, n3, c0, c1, c2, c3, c4, f0, f3, s2, l2, s3, l3, s5⟩ := h3 i hi
    exact ⟨x, y, u2, u3, u5, n2, n3, c0, c1, c2, c3, c4, f0, f3, s2.lower hl, l2, s3.lower hl, l3, s5.lower hl⟩
theorem ShSt.lower {lo lo' hi : Nat} {w : World} {v : Value} (h : ShSt lo hi w v) (hl : lo' ≤ lo) : ShSt lo' hi w v := by
  obtain ⟨u1, u2, u3, n, e, h1, h2, h3, h4⟩ := h
  exact ⟨u1, u2, u3, n, e, h1.lower hl, h2, h3.lower hl, h4.lower hl⟩
theorem StoIn.sh {B : Nat} {w : World} {u1 u2 u3 : Value} {s : Sto} (h : StoIn B w u1 u2 u3 s) (hL : StoreLe s 1048576) : ShSt B w.heap.size w (.agg #[u1, u2, u3]) := by
  obtain ⟨⟨s2, rfl, h1, h2, h3, h4⟩, hc, l1, l2, l3⟩ := h
  exact ⟨_, _, _, _, rfl, shI_of h4 h1 h3, hL.1.1, hc.sh hL.1.2, shR_of l1 l2 l3 hL.2⟩

set_option maxRecDepth 100000 in
set_option maxHeartbeats 4000000 in
theorem toStore_sh (v : Value) (s : Sto) (w : World) (h : RdStore w v s) (hm : StoreLe s 1048576) :
    Calls Try.prog 15 #[v] w fun e w' => ∃ v', e = .returned v' ∧ RdStore w' v' s ∧ ShSt w.heap.size w'.heap.size w' v' ∧ Below w.heap.size w w' := by
  obtain ⟨a1, a2, a3, c1, c2, c3, rfl, g1, g2, g3⟩ := rdStore_slices h
  have HL := Lib.hid hm
  clear h hm
  obtain ⟨W1, hW1⟩ : ∃ W1, ((w.alloc (.cells #[.slice a1 s.m.doms.length c1, .slice a2 s.m.cons.length c2, .slice a3 s.levels.length c3] 28)).alloc (.cells #[.slice none 0 0, .slice none 0 0, .slice none 0 0] 35)).alloc (.cells #[.slice none 0 0, .slice none 0 0, .slice none 0 0] 35) = W1 := ⟨_, rfl⟩
  have bP : Blk3 W1 w.heap.size 28 (.slice a1 s.m.doms.length c1) (.slice a2 s.m.cons.length c2) (.slice a3 s.levels.length c3) := by rw [← hW1]; exact ((Blk3.new w _ _ _ _).alloc _).alloc _
  have bR : Blk3 W1 (w.heap.size + 1) 35 (.slice none 0 0) (.slice none 0 0) (.slice none 0 0) := by
    rw [← hW1]; exact ((Blk3.new _ _ _ _ _).at (by simp)).alloc _
  have bO : Blk3 W1 (w.heap.size + 1 + 1) 35 (.slice none 0 0) (.slice none 0 0) (.slice none 0 0) := by
    rw [← hW1]; exact (Blk3.new _ _ _ _ _).at (by simp)
  have bel1 : Below w.heap.size w W1 := by rw [← hW1]; exact (((Below.refl _ _).alloc (Nat.le_refl _) _).alloc (by simp) _).alloc (by simp; omega) _
  have HZ := Lib.hid (show w.heap.size + 1 + 1 < W1.heap.size from bO.lt)
  have HM := Lib.hid (show RdModel W1 (.agg #[.slice a1 s.m.doms.length c1, .slice a2 s.m.cons.length c2]) s.m from ⟨_, _, rfl, g1.below bel1, g2.below bel1⟩)
  have HG3 := Lib.hid g3
  have HW := Lib.hid hW1
  have HBP := Lib.hid bP
  have HBR := Lib.hid bR
  have HBO := Lib.hid bO
  have HB1 := Lib.hid bel1
  clear hW1 bP bR bO bel1 g1 g2 g3
  obtain ⟨p0, p1, p2⟩ := HBP.out.cell
  go_enter Try.func15, Try.ntmps15
  go_wp2_with fail
  rw [HW.out]
  refine (toModel_in _ s.m W1 HM.out HL.out.1).mono ?_
  rintro e w2 ⟨v2, rfl, ⟨s2, u2, rfl, i1, i2, i3, i4, i5⟩, b2⟩
  obtain ⟨g2, eu2, -⟩ := id i5
  subst eu2
  have HI : Hid (W1.heap.size ≤ s2 ∧ s2 < w2.heap.size ∧ (∀ k, w2.frozen? ⟨s2, k, none⟩ = false) ∧ RdInts w2 (.slice (some ⟨s2, 0, none⟩) s.m.doms.length s.m.doms.length) s.m.doms) := Lib.hid ⟨i1, i2, i3, i4⟩
  have HC := Lib.hid (consIx_of i5)
  have HB2 := Lib.hid (HB1.out.trans (b2.mono HB1.out.size))
  have HP2 := Lib.hid (HBP.out.below b2)
  have HR2 := Lib.hid (HBR.out.below b2)
  have HO2 := Lib.hid (HBO.out.below b2)
  clear i1 i2 i3 i4 i5 b2 p0 p1 p2 HM HBP HBR HBO HB1 HW
  obtain ⟨p0, p1, p2⟩ := HP2.out.cell
  obtain ⟨o0, o1, o2⟩ := HO2.out.cell
  obtain ⟨f0, f1, f2⟩ := HO2.out.frozen
  go_wp2_with fail
  obtain ⟨W3, hW3⟩ : ∃ W3, (w2.setCell ⟨w.heap.size + 1 + 1, 0, none⟩ (.slice (some ⟨s2, 0, none⟩) s.m.doms.length s.m.doms.length)).setCell ⟨w.heap.size + 1 + 1, 1, none⟩ (.slice (some ⟨g2, 0, none⟩) s.m.cons.length s.m.cons.length) = W3 := ⟨_, rfl⟩
  have hz := HZ.out
  have hp0 : (⟨w.heap.size + 1 + 1, 0, none⟩ : Addr).block < W1.heap.size := hz
  have hp1 : (⟨w.heap.size + 1 + 1, 1, none⟩ : Addr).block < W1.heap.size := hz
  obtain ⟨j1, j2, j3, j4⟩ := HI.out
  have k1 : W1.heap.size ≤ s2 ∧ s2 < W3.heap.size ∧ (∀ k, W3.frozen? ⟨s2, k, none⟩ = false) ∧ RdInts W3 (.slice (some ⟨s2, 0, none⟩) s.m.doms.length s.m.doms.length) s.m.doms := by
    rw [← hW3]
    exact ⟨j1, by simpa using j2, fun k => (frozen_set _ _ _ _).trans ((frozen_set _ _ _ _).trans (j3 k)), (j4.setCell (by omega) _).setCell (by omega) _⟩
  have k2 : ConsIx W1.heap.size W3 (.slice (some ⟨g2, 0, none⟩) s.m.cons.length s.m.cons.length) s.m.cons := by rw [← hW3]; exact (HC.out.setCell hp0 _).setCell hp1 _
  have k3 : Below w.heap.size w W3 := by rw [← hW3]; exact (HB2.out.setCell (p := ⟨w.heap.size + 1 + 1, 0, none⟩) (by show w.heap.size ≤ w.heap.size + 1 + 1; omega) _).setCell (p := ⟨w.heap.size + 1 + 1, 1, none⟩) (by show w.heap.size ≤ w.heap.size + 1 + 1; omega) _
  have k4 : Blk3 W3 (w.heap.size + 1) 35 (.slice none 0 0) (.slice none 0 0) (.slice none 0 0) := by rw [← hW3]; exact (HR2.out.other (by show w.heap.size + 1 + 1 ≠ w.heap.size + 1; omega) _).other (by show w.heap.size + 1 + 1 ≠ w.heap.size + 1; omega) _
  have k5 : Blk3 W3 (w.heap.size + 1 + 1) 35 (.slice (some ⟨s2, 0, none⟩) s.m.doms.length s.m.doms.length) (.slice (some ⟨g2, 0, none⟩) s.m.cons.length s.m.cons.length) (.slice none 0 0) := by rw [← hW3]; exact Blk3.set (show Blk3 _ _ _ _ _ _ from Blk3.set HO2.out 0 _) 1 _
  have k6 : RdRows W3 (.slice a3 s.levels.length c3) s.levels := HG3.out.below k3
  have K1 := Lib.hid k1
  have K2 := Lib.hid k2
  have K3 := Lib.hid k3
  have K4 := Lib.hid k4
  have K5 := Lib.hid k5
  have K6 := Lib.hid k6
  rw [hW3]
  clear j1 j2 j3 j4 k1 k2 k3 k4 k5 k6 hW3 HI HC HB2 HP2 HR2 HO2 p0 p1 p2 o0 o1 o2 f0 f1 f2 hp0 hp1 hz
  refine (toIntSS_any _ s.levels W3 K6.out HL.out.2).mono ?_
  rintro e w4 ⟨rfl, r4, b4, z4, ra, ru⟩
  obtain ⟨s3, hs3⟩ : ∃ s3, s3 = W3.heap.size := ⟨_, rfl⟩
  have hz13 : W1.heap.size ≤ W3.heap.size := by have := K1.out.1; have := K1.out.2.1; omega
  have HF : Hid (StoIn W1.heap.size w4 (.slice (some ⟨s2, 0, none⟩) s.m.doms.length s.m.doms.length) (.slice (some ⟨g2, 0, none⟩) s.m.cons.length s.m.cons.length) (.slice (some ⟨s3, 0, none⟩) s.levels.length s.levels.length) s) := Lib.hid (by
    rw [hs3]
    obtain ⟨j1, j2, j3, j4⟩ := K1.out
    exact ⟨⟨s2, rfl, j1, Nat.lt_of_lt_of_le j2 b4.size, fun k => (frozen_below b4 j2 k).trans (j3 k), j4.below b4⟩, K2.out.below b4, r4, ra.mono hz13, ru⟩)
  rw [← hs3]
  have HB4 := Lib.hid (K3.out.trans (b4.mono K3.out.size))
  have HR4 := Lib.hid (K4.out.below b4)
  have HO4 := Lib.hid (K5.out.below b4)
  clear r4 b4 z4 ra ru hs3 hz13 K1 K2 K3 K4 K5 K6
  obtain ⟨o0, o1, o2⟩ := HO4.out.cell
  obtain ⟨f0, f1, f2⟩ := HO4.out.frozen
  obtain ⟨q0, q1, q2⟩ := HR4.out.cell
  obtain ⟨e0, e1, e2⟩ := HR4.out.frozen
  go_wp2
  have hz := HZ.out
  have hst : ∀ X, StoIn W1.heap.size X (.slice (some ⟨s2, 0, none⟩) s.m.doms.length s.m.doms.length) (.slice (some ⟨g2, 0, none⟩) s.m.cons.length s.m.cons.length) (.slice (some ⟨s3, 0, none⟩) s.levels.length s.levels.length) s → Below w.heap.size w X → (∃ v', Ending.returned (.agg #[.slice (some ⟨s2, 0, none⟩) s.m.doms.length s.m.doms.length, .slice (some ⟨g2, 0, none⟩) s.m.cons.length s.m.cons.length, .slice (some ⟨s3, 0, none⟩) s.levels.length s.levels.length]) = .returned v' ∧ RdStore X v' s ∧ ShSt w.heap.size X.heap.size X v' ∧ Below w.heap.size w X) := fun X hs hb => ⟨_, rfl, hs.rd, (hs.sh HL.out).lower (by omega), hb⟩
  refine bodyPost_ret (v := .agg #[.slice (some ⟨s2, 0, none⟩) s.m.doms.length s.m.doms.length, .slice (some ⟨g2, 0, none⟩) s.m.cons.length s.m.cons.length, .slice (some ⟨s3, 0, none⟩) s.levels.length s.levels.length]) (by simp [results, Try.results15, go_sem, q0, q1, q2]) rfl (hst _ ?_ ?_)
  · repeat (refine StoIn.setCell ?_ (by dsimp only; omega) _)
    exact HF.out
  · repeat (refine Below.setCell ?_ (by dsimp only; omega) _)
    exact HB4.out

set_option maxRecDepth 100000 in
set_option maxHeartbeats 2000000 in
theorem eqStore_same (v1 v2 : Value) (s : Sto) (w : World) (h1 : RdStore w v1 s) (h2 : RdStore w v2 s) :
    Calls Try.prog 17 #[v1, v2] w (SamePostB w) := by
  obtain ⟨a1, a2, a3, c1, c2, c3, rfl, g1, g2, g3⟩ := rdStore_slices h1
  obtain ⟨b1, b2, b3, d1, d2, d3, rfl, j1, j2, j3⟩ := rdStore_slices h2
  obtain ⟨W1, hW1⟩ : ∃ W1, (w.alloc (.cells #[.slice a1 s.m.doms.length c1, .slice a2 s.m.cons.length c2, .slice a3 s.levels.length c3] 35)).alloc (.cells #[.slice b1 s.m.doms.length d1, .slice b2 s.m.cons.length d2, .slice b3 s.levels.length d3] 35) = W1 := ⟨_, rfl⟩
  have hB : Below w.heap.size w W1 := by rw [← hW1]; exact ((Below.refl _ _).alloc (Nat.le_refl _) _).alloc (by simp) _
  have bP : Blk3 W1 w.heap.size 35 (.slice a1 s.m.doms.length c1) (.slice a2 s.m.cons.length c2) (.slice a3 s.levels.length c3) := by rw [← hW1]; exact (Blk3.new w _ _ _ _).alloc _
  have bQ : Blk3 W1 (w.heap.size + 1) 35 (.slice b1 s.m.doms.length d1) (.slice b2 s.m.cons.length d2) (.slice b3 s.levels.length d3) := by rw [← hW1]; exact (Blk3.new _ _ _ _ _).at (by simp)
  have M1 := Lib.hid (show RdModel W1 (.agg #[.slice a1 s.m.doms.length c1, .slice a2 s.m.cons.length c2]) s.m from ⟨_, _, rfl, g1.below hB, g2.below hB⟩)
  have M2 := Lib.hid (show RdModel W1 (.agg #[.slice b1 s.m.doms.length d1, .slice b2 s.m.cons.length d2]) s.m from ⟨_, _, rfl, j1.below hB, j2.below hB⟩)
  have R1 := Lib.hid (g3.below hB)
  have R2 := Lib.hid (j3.below hB)
  have HB := Lib.hid hB
  have HP := Lib.hid bP
  have HQ := Lib.hid bQ
  have HW := Lib.hid hW1
  clear h1 h2 g1 g2 g3 j1 j2 j3 hB bP bQ hW1
  obtain ⟨p0, p1, p2⟩ := HP.out.cell
  obtain ⟨q0, q1, q2⟩ := HQ.out.cell
  go_enter Try.func17, Try.ntmps17
  go_wp2_with fail
  rw [HW.out]
  refine (eqModel_same _ _ s.m _ M1.out M2.out).mono ?_
  rintro e w' ⟨rfl, b9⟩
  have B9 := Lib.hid (HB.out.trans (b9.mono HB.out.size))
  have R19 := Lib.hid (R1.out.below b9)
  have R29 := Lib.hid (R2.out.below b9)
  have HP9 := Lib.hid (HP.out.below b9)
  have HQ9 := Lib.hid (HQ.out.below b9)
  clear b9 p0 p1 p2 q0 q1 q2
  obtain ⟨p0, p1, p2⟩ := HP9.out.cell
  obtain ⟨q0, q1, q2⟩ := HQ9.out.cell
  go_wp2_with fail
  refine (eqIntSS_same _ _ s.levels _ R19.out R29.out).mono ?_
  rintro e w' ⟨rfl, m1, rfl⟩
  go_wp2
  go_ret
  exact ⟨rfl, below_drewN' B9.out m1⟩

set_option maxRecDepth 100000 in
set_option maxHeartbeats 1000000 in
theorem markStore_sh (lo hi : Nat) (v : Value) (k : Int) (w : World) (h : ShSt lo hi w v) (h0 : 0 ≤ k) (h1 : k ≤ 1000) :
    Calls Try.prog 21 #[v, .int .i64 k] w (MarksPost lo hi k 1300002000000000000 w) := by
  obtain ⟨u1, u2, u3, n, rfl, s1, hn, s2, s3⟩ := h
  obtain ⟨a1, c1, rfl⟩ := shI_form s1
  obtain ⟨a2, n2, c2, rfl, -⟩ := id s2
  obtain ⟨a3, n3, c3, rfl⟩ := shR_form s3
  obtain ⟨W1, hW1⟩ : ∃ W1, w.alloc (.cells #[.slice a1 n c1, .slice a2 n2 c2, .slice a3 n3 c3] 35) = W1 := ⟨_, rfl⟩
  have B1 : Below w.heap.size w W1 := by rw [← hW1]; exact (Below.refl _ _).alloc (Nat.le_refl _) _
  have bP : Blk3 W1 w.heap.size 35 (.slice a1 n c1) (.slice a2 n2 c2) (.slice a3 n3 c3) := by rw [← hW1]; exact Blk3.new w _ _ _ _
  have M1 := Lib.hid (Marked.of_below (lo := lo) (hi := hi) B1)
  have S1 := Lib.hid (s1.marked M1.out)
  have S2 := Lib.hid (s2.marked M1.out)
  have S3 := Lib.hid (s3.marked M1.out)
  have HW := Lib.hid hW1
  obtain ⟨p0, p1, p2⟩ := bP.cell
  clear s1 s2 s3 hW1 B1 bP
  go_enter Try.func21, Try.ntmps21
  go_wp2_with fail
  rw [HW.out]
  refine (markModel_any lo hi _ _ _ n k W1 rfl S1.out hn S2.out h0 (by omega)).mono ?_
  rintro e w2 ⟨k2, rfl, r1, r2, m2⟩
  have M2 := Lib.hid (M1.out.trans m2)
  have S4 := Lib.hid (S3.out.marked m2)
  obtain ⟨z1, q1, _, e1, _⟩ := m2.cell _ _ p2
  rw [e1 ⟨fun i e => (by cases e), fun i e => (by cases e)⟩] at q1
  clear m2 M1 S1 S2 S3 p0 p1 p2 e1
  go_wp2_with fail
  refine (markIntSS_any lo hi _ k2 w2 S4.out (by omega) (by omega)).mono ?_
  rintro e w3 ⟨k3, rfl, t1, t2, m3⟩
  have M3 := Lib.hid (M2.out.trans m3)
  clear m3 M2 S4 q1
  go_wp2
  go_ret
  exact ⟨k3, rfl, by omega, by omega, M3.out⟩
end Go.Proofs.Ytfajiaoddcjieaa
