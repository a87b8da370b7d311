/- Models: how they read; how large they are. The laws' own copy of a model, and its tests of equality. -/
import Derived.Test.YtelglccegkhfcaaVcC

/-! Models: how they read; how large they are. -/
namespace Go.Proofs.Ytelglccegkhfcaa
open Go.ChangeShapes Go.WideShapes Go.ChangeAt Go.RowKit Go.Deep
set_option linter.unusedVariables false
set_option linter.unusedSimpArgs false

/-- A model as plain data. -/
structure Mod where
  doms : List Int
  cons : List Con

/-- The value v is the model m. -/
def RdModel (w : World) (v : Value) (m : Mod) : Prop := ∃ u1 u2, v = .agg #[u1, u2] ∧ RdInts w u1 m.doms ∧ RdCons w u2 m.cons

theorem RdModel.below {w w' : World} {v : Value} {m : Mod} (h : RdModel w v m) (hb : Below w.heap.size w w') : RdModel w' v m := by
  obtain ⟨u1, u2, e, h1, h2⟩ := h
  exact ⟨u1, u2, e, h1.below hb, h2.below hb⟩

section
variable {H : Type} {enc : TypeId × Value → H} {w : World} {base : Nat} {held : Bool}
set_option maxRecDepth 100000 in
theorem rdIntsArg_of_trod {r : Reach} {b0 : Nat} {v : Value} {d : DataW H} {p : List MemPlace} (hv : Value.okWide Try.prog w r b0 29 v) (h : DataW.Trod enc Try.prog w base (fun _ => true) held 29 v d p) : ∃ xs, RdInts w v xs := by
  obtain ⟨a0, len0, cap0, rfl⟩ := okWide_slice Try.underlying29 hv
  obtain ⟨n, hf⟩ := h
  exact rdInts_of_trod (by simpa [Value.cells] using hf)
end

/-- An element of a list of constraints, loaded. -/
theorem rdCons_at {w : World} {a : Option Addr} {n cap : Nat} {cs : List Con} (h : RdCons w (.slice a n cap) cs) {i : Nat} (hi : i < n) : ∃ (b off : Nat) (c : Con) (a2 a3 a5 : Option Addr) (c2 c3 c5 : Nat), a = some ⟨b, off, none⟩ ∧ cs[i]? = some c ∧
    w.cell? ⟨b, off + i * 5, none⟩ = some (.int .i64 c.kind) ∧ w.cell? ⟨b, off + i * 5 + 1, none⟩ = some (.slice a2 c.vars.length c2) ∧ w.cell? ⟨b, off + i * 5 + 2, none⟩ = some (.slice a3 c.args.length c3) ∧ w.cell? ⟨b, off + i * 5 + 3, none⟩ = some (.int .i64 c.bound) ∧ w.cell? ⟨b, off + i * 5 + 4, none⟩ = some (.slice a5 c.rows.length c5) ∧
    RdCon w (.agg #[.int .i64 c.kind, .slice a2 c.vars.length c2, .slice a3 c.args.length c3, .int .i64 c.bound, .slice a5 c.rows.length c5]) c := by
  obtain ⟨a', cap', e, h1, h2, h3⟩ := h
  simp at e
  obtain ⟨rfl, rfl, rfl⟩ := e
  rcases h3 with h3 | ⟨b, off, rfl, h3⟩
  · omega
  · have hc : cs[i]? = some cs[i] := List.getElem?_eq_getElem hi
    obtain ⟨u2, u3, u5, k0, k1, k2, k3, k4, r2, r3, r5⟩ := h3 i _ hc
    rw [Nat.mul_comm 5 i] at k0 k1 k2 k3 k4
    have g2 := r2; have g3 := r3; have g5 := r5
    obtain ⟨a2, c2, rfl, _⟩ := g2
    obtain ⟨a3, c3, rfl, _⟩ := g3
    obtain ⟨a5, c5, rfl, _⟩ := g5
    exact ⟨b, off, cs[i], a2, a3, a5, c2, c3, c5, rfl, hc, k0, k1, k2, k3, k4, _, _, _, rfl, r2, r3, r5⟩

/-- No more than L constraints, each no larger than L. -/
def ConsLe (cs : List Con) (L : Nat) : Prop := cs.length ≤ L ∧ ∀ (j : Nat) (c : Con), cs[j]? = some c → ConLe c L
def ModLe (m : Mod) (L : Nat) : Prop := m.doms.length ≤ L ∧ ConsLe m.cons L
theorem ConLe.mono {c : Con} {a b : Nat} (h : ConLe c a) (hab : a ≤ b) : ConLe c b := ⟨Nat.le_trans h.1 hab, Nat.le_trans h.2.1 hab, h.2.2.mono hab⟩

/-- A block of two cells. -/
def Blk2 (w : World) (b : Nat) (t : TypeId) (u0 u1 : Value) : Prop := w.heap[b]? = some (.cells #[u0, u1] t (0, 0))
section
variable {w w' : World} {b : Nat} {t : TypeId} {u0 u1 : Value}
theorem Blk2.cell (h : Blk2 w b t u0 u1) : w.cell? ⟨b, 0, none⟩ = some u0 ∧ w.cell? ⟨b, 1, none⟩ = some u1 := by
  simp [World.cell?, show w.heap[b]? = _ from h]
theorem Blk2.frozen (h : Blk2 w b t u0 u1) : w.frozen? ⟨b, 0, none⟩ = false ∧ w.frozen? ⟨b, 1, none⟩ = false := by
  simp [World.frozen?, show w.heap[b]? = _ from h]
theorem Blk2.lt (h : Blk2 w b t u0 u1) : b < w.heap.size := (Array.getElem?_eq_some_iff.1 h).1
theorem Blk2.below (h : Blk2 w b t u0 u1) (hb : Below w.heap.size w w') : Blk2 w' b t u0 u1 := (hb.block b h.lt).trans h
theorem Blk2.other (h : Blk2 w b t u0 u1) {p : Addr} (hp : p.block ≠ b) (u : Value) : Blk2 (w.setCell p u) b t u0 u1 := (Below.heap_setCell w p u b (Ne.symm hp)).trans h
theorem Blk2.set (h : Blk2 w b t u0 u1) (j : Nat) (u : Value) : (w.setCell ⟨b, j, none⟩ u).heap[b]? = some (.cells (#[u0, u1].setIfInBounds j u) t (0, 0)) := by
  obtain ⟨hlt, hk⟩ := Array.getElem?_eq_some_iff.1 h
  show (w.heap.modify b _)[b]? = _
  rw [Array.getElem?_eq_getElem (by rw [Array.size_modify]; exact hlt), Array.getElem_modify_self, hk]
  rfl
theorem Blk2.new (w : World) (t : TypeId) (u0 u1 : Value) : Blk2 (w.alloc (.cells #[u0, u1] t)) w.heap.size t u0 u1 := World.alloc_heap_new w _
theorem Blk2.alloc (h : Blk2 w b t u0 u1) (o : Obj) : Blk2 (w.alloc o) b t u0 u1 := (Below.heap_alloc w o b h.lt).trans h
theorem Blk2.drew (h : Blk2 w b t u0 u1) : Blk2 w.drew b t u0 u1 := h
end
theorem RdInts.drew {w : World} {v : Value} {xs : List Int} (h : RdInts w v xs) : RdInts w.drew v xs := h
theorem RdCons.drew {w : World} {v : Value} {xs : List Con} (h : RdCons w v xs) : RdCons w.drew v xs := h
theorem RdModel.drew {w : World} {v : Value} {m : Mod} (h : RdModel w v m) : RdModel w.drew v m := h

theorem rdModel_slices {w : World} {v : Value} {m : Mod} (h : RdModel w v m) : ∃ a1 a2 c1 c2, v = .agg #[.slice a1 m.doms.length c1, .slice a2 m.cons.length c2] ∧ RdInts w (.slice a1 m.doms.length c1) m.doms ∧ RdCons w (.slice a2 m.cons.length c2) m.cons := by
  obtain ⟨u1, u2, rfl, h1, h2⟩ := h
  have g1 := h1; have g2 := h2
  obtain ⟨a1, c1, rfl, _⟩ := g1
  obtain ⟨a2, c2, rfl, _⟩ := g2
  exact ⟨a1, a2, c1, c2, rfl, h1, h2⟩

/-! ### The copy of a list of constraints -/
theorem RowsAbove.below {B : Nat} {w w' : World} {v : Value} {rows : List (List Int)} (h : RowsAbove B w v) (hr : RdRows w v rows) (hb : Below w.heap.size w w') : RowsAbove B w' v := by
  intro b off n c e
  obtain ⟨g1, g2⟩ := h b off n c e
  refine ⟨g1, fun i u hi hu => g2 i u hi ?_⟩
  obtain ⟨a, cap, ev, _, _, h3⟩ := hr
  rw [e] at ev
  simp at ev
  obtain ⟨rfl, rfl, rfl⟩ := ev
  rcases h3 with h3 | ⟨b', off', e', h3⟩
  · omega
  · simp at e'
    obtain ⟨rfl, rfl⟩ := e'
    obtain ⟨x, hx, _⟩ := h3 i hi
    rw [(hb.cell (World.block_lt_of_cell? w _ hx))] at hu
    exact hu

/-- The value v is the constraint c, in blocks from B on. -/
def ConIn (B : Nat) (w : World) (v : Value) (c : Con) : Prop := RdCon w v c ∧ ConUn w v ∧ ConAbove B w v
theorem ConUn.below {w w' : World} {v : Value} {c : Con} (h : ConUn w v) (h1 : RdCon w v c) (hb : Below w.heap.size w w') : ConUn w' v := by
  obtain ⟨kind, bound, s2, n2, c2, s3, n3, c3, s5, n5, c5, e, l2, f2, l3, f3, l5⟩ := h
  obtain ⟨u2, u3, u5, e', r2, r3, r5⟩ := h1
  rw [e] at e'
  simp at e'
  obtain ⟨rfl, rfl, rfl, rfl, rfl⟩ := e'
  exact ⟨_, _, s2, n2, c2, s3, n3, c3, s5, n5, c5, e, Nat.lt_of_lt_of_le l2 hb.size, fun k => (frozen_below hb l2 k).trans (f2 k), Nat.lt_of_lt_of_le l3 hb.size, fun k => (frozen_below hb l3 k).trans (f3 k), l5.below r5 hb⟩
theorem ConUn.setCell {B : Nat} {w : World} {v : Value} (h : ConUn w v) (hA : ConAbove B w v) {p : Addr} (hp : p.block < B) (u : Value) : ConUn (w.setCell p u) v := by
  obtain ⟨kind, bound, s2, n2, c2, s3, n3, c3, s5, n5, c5, e, l2, f2, l3, f3, l5⟩ := h
  obtain ⟨kind', bound', s2', n2', c2', s3', n3', c3', s5', n5', c5', e', m2, m3, m5⟩ := hA
  rw [e] at e'
  simp at e'
  obtain ⟨rfl, ⟨rfl, rfl, rfl⟩, ⟨rfl, rfl, rfl⟩, rfl, rfl, rfl, rfl⟩ := e'
  exact ⟨_, _, s2, n2, c2, s3, n3, c3, s5, n5, c5, e, by simpa using l2, fun k => (frozen_set _ _ _ _).trans (f2 k), by simpa using l3, fun k => (frozen_set _ _ _ _).trans (f3 k), l5.setCell m5 hp u⟩
theorem ConIn.below {B : Nat} {w w' : World} {v : Value} {c : Con} (h : ConIn B w v c) (hb : Below w.heap.size w w') : ConIn B w' v c := by
  obtain ⟨h1, hu, kind, bound, s2, n2, c2, s3, n3, c3, s5, n5, c5, e, l2, l3, l5⟩ := h
  refine ⟨h1.below hb, hu.below h1 hb, kind, bound, s2, n2, c2, s3, n3, c3, s5, n5, c5, e, l2, l3, ?_⟩
  obtain ⟨u2, u3, u5, e', r2, r3, r5⟩ := h1
  rw [e] at e'
  simp at e'
  obtain ⟨rfl, rfl, rfl, rfl, rfl⟩ := e'
  exact l5.below r5 hb
theorem ConIn.setCell {B : Nat} {w : World} {v : Value} {c : Con} (h : ConIn B w v c) {p : Addr} (hp : p.block < B) (u : Value) : ConIn B (w.setCell p u) v c := by
  obtain ⟨h1, hu, kind, bound, s2, n2, c2, s3, n3, c3, s5, n5, c5, e, l2, l3, l5⟩ := h
  have hu' := hu.setCell ⟨kind, bound, s2, n2, c2, s3, n3, c3, s5, n5, c5, e, l2, l3, l5⟩ hp u
  obtain ⟨u2, u3, u5, e', r2, r3, r5⟩ := h1
  rw [e] at e'
  simp at e'
  obtain ⟨rfl, rfl, rfl, rfl, rfl⟩ := e'
  have t := r5.setCell l5 hp u
  exact ⟨⟨_, _, _, e, r2.setCell (by omega) u, r3.setCell (by omega) u, t.1⟩, hu', _, _, _, _, _, _, _, _, _, _, _, e, l2, l3, t.2⟩
theorem ConIn.mono {B B' : Nat} {w : World} {v : Value} {c : Con} (h : ConIn B w v c) (hb : B' ≤ B) : ConIn B' w v c := by
  obtain ⟨h1, hu, kind, bound, s2, n2, c2, s3, n3, c3, s5, n5, c5, e, l2, l3, l5⟩ := h
  exact ⟨h1, hu, kind, bound, s2, n2, c2, s3, n3, c3, s5, n5, c5, e, Nat.le_trans hb l2, Nat.le_trans hb l3, l5.mono hb⟩

/-- The first k constraints of cs lie in the cells vs, five to each. -/
def ConCells (cs : List Con) (B k : Nat) (vs : List Value) (w : World) : Prop :=
  vs.length = cs.length * 5 ∧ ∀ (j : Nat) (c : Con), j < k → cs[j]? = some c → ∃ u2 u3 u5, vs[j * 5]? = some (.int .i64 c.kind) ∧ vs[j * 5 + 1]? = some u2 ∧ vs[j * 5 + 2]? = some u3 ∧ vs[j * 5 + 3]? = some (.int .i64 c.bound) ∧ vs[j * 5 + 4]? = some u5 ∧ ConIn B w (.agg #[.int .i64 c.kind, u2, u3, .int .i64 c.bound, u5]) c
theorem ConCells.below {cs : List Con} {B k : Nat} {vs : List Value} {w w' : World} (h : ConCells cs B k vs w) (hb : Below w.heap.size w w') : ConCells cs B k vs w' := by
  refine ⟨h.1, fun j c hj hc => ?_⟩
  obtain ⟨u2, u3, u5, e0, e1, e2, e3, e4, hi⟩ := h.2 j c hj hc
  exact ⟨u2, u3, u5, e0, e1, e2, e3, e4, hi.below hb⟩
theorem ConCells.setCell {cs : List Con} {B k : Nat} {vs : List Value} {w : World} (h : ConCells cs B k vs w) {p : Addr} (hp : p.block < B) (u : Value) : ConCells cs B k vs (w.setCell p u) := by
  refine ⟨h.1, fun j c hj hc => ?_⟩
  obtain ⟨u2, u3, u5, e0, e1, e2, e3, e4, hi⟩ := h.2 j c hj hc
  exact ⟨u2, u3, u5, e0, e1, e2, e3, e4, hi.setCell hp u⟩
/-- Five cells set. -/
def set5 (vs : List Value) (p : Nat) (u0 u1 u2 u3 u4 : Value) : List Value := ((((vs.set p u0).set (p + 1) u1).set (p + 2) u2).set (p + 3) u3).set (p + 4) u4
theorem set5_other (vs : List Value) (p q : Nat) (u0 u1 u2 u3 u4 : Value) (h : q < p ∨ p + 4 < q) : (set5 vs p u0 u1 u2 u3 u4)[q]? = vs[q]? := by
  unfold set5
  rw [List.getElem?_set_ne (by omega), List.getElem?_set_ne (by omega), List.getElem?_set_ne (by omega), List.getElem?_set_ne (by omega), List.getElem?_set_ne (by omega)]
theorem set5_at (vs : List Value) (p : Nat) (u0 u1 u2 u3 u4 : Value) (h : p + 4 < vs.length) : (set5 vs p u0 u1 u2 u3 u4)[p]? = some u0 ∧ (set5 vs p u0 u1 u2 u3 u4)[p + 1]? = some u1 ∧ (set5 vs p u0 u1 u2 u3 u4)[p + 2]? = some u2 ∧ (set5 vs p u0 u1 u2 u3 u4)[p + 3]? = some u3 ∧ (set5 vs p u0 u1 u2 u3 u4)[p + 4]? = some u4 := by
  unfold set5
  refine ⟨?_, ?_, ?_, ?_, ?_⟩ <;> simp [List.getElem?_set, List.length_set] <;> omega
theorem set5_length (vs : List Value) (p : Nat) (u0 u1 u2 u3 u4 : Value) : (set5 vs p u0 u1 u2 u3 u4).length = vs.length := by simp [set5]
theorem ConCells.step {cs : List Con} {B k : Nat} {vs : List Value} {w : World} (h : ConCells cs B k vs w) {c : Con} (hc : cs[k]? = some c) {u2 u3 u5 : Value} (hr : ConIn B w (.agg #[.int .i64 c.kind, u2, u3, .int .i64 c.bound, u5]) c) :
    ConCells cs B (k + 1) (set5 vs (k * 5) (.int .i64 c.kind) u2 u3 (.int .i64 c.bound) u5) w := by
  obtain ⟨h1, h2⟩ := h
  have hk : k < cs.length := (List.getElem?_eq_some_iff.1 hc).1
  refine ⟨by rw [set5_length]; exact h1, fun j c' hj hc' => ?_⟩
  by_cases e : j = k
  · subst e
    rw [hc] at hc'
    obtain rfl := Option.some.inj hc'
    obtain ⟨e0, e1, e2, e3, e4⟩ := set5_at vs (j * 5) (.int .i64 c.kind) u2 u3 (.int .i64 c.bound) u5 (by omega)
    exact ⟨u2, u3, u5, e0, e1, e2, e3, e4, hr⟩
  · obtain ⟨v2, v3, v5, e0, e1, e2, e3, e4, hi⟩ := h2 j c' (by omega) hc'
    refine ⟨v2, v3, v5, ?_, ?_, ?_, ?_, ?_, hi⟩ <;> rw [set5_other _ _ _ _ _ _ _ _ (by omega)] <;> assumption

/-- A list of constraints in blocks from B on. -/
def ConsIn (B : Nat) (w : World) (v : Value) (cs : List Con) : Prop :=
  ∃ g, v = .slice (some ⟨g, 0, none⟩) cs.length cs.length ∧ B ≤ g ∧ (cs.length ≤ maxLen ∧ ∀ k, w.frozen? ⟨g, k, none⟩ = false) ∧ ∀ (j : Nat) (c : Con), cs[j]? = some c → ∃ u2 u3 u5, w.cell? ⟨g, j * 5, none⟩ = some (.int .i64 c.kind) ∧ w.cell? ⟨g, j * 5 + 1, none⟩ = some u2 ∧ w.cell? ⟨g, j * 5 + 2, none⟩ = some u3 ∧ w.cell? ⟨g, j * 5 + 3, none⟩ = some (.int .i64 c.bound) ∧ w.cell? ⟨g, j * 5 + 4, none⟩ = some u5 ∧ ConIn B w (.agg #[.int .i64 c.kind, u2, u3, .int .i64 c.bound, u5]) c
theorem ConsIn.rd {B : Nat} {w : World} {v : Value} {cs : List Con} (h : ConsIn B w v cs) : RdCons w v cs := by
  obtain ⟨g, e, _, hm, h⟩ := h
  refine ⟨some ⟨g, 0, none⟩, cs.length, e, Nat.le_refl _, hm.1, .inr ⟨g, 0, rfl, fun i c hc => ?_⟩⟩
  obtain ⟨u2, u3, u5, e0, e1, e2, e3, e4, ⟨x2, x3, x5, ex, r2, r3, r5⟩, _⟩ := h i c hc
  simp at ex
  obtain ⟨rfl, rfl, rfl⟩ := ex
  rw [Nat.zero_add, Nat.mul_comm 5 i]
  exact ⟨_, _, _, e0, e1, e2, e3, e4, r2, r3, r5⟩
theorem ConsIn.below {B : Nat} {w w' : World} {v : Value} {cs : List Con} (h : ConsIn B w v cs) (hb : Below w.heap.size w w') (hg : ∀ g n c, v = .slice (some ⟨g, 0, none⟩) n c → g < w.heap.size) : ConsIn B w' v cs := by
  obtain ⟨g, e, hB, hm, h⟩ := h
  refine ⟨g, e, hB, ⟨hm.1, fun k => (frozen_below hb (hg g _ _ e) k).trans (hm.2 k)⟩, fun i c hc => ?_⟩
  obtain ⟨u2, u3, u5, e0, e1, e2, e3, e4, hi⟩ := h i c hc
  have k : ∀ (p : Addr) (x : Value), w.cell? p = some x → w'.cell? p = some x := fun p x hp => (hb.cell (World.block_lt_of_cell? w _ hp)).trans hp
  exact ⟨u2, u3, u5, k _ _ e0, k _ _ e1, k _ _ e2, k _ _ e3, k _ _ e4, hi.below hb⟩
theorem ConsIn.setCell {B : Nat} {w : World} {v : Value} {cs : List Con} (h : ConsIn B w v cs) {p : Addr} (hp : p.block < B) (u : Value) : ConsIn B (w.setCell p u) v cs := by
  obtain ⟨g, e, hg, hm, h⟩ := h
  refine ⟨g, e, hg, ⟨hm.1, fun k => (frozen_set _ _ _ _).trans (hm.2 k)⟩, fun i c hc => ?_⟩
  obtain ⟨u2, u3, u5, e0, e1, e2, e3, e4, hi⟩ := h i c hc
  refine ⟨u2, u3, u5, ?_, ?_, ?_, ?_, ?_, hi.setCell hp u⟩ <;> rw [cell_other (by show p.block ≠ g; omega)] <;> assumption

/-- What toConstraintS leaves. -/
def CopyConsPost (cs : List Con) (w : World) (e : Ending) (w' : World) : Prop :=
  e = .returned (.slice (some ⟨w.heap.size, 0, none⟩) cs.length cs.length) ∧ ConsIn w.heap.size w' (.slice (some ⟨w.heap.size, 0, none⟩) cs.length cs.length) cs ∧ Below w.heap.size w w' ∧ w.heap.size < w'.heap.size

theorem Try.infoCon : (Try.prog.info? 97).map (fun i => (i.zero, i.size, i.bytes)) = some (some (.agg #[.int .i64 0, .slice none 0 0, .slice none 0 0, .int .i64 0, .slice none 0 0]), 5, 88) := by kernel_rfl

end Go.Proofs.Ytelglccegkhfcaa

/-! The laws' own copy of a model, and its tests of equality. -/
namespace Go.Proofs.Ytelglccegkhfcaa
open Go.ChangeShapes Go.WideShapes Go.ChangeAt Go.RowKit
set_option linter.unusedVariables false
set_option linter.unusedSimpArgs false

theorem RdCons.drewN' {w : World} {v : Value} {xs : List Con} (h : RdCons w v xs) (k : Nat) : RdCons (w.drewN k) v xs := h

theorem consIn_mono {B B' : Nat} {w : World} {v : Value} {cs : List Con} (h : ConsIn B w v cs) (hb : B' ≤ B) : ConsIn B' w v cs := by
  obtain ⟨g, e, hB, hm, h⟩ := h
  refine ⟨g, e, by omega, hm, fun i c hc => ?_⟩
  obtain ⟨u2, u3, u5, e0, e1, e2, e3, e4, hi⟩ := h i c hc
  exact ⟨u2, u3, u5, e0, e1, e2, e3, e4, hi.mono hb⟩
/-- A model in blocks from B on, which may be written. -/
def ModIn (B : Nat) (w : World) (v : Value) (m : Mod) : Prop :=
  ∃ s2 u2, v = .agg #[.slice (some ⟨s2, 0, none⟩) m.doms.length m.doms.length, u2] ∧ B ≤ s2 ∧ s2 < w.heap.size ∧ (∀ k, w.frozen? ⟨s2, k, none⟩ = false) ∧ RdInts w (.slice (some ⟨s2, 0, none⟩) m.doms.length m.doms.length) m.doms ∧ ConsIn B w u2 m.cons
theorem ModIn.rd {B : Nat} {w : World} {v : Value} {m : Mod} (h : ModIn B w v m) : RdModel w v m := by
  obtain ⟨s2, u2, e, _, _, _, h1, h2⟩ := h
  exact ⟨_, _, e, h1, h2.rd⟩
/-- What toModel leaves. -/
def CopyModIn (m : Mod) (w : World) (e : Ending) (w' : World) : Prop := ∃ v, e = .returned v ∧ ModIn w.heap.size w' v m ∧ Below w.heap.size w w'
def CopyModPost (m : Mod) (w : World) (e : Ending) (w' : World) : Prop := ∃ v, e = .returned v ∧ RdModel w' v m ∧ Below w.heap.size w w'

end Go.Proofs.Ytelglccegkhfcaa
