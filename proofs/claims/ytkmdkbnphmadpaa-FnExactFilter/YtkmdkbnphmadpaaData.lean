/- How slices of integers, slices of such slices, and constraints read in memory; what a read keeps through later steps. -/
import Derived.Test.YtkmdkbnphmadpaaDom
import Derived.Laws.AppendOwn
import Derived.Laws.OwnMore
import Derived.Deep.Matrix
import Derived.Deep.Fields
import Derived.Deep.Slices
import Derived.Lib.SmallJoins
import Derived.ChangeOld
namespace Go.Proofs.Ytkmdkbnphmadpaa
open Go.ChangeShapes Go.WideShapes Go.ChangeAt Go.RowKit Go.Deep
set_option linter.unusedVariables false
set_option linter.unusedSimpArgs false

theorem ret_bool {a b : Bool} (h : a = b) : Ending.returned (.bool a) = .returned (.bool b) := by rw [h]
theorem ret_int {k : IntKind} {a b : Int} (h : a = b) : Ending.returned (.int k a) = .returned (.int k b) := by rw [h]

/-- A constraint as plain data. -/
structure Con where
  kind : Int
  vars : List Int
  args : List Int
  bound : Int
  rows : List (List Int)

/-- The slice value v reads as xs. -/
def RdInts (w : World) (v : Value) (xs : List Int) : Prop :=
  ∃ a cap, v = .slice a xs.length cap ∧ xs.length ≤ cap ∧ cap ≤ maxLen ∧ (xs.length = 0 ∨ ∃ b off, a = some ⟨b, off, none⟩ ∧ ∀ i, i < xs.length → w.cell? ⟨b, off + i, none⟩ = some (.int .i64 (xs[i]?.getD 0)))
/-- The slice value v reads as a list of rows. -/
def RdRows (w : World) (v : Value) (rows : List (List Int)) : Prop :=
  ∃ a cap, v = .slice a rows.length cap ∧ rows.length ≤ cap ∧ cap ≤ maxLen ∧ (rows.length = 0 ∨ ∃ b off, a = some ⟨b, off, none⟩ ∧ ∀ i, i < rows.length → ∃ u, w.cell? ⟨b, off + i, none⟩ = some u ∧ RdInts w u (rows[i]?.getD []))
/-- The five cells of a constraint. -/
def RdCells (w : World) (c : Con) (u1 u2 u3 u4 u5 : Value) : Prop :=
  u1 = .int .i64 c.kind ∧ RdInts w u2 c.vars ∧ RdInts w u3 c.args ∧ u4 = .int .i64 c.bound ∧ RdRows w u5 c.rows
/-- The value v is the constraint c. -/
def RdCon (w : World) (v : Value) (c : Con) : Prop :=
  ∃ u2 u3 u5, v = .agg #[.int .i64 c.kind, u2, u3, .int .i64 c.bound, u5] ∧ RdInts w u2 c.vars ∧ RdInts w u3 c.args ∧ RdRows w u5 c.rows
/-- The slice value v reads as a list of constraints. -/
def RdCons (w : World) (v : Value) (cs : List Con) : Prop :=
  ∃ a cap, v = .slice a cs.length cap ∧ cs.length ≤ cap ∧ cap ≤ maxLen ∧ (cs.length = 0 ∨ ∃ b off, a = some ⟨b, off, none⟩ ∧ ∀ i c, cs[i]? = some c →
    ∃ u2 u3 u5, w.cell? ⟨b, off + 5 * i, none⟩ = some (.int .i64 c.kind) ∧ w.cell? ⟨b, off + 5 * i + 1, none⟩ = some u2 ∧ w.cell? ⟨b, off + 5 * i + 2, none⟩ = some u3 ∧
      w.cell? ⟨b, off + 5 * i + 3, none⟩ = some (.int .i64 c.bound) ∧ w.cell? ⟨b, off + 5 * i + 4, none⟩ = some u5 ∧ RdInts w u2 c.vars ∧ RdInts w u3 c.args ∧ RdRows w u5 c.rows)

theorem addr_add (b off i : Nat) : (Addr.mk b off none).add i = ⟨b, off + i, none⟩ := by unfold Addr.add; split <;> simp_all

theorem RdInts.below {w w' : World} {v : Value} {xs : List Int} (h : RdInts w v xs) (hb : Below w.heap.size w w') : RdInts w' v xs := by
  obtain ⟨a, cap, e, h1, h2, h3⟩ := h
  refine ⟨a, cap, e, h1, h2, ?_⟩
  rcases h3 with h3 | ⟨b, off, ea, h3⟩
  · exact .inl h3
  · exact .inr ⟨b, off, ea, fun i hi => (hb.cell (World.block_lt_of_cell? w _ (h3 i hi))).trans (h3 i hi)⟩
theorem RdRows.below {w w' : World} {v : Value} {xs : List (List Int)} (h : RdRows w v xs) (hb : Below w.heap.size w w') : RdRows w' v xs := by
  obtain ⟨a, cap, e, h1, h2, h3⟩ := h
  refine ⟨a, cap, e, h1, h2, ?_⟩
  rcases h3 with h3 | ⟨b, off, ea, h3⟩
  · exact .inl h3
  · refine .inr ⟨b, off, ea, fun i hi => ?_⟩
    obtain ⟨u, hu, hr⟩ := h3 i hi
    exact ⟨u, (hb.cell (World.block_lt_of_cell? w _ hu)).trans hu, hr.below hb⟩
theorem RdCon.below {w w' : World} {v : Value} {c : Con} (h : RdCon w v c) (hb : Below w.heap.size w w') : RdCon w' v c := by
  obtain ⟨u2, u3, u5, e, h2, h3, h5⟩ := h
  exact ⟨u2, u3, u5, e, h2.below hb, h3.below hb, h5.below hb⟩
theorem RdCons.below {w w' : World} {v : Value} {cs : List Con} (h : RdCons w v cs) (hb : Below w.heap.size w w') : RdCons w' v cs := by
  obtain ⟨a, cap, e, h1, h2, h3⟩ := h
  refine ⟨a, cap, e, h1, h2, ?_⟩
  rcases h3 with h3 | ⟨b, off, ea, h3⟩
  · exact .inl h3
  · refine .inr ⟨b, off, ea, fun i c hi => ?_⟩
    obtain ⟨u2, u3, u5, e0, e1, e2, e3, e4, r2, r3, r5⟩ := h3 i c hi
    have k : ∀ (p : Addr) (x : Value), w.cell? p = some x → w'.cell? p = some x := fun p x hp => (hb.cell (World.block_lt_of_cell? w _ hp)).trans hp
    exact ⟨u2, u3, u5, k _ _ e0, k _ _ e1, k _ _ e2, k _ _ e3, k _ _ e4, r2.below hb, r3.below hb, r5.below hb⟩

/-! ### From the reader's datum to these words -/
section
variable {H : Type} {enc : TypeId × Value → H} {w : World} {base : Nat} {held : Bool}
theorem rdInts_of_trod {n : Nat} {v : Value} {y : DataW H × List MemPlace} (h : DataW.trod enc Try.prog w base (fun _ => true) held n 22 [v] = some y) : ∃ xs, RdInts w v xs := by
  rcases open_ints Try.underlying22 Try.underlying3 (by kernel_rfl) h with ⟨hcs, _⟩ | ⟨x, l, c, zs, hcs, _, hl, hm, hz, _, hcell, hwz⟩
  · simp at hcs
    subst hcs
    exact ⟨[], none, 0, rfl, Nat.le_refl _, by simp [maxLen], .inl rfl⟩
  · simp at hcs
    subst hcs
    simp at hz
    have hlen : (zs.take l).length = l := by rw [List.length_take]; omega
    refine ⟨zs.take l, some x, c, by rw [hlen], by omega, hm, ?_⟩
    by_cases h0 : l = 0
    · exact .inl (by omega)
    · obtain ⟨b, off, spot⟩ := x
      have hc := hcell 0 (by omega)
      have hspot : spot = none := by simpa [Addr.add] using World.cell?_spot hc
      subst hspot
      refine .inr ⟨b, off, rfl, fun i hi => ?_⟩
      have := hcell i (by omega)
      rw [show (Addr.add ⟨b, off, none⟩ i) = ⟨b, off + i, none⟩ from by unfold Addr.add; split <;> simp_all] at this
      rw [this, List.getElem?_take_of_lt (by omega)]
      simp [List.getD]
theorem rdRows_of_trod {n : Nat} {v : Value} {y : DataW H × List MemPlace} (h : DataW.trod enc Try.prog w base (fun _ => true) held n 23 [v] = some y) : ∃ xs, RdRows w v xs := by
  rcases open_slice1 Try.underlying23 (by kernel_rfl) h with ⟨hcs, _⟩ | ⟨a, len, cap, m, k, V, D, Pl, hcs, hb, hl, hm, hmm, _, hx⟩
  · simp at hcs
    subst hcs
    exact ⟨[], none, 0, rfl, Nat.le_refl _, by simp [maxLen], .inl rfl⟩
  · simp at hcs hmm
    subst hcs hmm
    have each : ∀ r, r < m → ∃ xs, RdInts w (V r) xs := fun r hr => rdInts_of_trod (hx r hr).2
    obtain ⟨f, hf⟩ := choose_lt each
    have hlen : ((List.range len).map f).length = len := by simp
    refine ⟨(List.range len).map f, some a, m, by rw [hlen], by omega, hm, ?_⟩
    by_cases h0 : len = 0
    · exact .inl (by omega)
    · obtain ⟨b, off, spot⟩ := a
      have hc := (hx 0 (by omega)).1
      have hspot : spot = none := by simpa [Addr.add] using World.cell?_spot hc
      subst hspot
      refine .inr ⟨b, off, rfl, fun i hi => ?_⟩
      have hi' : i < len := by omega
      have := (hx i (by omega)).1
      rw [show (Addr.add ⟨b, off, none⟩ i) = ⟨b, off + i, none⟩ from by unfold Addr.add; split <;> simp_all] at this
      exact ⟨V i, this, by simpa [hi'] using hf i (by omega)⟩

/-- The cells of a struct whose fields take one cell each, field by field. -/
theorem cells_of_struct {P : Program} {n : Nat} {t : TypeId} {fs : Array Field} {cs : List Value} {y : DataW H × List MemPlace} {sp : Nat → Bool} (ht : P.underlying t = some (.struct fs)) (hone : oneCellFields P fs = true) (hC : P.cellsOf t = fs.size)
    (h : DataW.trod enc P w base sp held n t cs = some y) :
    cs.length = fs.size ∧ ∃ m, ∀ (j : Nat) (f : Field), fs[j]? = some f → ∃ v z, cs[j]? = some v ∧ DataW.trod enc P w base sp held m f.type [v] = some z := by
  obtain ⟨xs, m, _, _, hl, hx, hf⟩ := DataW.trod_struct ht h
  rw [hC] at hl
  refine ⟨hl, m, fun j f hj => ?_⟩
  have hjl : j < fs.size := (Array.getElem?_eq_some_iff.1 hj).1
  obtain ⟨ho, hk⟩ := hone_of hone j f hj
  have h1 := hf j f hj
  have hd : (cs.drop j).take 1 = [cs[j]'(by omega)] := by rw [List.drop_eq_getElem_cons (by omega)]; rfl
  rw [ho, hk, hd, List.getElem?_eq_getElem (by omega)] at h1
  exact ⟨_, _, List.getElem?_eq_getElem (by omega), h1⟩

theorem con_of_cells {n : Nat} {cs : List Value} {y : DataW H × List MemPlace} (h : DataW.trod enc Try.prog w base (fun _ => true) held n 25 cs = some y) :
    ∃ (c : Con) (u2 u3 u5 : Value), cs = [.int .i64 c.kind, u2, u3, .int .i64 c.bound, u5] ∧ RdInts w u2 c.vars ∧ RdInts w u3 c.args ∧ RdRows w u5 c.rows := by
  obtain ⟨hl, m, hf⟩ := cells_of_struct Try.underlying25 (by kernel_rfl) (by kernel_rfl) h
  obtain ⟨v0, z0, e0, r0⟩ := hf 0 _ rfl
  obtain ⟨v1, z1, e1, r1⟩ := hf 1 _ rfl
  obtain ⟨v2, z2, e2, r2⟩ := hf 2 _ rfl
  obtain ⟨v3, z3, e3, r3⟩ := hf 3 _ rfl
  obtain ⟨v4, z4, e4, r4⟩ := hf 4 _ rfl
  obtain ⟨k, q0, _, _⟩ := DataW.trod_int Try.underlying3 r0
  obtain ⟨b, q3, _, _⟩ := DataW.trod_int Try.underlying3 r3
  obtain ⟨vs, s1⟩ := rdInts_of_trod r1
  obtain ⟨ags, s2⟩ := rdInts_of_trod r2
  obtain ⟨rs, s4⟩ := rdRows_of_trod r4
  simp at q0 q3
  subst q0 q3
  refine ⟨⟨k, vs, ags, b, rs⟩, v1, v2, v4, ?_, s1, s2, s4⟩
  match cs, hl, e0, e1, e2, e3, e4 with
  | [c0, c1, c2, c3, c4], _, e0, e1, e2, e3, e4 => simp_all

set_option maxRecDepth 100000 in
theorem rdCon_of_trod {r : Reach} {b0 : Nat} {v : Value} {d : DataW H} {p : List MemPlace} (hv : Value.okWide Try.prog w r b0 25 v) (h : DataW.Trod enc Try.prog w base (fun _ => true) held 25 v d p) : ∃ c, RdCon w v c := by
  obtain ⟨cs, rfl, _⟩ := okWide_struct Try.underlying25 hv
  obtain ⟨n, hf⟩ := h
  obtain ⟨c, u2, u3, u5, e, h2, h3, h5⟩ := con_of_cells hf
  obtain ⟨l⟩ := cs
  simp [Value.cells] at e
  exact ⟨c, u2, u3, u5, by rw [e], h2, h3, h5⟩

set_option maxRecDepth 100000 in
theorem rdCons_of_trod {n : Nat} {v : Value} {y : DataW H × List MemPlace} (h : DataW.trod enc Try.prog w base (fun _ => true) held n 32 [v] = some y) : ∃ cs, RdCons w v cs := by
  have hC : Try.prog.cellsOf 25 = 5 := by kernel_rfl
  rcases open_slice Try.underlying32 h with ⟨hcs, _⟩ | ⟨a, len, cap, m, k, D, Pl, hcs, hb, hl, hm, hmm, _, hx⟩
  · simp at hcs
    subst hcs
    exact ⟨[], none, 0, rfl, Nat.le_refl _, by simp [maxLen], .inl rfl⟩
  · simp at hcs hmm
    subst hcs hmm
    have each : ∀ r, r < m → ∃ q : Con × Value × Value × Value, w.cells? base (a.add (r * 5)) 5 = some [.int .i64 q.1.kind, q.2.1, q.2.2.1, .int .i64 q.1.bound, q.2.2.2] ∧ RdInts w q.2.1 q.1.vars ∧ RdInts w q.2.2.1 q.1.args ∧ RdRows w q.2.2.2 q.1.rows := by
      intro r hr
      obtain ⟨cs', h1, h2⟩ := hx r hr
      obtain ⟨c, u2, u3, u5, e, g2, g3, g5⟩ := con_of_cells h2
      rw [hC, e] at h1
      exact ⟨(c, u2, u3, u5), h1, g2, g3, g5⟩
    have : Inhabited (Con × Value × Value × Value) := ⟨⟨0, [], [], 0, []⟩, undef, undef, undef⟩
    obtain ⟨f, hf⟩ := choose_lt each
    have hlen : ((List.range len).map fun r => (f r).1).length = len := by simp
    refine ⟨(List.range len).map fun r => (f r).1, some a, m, by rw [hlen], by omega, hm, ?_⟩
    by_cases h0 : len = 0
    · exact .inl (by omega)
    · obtain ⟨b, off, spot⟩ := a
      have hc := (World.cells?_some (hf 0 (by omega)).1).2.2 0 (by omega)
      have hspot : spot = none := by simpa [Addr.add] using World.cell?_spot (hc.trans (List.getElem?_cons_zero ..))
      subst hspot
      refine .inr ⟨b, off, rfl, fun i c hi => ?_⟩
      have hi' : i < len := by have := (List.getElem?_eq_some_iff.1 hi).1; simpa using this
      have ec : (f i).1 = c := by simpa [hi'] using hi
      obtain ⟨g1, g2, g3, g5⟩ := hf i (by omega)
      have hat := (World.cells?_some g1).2.2
      have ad : ∀ j, ((Addr.mk b off none).add (i * 5)).add j = ⟨b, off + 5 * i + j, none⟩ := fun j => by rw [addr_add, addr_add, show off + i * 5 + j = off + 5 * i + j from by omega]
      rw [← ec]
      exact ⟨_, _, _, by simpa [ad] using hat 0 (by omega), by simpa [ad] using hat 1 (by omega), by simpa [ad] using hat 2 (by omega), by simpa [ad] using hat 3 (by omega), by simpa [ad] using hat 4 (by omega), g2, g3, g5⟩
end
end Go.Proofs.Ytkmdkbnphmadpaa
