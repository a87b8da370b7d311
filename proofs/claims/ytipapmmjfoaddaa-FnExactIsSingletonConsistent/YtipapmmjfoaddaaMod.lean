/- Models: how they read; how large they are. The laws' own copy of a model, and its tests of equality. -/
import Derived.Test.YtipapmmjfoaddaaVcC

/-! Models: how they read; how large they are. -/
namespace Go.Proofs.Ytipapmmjfoaddaa
open Go.ChangeShapes Go.WideShapes Go.ChangeAt Go.RowKit Go.Deep
set_option linter.unusedVariables false
set_option linter.unusedSimpArgs false

/-- A model as plain data. -/
structure Mod where
  doms : List Int
  cons : List Con

/-- The value v is the model m. -/
def RdModel (w : World) (v : Value) (m : Mod) : Prop := ∃ u1 u2, v = .agg #[u1, u2] ∧ RdInts w u1 m.doms ∧ RdCons w u2 m.cons

theorem RdModel.below {w w' : World} {v : Value} {m : Mod} (h : RdModel w v m) (hb : Below w.heap.size w w') : RdModel w' v m := by
  obtain ⟨u1, u2, e, h1, h2⟩ := h
  exact ⟨u1, u2, e, h1.below hb, h2.below hb⟩

section
variable {H : Type} {enc : TypeId × Value → H} {w : World} {base : Nat} {held : Bool}
set_option maxRecDepth 100000 in
theorem rdModel_of_trod {r : Reach} {b0 : Nat} {v : Value} {d : DataW H} {p : List MemPlace} (hv : Value.okWide Try.prog w r b0 25 v) (h : DataW.Trod enc Try.prog w base (fun _ => true) held 25 v d p) : ∃ m, RdModel w v m := by
  obtain ⟨cs, rfl, _⟩ := okWide_struct Try.underlying25 hv
  obtain ⟨n, hf⟩ := h
  obtain ⟨hl, m, hf⟩ := cells_of_struct Try.underlying25 (by kernel_rfl) (by kernel_rfl) hf
  obtain ⟨v0, z0, e0, r0⟩ := hf 0 _ rfl
  obtain ⟨v1, z1, e1, r1⟩ := hf 1 _ rfl
  obtain ⟨ds, s0⟩ := rdInts_of_trod r0
  obtain ⟨cn, s1⟩ := rdCons_of_trod r1
  obtain ⟨l⟩ := cs
  refine ⟨⟨ds, cn⟩, v0, v1, ?_, s0, s1⟩
  match l, hl, e0, e1 with
  | [c0, c1], _, e0, e1 => simp_all [Value.cells]
set_option maxRecDepth 100000 in
theorem rdIntsArg_of_trod {r : Reach} {b0 : Nat} {v : Value} {d : DataW H} {p : List MemPlace} (hv : Value.okWide Try.prog w r b0 22 v) (h : DataW.Trod enc Try.prog w base (fun _ => true) held 22 v d p) : ∃ xs, RdInts w v xs := by
  obtain ⟨a0, len0, cap0, rfl⟩ := okWide_slice Try.underlying22 hv
  obtain ⟨n, hf⟩ := h
  exact rdInts_of_trod (by simpa [Value.cells] using hf)
end

/-- An element of a list of constraints, loaded. -/
theorem rdCons_at {w : World} {a : Option Addr} {n cap : Nat} {cs : List Con} (h : RdCons w (.slice a n cap) cs) {i : Nat} (hi : i < n) : ∃ (b off : Nat) (c : Con) (a2 a3 a5 : Option Addr) (c2 c3 c5 : Nat), a = some ⟨b, off, none⟩ ∧ cs[i]? = some c ∧
    w.cell? ⟨b, off + i * 5, none⟩ = some (.int .i64 c.kind) ∧ w.cell? ⟨b, off + i * 5 + 1, none⟩ = some (.slice a2 c.vars.length c2) ∧ w.cell? ⟨b, off + i * 5 + 2, none⟩ = some (.slice a3 c.args.length c3) ∧ w.cell? ⟨b, off + i * 5 + 3, none⟩ = some (.int .i64 c.bound) ∧ w.cell? ⟨b, off + i * 5 + 4, none⟩ = some (.slice a5 c.rows.length c5) ∧
    RdCon w (.agg #[.int .i64 c.kind, .slice a2 c.vars.length c2, .slice a3 c.args.length c3, .int .i64 c.bound, .slice a5 c.rows.length c5]) c := by
  obtain ⟨a', cap', e, h1, h2, h3⟩ := h
  simp at e
  obtain ⟨rfl, rfl, rfl⟩ := e
  rcases h3 with h3 | ⟨b, off, rfl, h3⟩
  · omega
  · have hc : cs[i]? = some cs[i] := List.getElem?_eq_getElem hi
    obtain ⟨u2, u3, u5, k0, k1, k2, k3, k4, r2, r3, r5⟩ := h3 i _ hc
    rw [Nat.mul_comm 5 i] at k0 k1 k2 k3 k4
    have g2 := r2; have g3 := r3; have g5 := r5
    obtain ⟨a2, c2, rfl, _⟩ := g2
    obtain ⟨a3, c3, rfl, _⟩ := g3
    obtain ⟨a5, c5, rfl, _⟩ := g5
    exact ⟨b, off, cs[i], a2, a3, a5, c2, c3, c5, rfl, hc, k0, k1, k2, k3, k4, _, _, _, rfl, r2, r3, r5⟩

/-- No more than L constraints, each no larger than L. -/
def ConsLe (cs : List Con) (L : Nat) : Prop := cs.length ≤ L ∧ ∀ (j : Nat) (c : Con), cs[j]? = some c → ConLe c L
def ModLe (m : Mod) (L : Nat) : Prop := m.doms.length ≤ L ∧ ConsLe m.cons L
theorem ConLe.mono {c : Con} {a b : Nat} (h : ConLe c a) (hab : a ≤ b) : ConLe c b := ⟨Nat.le_trans h.1 hab, Nat.le_trans h.2.1 hab, h.2.2.mono hab⟩

set_option maxRecDepth 100000 in
set_option maxHeartbeats 2000000 in
theorem szConstraintS_any (v : Value) (cs : List Con) (left : Int) (w : World) (h : RdCons w v cs) (h0 : 0 ≤ left) (h1 : left ≤ 1048576) :
    Calls Try.prog 23 #[v, .int .i64 left] w (SzPostB left (ConsLe cs left.toNat) w) := by
  have HC := Lib.hid h
  obtain ⟨a, cap, ev, hl, hm, _⟩ := h
  rw [ev] at HC ⊢
  obtain ⟨n, hn⟩ : ∃ n, n = cs.length := ⟨_, rfl⟩
  have HN := Lib.hid hn
  rw [← hn] at hl HC ⊢
  clear hn ev
  unfold maxLen at hm
  by_cases hneg : left - (n : Int) < 0
  · go_enter Try.func23, Try.ntmps23
    go_wp2
    go_ret
    exact ⟨-1, rfl, by omega, by omega, fun h => by omega, Below.refl _ _⟩
  · go_enter Try.func23, Try.ntmps23
    go_wp2
    go_loopw [1, 5] (fun q i wr => ∃ (k : Nat) (l : Int), k ≤ n ∧ i = .int .i64 k ∧ q = .int .i64 l ∧ 0 ≤ l ∧ l ≤ left ∧ Hid (∀ (j : Nat) (c : Con), j < k → cs[j]? = some c → ConLe c left.toNat) ∧ Below w.heap.size w wr) (fun _ i _ => n - (intOf i).toNat)
    case atStart => exact ⟨0, left - n, Nat.zero_le _, rfl, rfl, by omega, by omega, fun j c hj => by omega, Below.refl _ _⟩
    case round =>
      obtain ⟨k, l, hk, rfl, rfl, hl0, hl1, HE, hbel⟩ := hrel
      by_cases hlt : k < n
      · obtain ⟨b, off, c, a2, a3, a5, c2, c3, c5, rfl, hck, k0, k1, k2, k3, k4, hr⟩ := rdCons_at (HC.out.below hbel) hlt
        have HCK := Lib.hid hck
        have HR := Lib.hid hr
        clear hck hr
        go_wp2_with fail
        refine (szConstraint_any _ c l _ HR.out hl0 (by omega)).mono ?_
        rintro e w' ⟨r, rfl, hr1, hr2, hr3, hb2⟩
        have HB2 := Lib.hid (hbel.trans (hb2.mono hbel.size))
        have HR3 := Lib.hid hr3
        clear hr3 hb2 k0 k1 k2 k3 k4
        by_cases hr : r < 0
        · go_wp2
          go_ret
          exact ⟨-1, rfl, by omega, by omega, fun h => by omega, HB2.out⟩
        · go_wp2
          go_roundw
          case rel => exact ⟨k + 1, r, by omega, by go_num, rfl, by omega, by omega, fun j c' hj hc => by by_cases e : j = k; (· subst e; rw [HCK.out] at hc; rw [← Option.some.inj hc]; exact (HR3.out (by omega)).mono (by omega)); (· exact HE.out j c' (by omega) hc), HB2.out⟩
          case measure => simp [intOf]; omega
      · obtain rfl : k = n := by omega
        go_wp2
        go_ret
        exact ⟨l, rfl, by omega, by omega, fun _ => ⟨by have := HN.out; omega, fun j c hj => HE.out j c (by have := HN.out; have := (List.getElem?_eq_some_iff.1 hj).1; omega) hj⟩, hbel⟩

/-- A block of two cells. -/
def Blk2 (w : World) (b : Nat) (t : TypeId) (u0 u1 : Value) : Prop := w.heap[b]? = some (.cells #[u0, u1] t (0, 0))
section
variable {w w' : World} {b : Nat} {t : TypeId} {u0 u1 : Value}
theorem Blk2.cell (h : Blk2 w b t u0 u1) : w.cell? ⟨b, 0, none⟩ = some u0 ∧ w.cell? ⟨b, 1, none⟩ = some u1 := by
  simp [World.cell?, show w.heap[b]? = _ from h]
theorem Blk2.frozen (h : Blk2 w b t u0 u1) : w.frozen? ⟨b, 0, none⟩ = false ∧ w.frozen? ⟨b, 1, none⟩ = false := by
  simp [World.frozen?, show w.heap[b]? = _ from h]
theorem Blk2.lt (h : Blk2 w b t u0 u1) : b < w.heap.size := (Array.getElem?_eq_some_iff.1 h).1
theorem Blk2.below (h : Blk2 w b t u0 u1) (hb : Below w.heap.size w w') : Blk2 w' b t u0 u1 := (hb.block b h.lt).trans h
theorem Blk2.other (h : Blk2 w b t u0 u1) {p : Addr} (hp : p.block ≠ b) (u : Value) : Blk2 (w.setCell p u) b t u0 u1 := (Below.heap_setCell w p u b (Ne.symm hp)).trans h
theorem Blk2.set (h : Blk2 w b t u0 u1) (j : Nat) (u : Value) : (w.setCell ⟨b, j, none⟩ u).heap[b]? = some (.cells (#[u0, u1].setIfInBounds j u) t (0, 0)) := by
  obtain ⟨hlt, hk⟩ := Array.getElem?_eq_some_iff.1 h
  show (w.heap.modify b _)[b]? = _
  rw [Array.getElem?_eq_getElem (by rw [Array.size_modify]; exact hlt), Array.getElem_modify_self, hk]
  rfl
theorem Blk2.new (w : World) (t : TypeId) (u0 u1 : Value) : Blk2 (w.alloc (.cells #[u0, u1] t)) w.heap.size t u0 u1 := World.alloc_heap_new w _
theorem Blk2.alloc (h : Blk2 w b t u0 u1) (o : Obj) : Blk2 (w.alloc o) b t u0 u1 := (Below.heap_alloc w o b h.lt).trans h
theorem Blk2.drew (h : Blk2 w b t u0 u1) : Blk2 w.drew b t u0 u1 := h
end
theorem RdInts.drew {w : World} {v : Value} {xs : List Int} (h : RdInts w v xs) : RdInts w.drew v xs := h
theorem RdCons.drew {w : World} {v : Value} {xs : List Con} (h : RdCons w v xs) : RdCons w.drew v xs := h
theorem RdModel.drew {w : World} {v : Value} {m : Mod} (h : RdModel w v m) : RdModel w.drew v m := h

theorem rdModel_slices {w : World} {v : Value} {m : Mod} (h : RdModel w v m) : ∃ a1 a2 c1 c2, v = .agg #[.slice a1 m.doms.length c1, .slice a2 m.cons.length c2] ∧ RdInts w (.slice a1 m.doms.length c1) m.doms ∧ RdCons w (.slice a2 m.cons.length c2) m.cons := by
  obtain ⟨u1, u2, rfl, h1, h2⟩ := h
  have g1 := h1; have g2 := h2
  obtain ⟨a1, c1, rfl, _⟩ := g1
  obtain ⟨a2, c2, rfl, _⟩ := g2
  exact ⟨a1, a2, c1, c2, rfl, h1, h2⟩

set_option maxRecDepth 100000 in
set_option maxHeartbeats 2000000 in
theorem szModel_any (v : Value) (m : Mod) (left : Int) (w : World) (h : RdModel w v m) (h0 : 0 ≤ left) (h1 : left ≤ 1048576) :
    Calls Try.prog 6 #[v, .int .i64 left] w (SzPostB left (ModLe m left.toNat) w) := by
  obtain ⟨a1, a2, c1, c2, rfl, g1, g2⟩ := rdModel_slices h
  have hB : Below w.heap.size w (w.alloc (.cells #[.slice a1 m.doms.length c1, .slice a2 m.cons.length c2] 25)) := (Below.refl _ _).alloc (Nat.le_refl _) _
  have H1 := Lib.hid (g1.below hB)
  have H2 := Lib.hid (g2.below hB)
  have HB := Lib.hid hB
  clear h g1 g2 hB
  go_enter Try.func6, Try.ntmps6
  go_wp2_with fail
  refine (szIntS_any _ m.doms left _ H1.out h0 h1).mono ?_
  rintro e w' ⟨r1, rfl, q1, q2, q3, rfl⟩
  have Q3 := Lib.hid q3
  clear q3
  by_cases hr1 : r1 < 0
  · go_wp2
    go_ret
    exact ⟨-1, rfl, by omega, by omega, fun h => by omega, HB.out⟩
  go_wp2_with fail
  refine (szConstraintS_any _ m.cons r1 _ H2.out (by omega) (by omega)).mono ?_
  rintro e w' ⟨r2, rfl, p1, p2, p3, b2⟩
  have P3 := Lib.hid p3
  have HB2 := Lib.hid (HB.out.trans (b2.mono HB.out.size))
  clear p3 b2
  by_cases hr2 : r2 < 0
  · go_wp2
    go_ret
    exact ⟨-1, rfl, by omega, by omega, fun h => by omega, HB2.out⟩
  go_wp2
  go_ret
  refine ⟨r2, rfl, by omega, by omega, fun _ => ⟨?_, ?_, fun j c hc => ?_⟩, HB2.out⟩
  · have := Q3.out (by omega); omega
  · have := (P3.out (by omega)).1; omega
  · exact ((P3.out (by omega)).2 j c hc).mono (by omega)

/-! ### The copy of a list of constraints -/
theorem RowsAbove.below {B : Nat} {w w' : World} {v : Value} {rows : List (List Int)} (h : RowsAbove B w v) (hr : RdRows w v rows) (hb : Below w.heap.size w w') : RowsAbove B w' v := by
  intro b off n c e
  obtain ⟨g1, g2⟩ := h b off n c e
  refine ⟨g1, fun i u hi hu => g2 i u hi ?_⟩
  obtain ⟨a, cap, ev, _, _, h3⟩ := hr
  rw [e] at ev
  simp at ev
  obtain ⟨rfl, rfl, rfl⟩ := ev
  rcases h3 with h3 | ⟨b', off', e', h3⟩
  · omega
  · simp at e'
    obtain ⟨rfl, rfl⟩ := e'
    obtain ⟨x, hx, _⟩ := h3 i hi
    rw [(hb.cell (World.block_lt_of_cell? w _ hx))] at hu
    exact hu

/-- The value v is the constraint c, in blocks from B on. -/
def ConIn (B : Nat) (w : World) (v : Value) (c : Con) : Prop := RdCon w v c ∧ ConUn w v ∧ ConAbove B w v
theorem ConUn.below {w w' : World} {v : Value} {c : Con} (h : ConUn w v) (h1 : RdCon w v c) (hb : Below w.heap.size w w') : ConUn w' v := by
  obtain ⟨kind, bound, s2, n2, c2, s3, n3, c3, s5, n5, c5, e, l2, f2, l3, f3, l5⟩ := h
  obtain ⟨u2, u3, u5, e', r2, r3, r5⟩ := h1
  rw [e] at e'
  simp at e'
  obtain ⟨rfl, rfl, rfl, rfl, rfl⟩ := e'
  exact ⟨_, _, s2, n2, c2, s3, n3, c3, s5, n5, c5, e, Nat.lt_of_lt_of_le l2 hb.size, fun k => (frozen_below hb l2 k).trans (f2 k), Nat.lt_of_lt_of_le l3 hb.size, fun k => (frozen_below hb l3 k).trans (f3 k), l5.below r5 hb⟩
theorem ConUn.setCell {B : Nat} {w : World} {v : Value} (h : ConUn w v) (hA : ConAbove B w v) {p : Addr} (hp : p.block < B) (u : Value) : ConUn (w.setCell p u) v := by
  obtain ⟨kind, bound, s2, n2, c2, s3, n3, c3, s5, n5, c5, e, l2, f2, l3, f3, l5⟩ := h
  obtain ⟨kind', bound', s2', n2', c2', s3', n3', c3', s5', n5', c5', e', m2, m3, m5⟩ := hA
  rw [e] at e'
  simp at e'
  obtain ⟨rfl, ⟨rfl, rfl, rfl⟩, ⟨rfl, rfl, rfl⟩, rfl, rfl, rfl, rfl⟩ := e'
  exact ⟨_, _, s2, n2, c2, s3, n3, c3, s5, n5, c5, e, by simpa using l2, fun k => (frozen_set _ _ _ _).trans (f2 k), by simpa using l3, fun k => (frozen_set _ _ _ _).trans (f3 k), l5.setCell m5 hp u⟩
theorem ConIn.below {B : Nat} {w w' : World} {v : Value} {c : Con} (h : ConIn B w v c) (hb : Below w.heap.size w w') : ConIn B w' v c := by
  obtain ⟨h1, hu, kind, bound, s2, n2, c2, s3, n3, c3, s5, n5, c5, e, l2, l3, l5⟩ := h
  refine ⟨h1.below hb, hu.below h1 hb, kind, bound, s2, n2, c2, s3, n3, c3, s5, n5, c5, e, l2, l3, ?_⟩
  obtain ⟨u2, u3, u5, e', r2, r3, r5⟩ := h1
  rw [e] at e'
  simp at e'
  obtain ⟨rfl, rfl, rfl, rfl, rfl⟩ := e'
  exact l5.below r5 hb
theorem ConIn.setCell {B : Nat} {w : World} {v : Value} {c : Con} (h : ConIn B w v c) {p : Addr} (hp : p.block < B) (u : Value) : ConIn B (w.setCell p u) v c := by
  obtain ⟨h1, hu, kind, bound, s2, n2, c2, s3, n3, c3, s5, n5, c5, e, l2, l3, l5⟩ := h
  have hu' := hu.setCell ⟨kind, bound, s2, n2, c2, s3, n3, c3, s5, n5, c5, e, l2, l3, l5⟩ hp u
  obtain ⟨u2, u3, u5, e', r2, r3, r5⟩ := h1
  rw [e] at e'
  simp at e'
  obtain ⟨rfl, rfl, rfl, rfl, rfl⟩ := e'
  have t := r5.setCell l5 hp u
  exact ⟨⟨_, _, _, e, r2.setCell (by omega) u, r3.setCell (by omega) u, t.1⟩, hu', _, _, _, _, _, _, _, _, _, _, _, e, l2, l3, t.2⟩
theorem ConIn.mono {B B' : Nat} {w : World} {v : Value} {c : Con} (h : ConIn B w v c) (hb : B' ≤ B) : ConIn B' w v c := by
  obtain ⟨h1, hu, kind, bound, s2, n2, c2, s3, n3, c3, s5, n5, c5, e, l2, l3, l5⟩ := h
  exact ⟨h1, hu, kind, bound, s2, n2, c2, s3, n3, c3, s5, n5, c5, e, Nat.le_trans hb l2, Nat.le_trans hb l3, l5.mono hb⟩

/-- The first k constraints of cs lie in the cells vs, five to each. -/
def ConCells (cs : List Con) (B k : Nat) (vs : List Value) (w : World) : Prop :=
  vs.length = cs.length * 5 ∧ ∀ (j : Nat) (c : Con), j < k → cs[j]? = some c → ∃ u2 u3 u5, vs[j * 5]? = some (.int .i64 c.kind) ∧ vs[j * 5 + 1]? = some u2 ∧ vs[j * 5 + 2]? = some u3 ∧ vs[j * 5 + 3]? = some (.int .i64 c.bound) ∧ vs[j * 5 + 4]? = some u5 ∧ ConIn B w (.agg #[.int .i64 c.kind, u2, u3, .int .i64 c.bound, u5]) c
theorem ConCells.below {cs : List Con} {B k : Nat} {vs : List Value} {w w' : World} (h : ConCells cs B k vs w) (hb : Below w.heap.size w w') : ConCells cs B k vs w' := by
  refine ⟨h.1, fun j c hj hc => ?_⟩
  obtain ⟨u2, u3, u5, e0, e1, e2, e3, e4, hi⟩ := h.2 j c hj hc
  exact ⟨u2, u3, u5, e0, e1, e2, e3, e4, hi.below hb⟩
theorem ConCells.setCell {cs : List Con} {B k : Nat} {vs : List Value} {w : World} (h : ConCells cs B k vs w) {p : Addr} (hp : p.block < B) (u : Value) : ConCells cs B k vs (w.setCell p u) := by
  refine ⟨h.1, fun j c hj hc => ?_⟩
  obtain ⟨u2, u3, u5, e0, e1, e2, e3, e4, hi⟩ := h.2 j c hj hc
  exact ⟨u2, u3, u5, e0, e1, e2, e3, e4, hi.setCell hp u⟩
/-- Five cells set. -/
def set5 (vs : List Value) (p : Nat) (u0 u1 u2 u3 u4 : Value) : List Value := ((((vs.set p u0).set (p + 1) u1).set (p + 2) u2).set (p + 3) u3).set (p + 4) u4
theorem set5_other (vs : List Value) (p q : Nat) (u0 u1 u2 u3 u4 : Value) (h : q < p ∨ p + 4 < q) : (set5 vs p u0 u1 u2 u3 u4)[q]? = vs[q]? := by
  unfold set5
  rw [List.getElem?_set_ne (by omega), List.getElem?_set_ne (by omega), List.getElem?_set_ne (by omega), List.getElem?_set_ne (by omega), List.getElem?_set_ne (by omega)]
theorem set5_at (vs : List Value) (p : Nat) (u0 u1 u2 u3 u4 : Value) (h : p + 4 < vs.length) : (set5 vs p u0 u1 u2 u3 u4)[p]? = some u0 ∧ (set5 vs p u0 u1 u2 u3 u4)[p + 1]? = some u1 ∧ (set5 vs p u0 u1 u2 u3 u4)[p + 2]? = some u2 ∧ (set5 vs p u0 u1 u2 u3 u4)[p + 3]? = some u3 ∧ (set5 vs p u0 u1 u2 u3 u4)[p + 4]? = some u4 := by
  unfold set5
  refine ⟨?_, ?_, ?_, ?_, ?_⟩ <;> simp [List.getElem?_set, List.length_set] <;> omega
theorem set5_length (vs : List Value) (p : Nat) (u0 u1 u2 u3 u4 : Value) : (set5 vs p u0 u1 u2 u3 u4).length = vs.length := by simp [set5]
theorem ConCells.step {cs : List Con} {B k : Nat} {vs : List Value} {w : World} (h : ConCells cs B k vs w) {c : Con} (hc : cs[k]? = some c) {u2 u3 u5 : Value} (hr : ConIn B w (.agg #[.int .i64 c.kind, u2, u3, .int .i64 c.bound, u5]) c) :
    ConCells cs B (k + 1) (set5 vs (k * 5) (.int .i64 c.kind) u2 u3 (.int .i64 c.bound) u5) w := by
  obtain ⟨h1, h2⟩ := h
  have hk : k < cs.length := (List.getElem?_eq_some_iff.1 hc).1
  refine ⟨by rw [set5_length]; exact h1, fun j c' hj hc' => ?_⟩
  by_cases e : j = k
  · subst e
    rw [hc] at hc'
    obtain rfl := Option.some.inj hc'
    obtain ⟨e0, e1, e2, e3, e4⟩ := set5_at vs (j * 5) (.int .i64 c.kind) u2 u3 (.int .i64 c.bound) u5 (by omega)
    exact ⟨u2, u3, u5, e0, e1, e2, e3, e4, hr⟩
  · obtain ⟨v2, v3, v5, e0, e1, e2, e3, e4, hi⟩ := h2 j c' (by omega) hc'
    refine ⟨v2, v3, v5, ?_, ?_, ?_, ?_, ?_, hi⟩ <;> rw [set5_other _ _ _ _ _ _ _ _ (by omega)] <;> assumption

/-- A list of constraints in blocks from B on. -/
def ConsIn (B : Nat) (w : World) (v : Value) (cs : List Con) : Prop :=
  ∃ g, v = .slice (some ⟨g, 0, none⟩) cs.length cs.length ∧ B ≤ g ∧ (cs.length ≤ maxLen ∧ ∀ k, w.frozen? ⟨g, k, none⟩ = false) ∧ ∀ (j : Nat) (c : Con), cs[j]? = some c → ∃ u2 u3 u5, w.cell? ⟨g, j * 5, none⟩ = some (.int .i64 c.kind) ∧ w.cell? ⟨g, j * 5 + 1, none⟩ = some u2 ∧ w.cell? ⟨g, j * 5 + 2, none⟩ = some u3 ∧ w.cell? ⟨g, j * 5 + 3, none⟩ = some (.int .i64 c.bound) ∧ w.cell? ⟨g, j * 5 + 4, none⟩ = some u5 ∧ ConIn B w (.agg #[.int .i64 c.kind, u2, u3, .int .i64 c.bound, u5]) c
theorem ConsIn.rd {B : Nat} {w : World} {v : Value} {cs : List Con} (h : ConsIn B w v cs) : RdCons w v cs := by
  obtain ⟨g, e, _, hm, h⟩ := h
  refine ⟨some ⟨g, 0, none⟩, cs.length, e, Nat.le_refl _, hm.1, .inr ⟨g, 0, rfl, fun i c hc => ?_⟩⟩
  obtain ⟨u2, u3, u5, e0, e1, e2, e3, e4, ⟨x2, x3, x5, ex, r2, r3, r5⟩, _⟩ := h i c hc
  simp at ex
  obtain ⟨rfl, rfl, rfl⟩ := ex
  rw [Nat.zero_add, Nat.mul_comm 5 i]
  exact ⟨_, _, _, e0, e1, e2, e3, e4, r2, r3, r5⟩
theorem ConsIn.below {B : Nat} {w w' : World} {v : Value} {cs : List Con} (h : ConsIn B w v cs) (hb : Below w.heap.size w w') (hg : ∀ g n c, v = .slice (some ⟨g, 0, none⟩) n c → g < w.heap.size) : ConsIn B w' v cs := by
  obtain ⟨g, e, hB, hm, h⟩ := h
  refine ⟨g, e, hB, ⟨hm.1, fun k => (frozen_below hb (hg g _ _ e) k).trans (hm.2 k)⟩, fun i c hc => ?_⟩
  obtain ⟨u2, u3, u5, e0, e1, e2, e3, e4, hi⟩ := h i c hc
  have k : ∀ (p : Addr) (x : Value), w.cell? p = some x → w'.cell? p = some x := fun p x hp => (hb.cell (World.block_lt_of_cell? w _ hp)).trans hp
  exact ⟨u2, u3, u5, k _ _ e0, k _ _ e1, k _ _ e2, k _ _ e3, k _ _ e4, hi.below hb⟩
theorem ConsIn.setCell {B : Nat} {w : World} {v : Value} {cs : List Con} (h : ConsIn B w v cs) {p : Addr} (hp : p.block < B) (u : Value) : ConsIn B (w.setCell p u) v cs := by
  obtain ⟨g, e, hg, hm, h⟩ := h
  refine ⟨g, e, hg, ⟨hm.1, fun k => (frozen_set _ _ _ _).trans (hm.2 k)⟩, fun i c hc => ?_⟩
  obtain ⟨u2, u3, u5, e0, e1, e2, e3, e4, hi⟩ := h i c hc
  refine ⟨u2, u3, u5, ?_, ?_, ?_, ?_, ?_, hi.setCell hp u⟩ <;> rw [cell_other (by show p.block ≠ g; omega)] <;> assumption

/-- What toConstraintS leaves. -/
def CopyConsPost (cs : List Con) (w : World) (e : Ending) (w' : World) : Prop :=
  e = .returned (.slice (some ⟨w.heap.size, 0, none⟩) cs.length cs.length) ∧ ConsIn w.heap.size w' (.slice (some ⟨w.heap.size, 0, none⟩) cs.length cs.length) cs ∧ Below w.heap.size w w' ∧ w.heap.size < w'.heap.size

theorem Try.infoCon : (Try.prog.info? 82).map (fun i => (i.zero, i.size, i.bytes)) = some (some (.agg #[.int .i64 0, .slice none 0 0, .slice none 0 0, .int .i64 0, .slice none 0 0]), 5, 88) := by kernel_rfl

set_option maxRecDepth 100000 in
set_option maxHeartbeats 4000000 in
theorem toConstraintS_any (v : Value) (cs : List Con) (w : World) (h : RdCons w v cs) (hx : ConsLe cs 1048576) :
    Calls Try.prog 29 #[v] w (CopyConsPost cs w) := by
  have HC := Lib.hid h
  obtain ⟨a, cap, ev, hl, hm, _⟩ := h
  unfold CopyConsPost
  obtain ⟨hx1, hx2⟩ := hx
  obtain ⟨n, hn⟩ : ∃ n, n = cs.length := ⟨_, rfl⟩
  have HN := Lib.hid hn
  have HX := Lib.hid hx2
  rw [ev] at HC ⊢
  rw [← hn] at hl hx1 HC ⊢
  clear hn hx2 ev
  unfold maxLen at hm
  obtain ⟨i0, hi, hz0, hz1, hz2⟩ := info_parts Try.infoCon
  go_enter Try.func29, Try.ntmps29
  go_wp2_with (at_make; refine wpList_make_full _ rfl _ _ 28 rfl w.heap.size 82 i0 (.agg #[.int .i64 0, .slice none 0 0, .slice none 0 0, .int .i64 0, .slice none 0 0]) 5 Try.underlying28 hi hz0 hz1 .i64 .i64 _ _ n rfl rfl rfl rfl (by rw [hz2]; omega) (by unfold maxLen; omega) (Nat.le_refl _) ?_; intro w1 hown hgrow)
  have hb1 := below_of_grown hgrow
  have hsz1 : w.heap.size < w1.heap.size := by
    rcases hown.2 with ⟨e, _⟩ | ⟨g, c, cur, e, _, hg, _⟩
    · simp at e
    · simp at e; obtain ⟨rfl, rfl⟩ := e; exact (Array.getElem?_eq_some_iff.1 hg).1
  obtain ⟨vs0, hvs0⟩ : ∃ vs0, vs0 = (madeCells (Value.cells (.agg #[.int .i64 0, .slice none 0 0, .slice none 0 0, .int .i64 0, .slice none 0 0])) (n * 5)).toList := ⟨_, rfl⟩
  rw [← hvs0] at hown
  have HO := Lib.hid hown
  have HV : Hid (ConCells cs (w.heap.size + 1) 0 vs0 w1) := Lib.hid ⟨by rw [hown.1, HN.out], fun j c hj => by omega⟩
  clear hown hgrow hvs0
  go_wp2_with fail
  go_loopw [4] (fun i wr => ∃ (k : Nat) (vs : List Value), k ≤ n ∧ i = .int .i64 k ∧ Hid (wr.ownsRow w.heap.size 82 5 (.slice (some ⟨w.heap.size, 0, none⟩) n n) n vs) ∧ Hid (ConCells cs (w.heap.size + 1) k vs wr) ∧ Below w.heap.size w wr ∧ w.heap.size < wr.heap.size) (fun i _ => n - (intOf i).toNat)
  case atStart => exact ⟨0, _, Nat.zero_le _, rfl, HO, HV, hb1, hsz1⟩
  case round =>
    obtain ⟨k, vs, hk, rfl, HR, HV, hbel, hsz⟩ := hrel
    by_cases hlt : k < n
    · obtain ⟨b, off, c, a2, a3, a5, c2, c3, c5, rfl, hck, k0, k1, k2, k3, k4, hr⟩ := rdCons_at (HC.out.below hbel) hlt
      have HCK := Lib.hid hck
      have HRC := Lib.hid hr
      clear hck hr
      go_wp2_with fail
      refine (toConstraint_full _ c wr HRC.out (HX.out k c HCK.out)).mono ?_
      rintro e w2 ⟨v2, rfl, hrd, hb2, hab, hun⟩
      have hin : ConIn (w.heap.size + 1) w2 v2 c := ConIn.mono ⟨hrd, hun, hab⟩ (by omega)
      obtain ⟨x2, x3, x5, y2, y3, y5, ex, _⟩ := rdCon_slices hrd
      subst ex
      have HIN := Lib.hid hin
      have HR2 := Lib.hid (World.ownsRow.kept HR.out (show wr.grownBy w2 none from ⟨hb2.os, hb2.tape, hb2.output, hb2.size, fun q hq _ => hb2.block q hq⟩) (.inr (by simp [Value.ownBlock])))
      have HV2 := Lib.hid (HV.out.below hb2)
      have hb3 : Below w.heap.size w w2 := hbel.trans (hb2.mono hbel.size)
      have hs3 : w.heap.size < w2.heap.size := by have := hb2.size; omega
      clear hrd hab hun hin hb2 hbel HR HV HRC k0 k1 k2 k3 k4
      have hvl : vs.length = n * 5 := HR2.out.1
      have d0 : w2.cell? ⟨w.heap.size, k * 5, none⟩ = some (vs[k * 5]'(by omega)) := by rw [HR2.out.cellAt _ (by omega)]; exact List.getElem?_eq_getElem _
      have d1 : w2.cell? ⟨w.heap.size, k * 5 + 1, none⟩ = some (vs[k * 5 + 1]'(by omega)) := by rw [HR2.out.cellAt _ (by omega)]; exact List.getElem?_eq_getElem _
      have d2 : w2.cell? ⟨w.heap.size, k * 5 + 2, none⟩ = some (vs[k * 5 + 2]'(by omega)) := by rw [HR2.out.cellAt _ (by omega)]; exact List.getElem?_eq_getElem _
      have d3 : w2.cell? ⟨w.heap.size, k * 5 + 3, none⟩ = some (vs[k * 5 + 3]'(by omega)) := by rw [HR2.out.cellAt _ (by omega)]; exact List.getElem?_eq_getElem _
      have d4 : w2.cell? ⟨w.heap.size, k * 5 + 4, none⟩ = some (vs[k * 5 + 4]'(by omega)) := by rw [HR2.out.cellAt _ (by omega)]; exact List.getElem?_eq_getElem _
      have f0 := HR2.out.frozenAt (k * 5)
      have f1 := HR2.out.frozenAt (k * 5 + 1)
      have f2 := HR2.out.frozenAt (k * 5 + 2)
      have f3 := HR2.out.frozenAt (k * 5 + 3)
      have f4 := HR2.out.frozenAt (k * 5 + 4)
      go_wp2
      go_roundw
      case rel =>
        refine ⟨k + 1, set5 vs (k * 5) (.int .i64 c.kind) (.slice x2 c.vars.length y2) (.slice x3 c.args.length y3) (.int .i64 c.bound) (.slice x5 c.rows.length y5), by omega, by go_num, Lib.hid ?_, Lib.hid ?_, ?_, by simpa using hs3⟩
        · have t0 := (HR2.out.stored (k * 5) (.int .i64 c.kind)).1
          have t1 := (t0.stored (k * 5 + 1) (.slice x2 c.vars.length y2)).1
          have t2 := (t1.stored (k * 5 + 2) (.slice x3 c.args.length y3)).1
          have t3 := (t2.stored (k * 5 + 3) (.int .i64 c.bound)).1
          exact (t3.stored (k * 5 + 4) (.slice x5 c.rows.length y5)).1
        · have t := HV2.out.step HCK.out HIN.out
          have hp : ∀ j : Nat, (⟨w.heap.size, j, none⟩ : Addr).block < w.heap.size + 1 := fun j => Nat.lt_succ_self _
          exact ((((t.setCell (hp _) _).setCell (hp _) _).setCell (hp _) _).setCell (hp _) _).setCell (hp _) _
        · have hp : ∀ j : Nat, w.heap.size ≤ (⟨w.heap.size, j, none⟩ : Addr).block := fun j => Nat.le_refl _
          exact ((((hb3.setCell (hp _) _).setCell (hp _) _).setCell (hp _) _).setCell (hp _) _).setCell (hp _) _
      case measure => simp [intOf]; omega
    · obtain rfl : k = n := by omega
      have HF : Hid (ConsIn w.heap.size wr (.slice (some ⟨w.heap.size, 0, none⟩) k k) cs) := Lib.hid (by
        have hn := HN.out
        refine ⟨w.heap.size, by rw [hn], Nat.le_refl _, ⟨by unfold maxLen; omega, fun i => HR.out.frozenAt i⟩, fun j c hc => ?_⟩
        have hj : j < cs.length := (List.getElem?_eq_some_iff.1 hc).1
        obtain ⟨u2, u3, u5, e0, e1, e2, e3, e4, hi⟩ := HV.out.2 j c (by omega) hc
        refine ⟨u2, u3, u5, ?_, ?_, ?_, ?_, ?_, hi.mono (by omega)⟩ <;> rw [HR.out.cellAt _ (by omega)] <;> assumption)
      clear HC
      go_wp2
      go_ret
      exact ⟨rfl, HF.out, hbel, hsz⟩
end Go.Proofs.Ytipapmmjfoaddaa

/-! The laws' own copy of a model, and its tests of equality. -/
namespace Go.Proofs.Ytipapmmjfoaddaa
open Go.ChangeShapes Go.WideShapes Go.ChangeAt Go.RowKit
set_option linter.unusedVariables false
set_option linter.unusedSimpArgs false

theorem RdCons.drewN' {w : World} {v : Value} {xs : List Con} (h : RdCons w v xs) (k : Nat) : RdCons (w.drewN k) v xs := h

theorem consIn_mono {B B' : Nat} {w : World} {v : Value} {cs : List Con} (h : ConsIn B w v cs) (hb : B' ≤ B) : ConsIn B' w v cs := by
  obtain ⟨g, e, hB, hm, h⟩ := h
  refine ⟨g, e, by omega, hm, fun i c hc => ?_⟩
  obtain ⟨u2, u3, u5, e0, e1, e2, e3, e4, hi⟩ := h i c hc
  exact ⟨u2, u3, u5, e0, e1, e2, e3, e4, hi.mono hb⟩
/-- A model in blocks from B on, which may be written. -/
def ModIn (B : Nat) (w : World) (v : Value) (m : Mod) : Prop :=
  ∃ s2 u2, v = .agg #[.slice (some ⟨s2, 0, none⟩) m.doms.length m.doms.length, u2] ∧ B ≤ s2 ∧ s2 < w.heap.size ∧ (∀ k, w.frozen? ⟨s2, k, none⟩ = false) ∧ RdInts w (.slice (some ⟨s2, 0, none⟩) m.doms.length m.doms.length) m.doms ∧ ConsIn B w u2 m.cons
theorem ModIn.rd {B : Nat} {w : World} {v : Value} {m : Mod} (h : ModIn B w v m) : RdModel w v m := by
  obtain ⟨s2, u2, e, _, _, _, h1, h2⟩ := h
  exact ⟨_, _, e, h1, h2.rd⟩
/-- What toModel leaves. -/
def CopyModIn (m : Mod) (w : World) (e : Ending) (w' : World) : Prop := ∃ v, e = .returned v ∧ ModIn w.heap.size w' v m ∧ Below w.heap.size w w'
def CopyModPost (m : Mod) (w : World) (e : Ending) (w' : World) : Prop := ∃ v, e = .returned v ∧ RdModel w' v m ∧ Below w.heap.size w w'

set_option maxRecDepth 100000 in
set_option maxHeartbeats 4000000 in
theorem toModel_in (v : Value) (m : Mod) (w : World) (h : RdModel w v m) (hm : ModLe m 1048576) :
    Calls Try.prog 8 #[v] w (CopyModIn m w) := by
  obtain ⟨a1, a2, c1, c2, rfl, h1, h2⟩ := rdModel_slices h
  obtain ⟨hl1, hl2⟩ := hm
  clear h
  obtain ⟨W1, hW1⟩ : ∃ W1, ((w.alloc (.cells #[.slice a1 m.doms.length c1, .slice a2 m.cons.length c2] 25)).alloc (.cells #[.slice none 0 0, .slice none 0 0] 30)).alloc (.cells #[.slice none 0 0, .slice none 0 0] 30) = W1 := ⟨_, rfl⟩
  have bP : Blk2 W1 w.heap.size 25 (.slice a1 m.doms.length c1) (.slice a2 m.cons.length c2) := by rw [← hW1]; exact ((Blk2.new w _ _ _).alloc _).alloc _
  have bR : Blk2 W1 (w.heap.size + 1) 30 (.slice none 0 0) (.slice none 0 0) := by
    rw [← hW1]; refine Blk2.alloc ?_ _
    have := Blk2.new (w.alloc (.cells #[.slice a1 m.doms.length c1, .slice a2 m.cons.length c2] 25)) 30 (.slice none 0 0) (.slice none 0 0)
    rwa [World.size_alloc] at this
  have bO : Blk2 W1 (w.heap.size + 1 + 1) 30 (.slice none 0 0) (.slice none 0 0) := by
    rw [← hW1]
    have := Blk2.new ((w.alloc (.cells #[.slice a1 m.doms.length c1, .slice a2 m.cons.length c2] 25)).alloc (.cells #[.slice none 0 0, .slice none 0 0] 30)) 30 (.slice none 0 0) (.slice none 0 0)
    rwa [World.size_alloc, World.size_alloc] at this
  have bel1 : Below w.heap.size w W1 := by rw [← hW1]; exact (((Below.refl _ _).alloc (Nat.le_refl _) _).alloc (by simp) _).alloc (by simp; omega) _
  have HW := Lib.hid hW1
  have HBP := Lib.hid bP
  have HBR := Lib.hid bR
  have HBO := Lib.hid bO
  have HB1 := Lib.hid bel1
  have hz1 : w.heap.size + 1 + 1 < W1.heap.size := bO.lt
  clear hW1 bP bR bO bel1
  go_enter Try.func8, Try.ntmps8
  go_wp2_with fail
  rw [HW.out]
  refine (toIntS_any _ m.doms W1 (h1.below HB1.out) hl1).mono ?_
  rintro e w2 ⟨rfl, r2, b2, z2, fz2⟩
  have HP2 := Lib.hid (HBP.out.below b2)
  have HR2 := Lib.hid (HBR.out.below b2)
  have HO2 := Lib.hid (HBO.out.below b2)
  have HB2 := Lib.hid (HB1.out.trans (b2.mono HB1.out.size))
  have R2 := Lib.hid r2
  obtain ⟨s2, hs2⟩ : ∃ s2, s2 = W1.heap.size := ⟨_, rfl⟩
  rw [← hs2] at R2 hz1 z2 fz2 ⊢
  have Z2 := Lib.hid fz2
  clear fz2
  clear HBP HBR HBO b2 r2 hs2 HW HB1
  obtain ⟨p0, p1⟩ := HP2.out.cell
  obtain ⟨o0, o1⟩ := HO2.out.cell
  obtain ⟨f0, f1⟩ := HO2.out.frozen
  go_wp2_with fail
  have B3 : Below w.heap.size w (w2.setCell ⟨w.heap.size + 1 + 1, 0, none⟩ (.slice (some ⟨s2, 0, none⟩) m.doms.length m.doms.length)) := HB2.out.setCell (p := ⟨w.heap.size + 1 + 1, 0, none⟩) (by show w.heap.size ≤ w.heap.size + 1 + 1; omega) _
  have bR3 := HR2.out.other (p := ⟨w.heap.size + 1 + 1, 0, none⟩) (by show w.heap.size + 1 + 1 ≠ w.heap.size + 1; omega) (.slice (some ⟨s2, 0, none⟩) m.doms.length m.doms.length)
  have bO3 := HO2.out.set 0 (.slice (some ⟨s2, 0, none⟩) m.doms.length m.doms.length)
  have rr3 := R2.out.setCell (p := ⟨w.heap.size + 1 + 1, 0, none⟩) (by show w.heap.size + 1 + 1 ≠ s2; omega) (.slice (some ⟨s2, 0, none⟩) m.doms.length m.doms.length)
  obtain ⟨W3, hW3⟩ : ∃ W3, w2.setCell ⟨w.heap.size + 1 + 1, 0, none⟩ (.slice (some ⟨s2, 0, none⟩) m.doms.length m.doms.length) = W3 := ⟨_, rfl⟩
  rw [hW3] at B3 bR3 bO3 rr3 ⊢
  have hz3 : s2 < W3.heap.size := by rw [← hW3]; simpa using z2
  have Z3 : Hid (∀ i, W3.frozen? ⟨s2, i, none⟩ = false) := Lib.hid (fun i => by rw [← hW3]; exact (frozen_set _ _ _ _).trans (Z2.out i))
  clear Z2
  clear hW3 HP2 HR2 HO2 HB2 R2 p0 p1 o0 o1 f0 f1 z2
  refine (toConstraintS_any _ m.cons W3 (h2.below B3) hl2).mono ?_
  rintro e w4 ⟨rfl, r4, b4, z4⟩
  have HR4 := Lib.hid (bR3.below b4)
  have HO4 := Lib.hid (Blk2.below (show Blk2 W3 _ _ _ _ from bO3) b4)
  have HB4 := Lib.hid (B3.trans (b4.mono B3.size))
  have RV := Lib.hid (rr3.below b4)
  have RA := Lib.hid r4
  obtain ⟨s3, hs3⟩ : ∃ s3, s3 = W3.heap.size := ⟨_, rfl⟩
  have Z4 : Hid (∀ i, w4.frozen? ⟨s2, i, none⟩ = false) := Lib.hid (fun i => (frozen_below b4 (by omega) i).trans (Z3.out i))
  have z24 : s2 < w4.heap.size := Nat.lt_of_lt_of_le hz3 b4.size
  rw [← hs3] at RA z4 hz3 ⊢
  clear bR3 bO3 b4 r4 hs3 rr3 B3 h1 h2 hl2
  obtain ⟨o0, o1⟩ := HO4.out.cell
  obtain ⟨f0, f1⟩ := HO4.out.frozen
  obtain ⟨q0, q1⟩ := HR4.out.cell
  obtain ⟨e0, e1⟩ := HR4.out.frozen
  go_wp2
  have n2 : ∀ j : Nat, (⟨w.heap.size + 1, j, none⟩ : Addr).block ≠ s2 := fun j => by show w.heap.size + 1 ≠ s2; omega
  have l3 : ∀ j : Nat, (⟨w.heap.size + 1, j, none⟩ : Addr).block < s3 := fun j => by show w.heap.size + 1 < s3; omega
  have hB : ∀ j : Nat, w.heap.size ≤ (⟨w.heap.size + 1, j, none⟩ : Addr).block := fun j => by show w.heap.size ≤ w.heap.size + 1; omega
  refine bodyPost_ret (v := .agg #[.slice (some ⟨s2, 0, none⟩) m.doms.length m.doms.length, .slice (some ⟨s3, 0, none⟩) m.cons.length m.cons.length]) (by simp [results, Try.results8, go_sem, q0, q1]) rfl ⟨_, rfl, ⟨_, _, rfl, by omega, by simpa using z24, fun k => (by simp only [frozen_set]; exact Z4.out k), ?_, ?_⟩, ?_⟩
  · exact ((RV.out.setCell (p := ⟨w.heap.size + 1 + 1, 1, none⟩) (by show w.heap.size + 1 + 1 ≠ s2; omega) _).setCell (n2 0) _).setCell (n2 1) _
  · exact consIn_mono (((RA.out.setCell (p := ⟨w.heap.size + 1 + 1, 1, none⟩) (by show w.heap.size + 1 + 1 < s3; omega) _).setCell (l3 0) _).setCell (l3 1) _) (by omega)
  · exact ((HB4.out.setCell (p := ⟨w.heap.size + 1 + 1, 1, none⟩) (by show w.heap.size ≤ w.heap.size + 1 + 1; omega) _).setCell (hB 0) _).setCell (hB 1) _

theorem toModel_any (v : Value) (m : Mod) (w : World) (h : RdModel w v m) (hm : ModLe m 1048576) :
    Calls Try.prog 8 #[v] w (CopyModPost m w) :=
  (toModel_in v m w h hm).mono fun _ _ ⟨v', e1, e2, e3⟩ => ⟨v', e1, e2.rd, e3⟩

set_option maxRecDepth 100000 in
set_option maxHeartbeats 4000000 in
theorem eqConstraintS_same (v1 v2 : Value) (cs : List Con) (w : World) (h1 : RdCons w v1 cs) (h2 : RdCons w v2 cs) :
    Calls Try.prog 35 #[v1, v2] w (SamePostB w) := by
  have H1 := Lib.hid h1
  have H2 := Lib.hid h2
  obtain ⟨a1, c1, ev1, hl1, hm1, _⟩ := h1
  obtain ⟨a2, c2, ev2, hl2, hm2, _⟩ := h2
  rw [ev1] at H1 ⊢
  rw [ev2] at H2 ⊢
  unfold maxLen at hm1 hm2
  obtain ⟨n, hn⟩ : ∃ n, n = cs.length := ⟨_, rfl⟩
  rw [← hn] at hl1 hl2 H1 H2 ⊢
  clear hn ev1 ev2
  have hne : ((n : Int) != (n : Int)) = false := by simp
  go_enter Try.func35, Try.ntmps35
  go_wp2
  go_loopw [5] (fun i wr => ∃ k : Nat, k ≤ n ∧ i = .int .i64 k ∧ Below w.heap.size w wr) (fun i _ => n - (intOf i).toNat)
  case atStart => exact ⟨0, Nat.zero_le _, rfl, Below.refl _ _⟩
  case round =>
    obtain ⟨k, hk, rfl, hbel⟩ := hrel
    by_cases hlt : k < n
    · obtain ⟨b1, o1, c, x2, x3, x5, y2, y3, y5, rfl, hck, k0, k1, k2, k3, k4, hr1⟩ := rdCons_at (H1.out.below hbel) hlt
      obtain ⟨b2, o2, c', z2, z3, z5, t2, t3, t5, rfl, hck', j0, j1, j2, j3, j4, hr2⟩ := rdCons_at (H2.out.below hbel) hlt
      rw [hck] at hck'
      obtain rfl := Option.some.inj hck'
      have R1 : Hid (RdCon wr.drew _ c) := Lib.hid hr1.drew
      have R2 : Hid (RdCon wr.drew _ c) := Lib.hid hr2.drew
      have HB : Hid (Below w.heap.size w wr.drew) := Lib.hid hbel.drew
      clear hr1 hr2 hck hck' hbel
      go_wp2_with fail
      go_region_with (go_at_call 63; refine (eqConstraint_same _ _ c _ R1.out R2.out).mono ?_; rintro e w9 ⟨rfl, b9⟩; have B9 := Lib.hid (HB.out.trans (b9.mono HB.out.size)); clear b9)
      all_goals go_wp2
      all_goals go_roundw
      all_goals first
        | exact ⟨k + 1, by omega, by go_num, B9.out⟩
        | (simp [intOf]; omega)
    · obtain rfl : k = n := by omega
      go_wp2
      go_ret
      exact ⟨rfl, hbel⟩

set_option maxRecDepth 100000 in
set_option maxHeartbeats 2000000 in
theorem eqModel_same (v1 v2 : Value) (m : Mod) (w : World) (h1 : RdModel w v1 m) (h2 : RdModel w v2 m) :
    Calls Try.prog 10 #[v1, v2] w (SamePostB w) := by
  obtain ⟨a1, a2, c1, c2, rfl, g1, g2⟩ := rdModel_slices h1
  obtain ⟨b1, b2, d1, d2, rfl, j1, j2⟩ := rdModel_slices h2
  have hB : Below w.heap.size w ((w.alloc (.cells #[.slice a1 m.doms.length c1, .slice a2 m.cons.length c2] 30)).alloc (.cells #[.slice b1 m.doms.length d1, .slice b2 m.cons.length d2] 30)) := ((Below.refl _ _).alloc (Nat.le_refl _) _).alloc (by simp) _
  have I1 := Lib.hid (g1.below hB)
  have I2 := Lib.hid (g2.below hB)
  have J1 := Lib.hid (j1.below hB)
  have J2 := Lib.hid (j2.below hB)
  have HB := Lib.hid hB
  clear h1 h2 g1 g2 j1 j2 hB
  go_enter Try.func10, Try.ntmps10
  go_wp2_with fail
  refine (eqIntS_same _ _ m.doms _ I1.out J1.out).mono ?_
  rintro e w' ⟨rfl, m1, rfl⟩
  go_wp2_with fail
  have HB1 := Lib.hid (below_drewN' HB.out m1)
  refine (eqConstraintS_same _ _ m.cons _ (I2.out.drewN' _) (J2.out.drewN' _)).mono ?_
  rintro e w' ⟨rfl, b9⟩
  have B9 := Lib.hid (HB1.out.trans (b9.mono HB1.out.size))
  clear b9
  go_wp2
  go_ret
  exact ⟨rfl, B9.out⟩
end Go.Proofs.Ytipapmmjfoaddaa
