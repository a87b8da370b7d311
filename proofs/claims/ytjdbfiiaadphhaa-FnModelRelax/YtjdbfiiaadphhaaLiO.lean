/- Lists of constraints that grow. -/
import Derived.Test.YtjdbfiiaadphhaaDrM
namespace Go.Proofs.Ytjdbfiiaadphhaa
open Go.ChangeShapes Go.WideShapes Go.ChangeAt Go.RowKit Go.Deep Go.Shelf
set_option linter.unusedVariables false
set_option linter.unusedSimpArgs false

theorem m_indexO (w : World) (b off n c j : Nat) (hj : j < n) : (Instr.indexAt 66 (.slice (some ⟨b, off, none⟩) n c) (.int .i64 j)).run Try.prog w = .ok (.pointer (some ⟨b, off + j * 5, none⟩)) w := by
  go_simp
/-- A list of constraints that grows beside what was there: the model's box is D. -/
structure LO (w4 : World) (D : Nat) (u1 : Value) (W : World) (u : Value) (xs : List CE) : Prop where
  bx : Blk2 W D 68 u1 u
  own : W.ownsRow (D + 1) 53 5 u xs.length (cellsE xs)
  low : Below w4.heap.size w4 W
  eD : D = w4.heap.size
theorem LO.below {w4 W W' : World} {D : Nat} {u1 u : Value} {xs : List CE} (h : LO w4 D u1 W u xs) (hb : Below W.heap.size W W') : LO w4 D u1 W' u xs :=
  ⟨h.bx.below hb, own_keepB h.own (fun b hb' => hb.block b (h.own.lt b hb').2), h.low.trans (hb.mono h.low.size), h.eD⟩
theorem LO.grow {w4 W V : World} {D : Nat} {u1 u : Value} {xs : List CE} (h : LO w4 D u1 W u xs) (hg : W.grownBy V u.ownBlock) : Blk2 V D 68 u1 u ∧ Below w4.heap.size w4 V :=
  ⟨(hg.block D h.bx.lt (fun e => by have := (h.own.lt D e.symm).1; omega)).trans h.bx, h.low.grown hg h.low.size (fun k e => by have := (h.own.lt k e).1; have := h.eD; omega)⟩
theorem LO.push {w4 V : World} {D : Nat} {u1 u u' : Value} {xs : List CE} {x : CE} {m' : Nat} (hD : D = w4.heap.size) (h1 : Blk2 V D 68 u1 u) (h2 : Below w4.heap.size w4 V) (hown : V.ownsRow (D + 1) 53 5 u' m' (cellsE xs ++ cellsE [x])) (hm : m' = xs.length + 1) : LO w4 D u1 (V.setCell ⟨D, 1, none⟩ u') u' (xs ++ [x]) := by
  subst hm
  refine ⟨h1.set 1 _, ?_, h2.setCell (p := ⟨D, 1, none⟩) (by show _ ≤ D; omega) _, hD⟩
  rw [List.length_append, cellsE_append]
  exact own_keepB hown (fun b hb => Below.heap_setCell _ _ _ _ (by show b ≠ D; have := (hown.lt b hb).1; omega))
/-- Constraints whose slices read in w. -/
def EltRd (w : World) (x : CE) : Prop := RdInts w x.v x.c.vars ∧ RdInts w x.a x.c.args ∧ RdRows w x.r x.c.rows
theorem elts_rd {W : World} {base : Nat} {u2 : Value} {xs : List CE} (h : W.ownsRow base 53 5 u2 xs.length (cellsE xs)) (hk : ∀ x ∈ xs, EltRd W x) : RdCons W u2 (xs.map CE.c) := by
  rcases h.2 with ⟨rfl, h0⟩ | ⟨g, cap, cur, rfl, hb, hg, hc, hm, _⟩
  · rw [List.eq_nil_of_length_eq_zero h0]
    exact ⟨none, 0, rfl, Nat.le_refl _, by decide, .inl rfl⟩
  · refine ⟨some ⟨g, 0, none⟩, cap, by rw [List.length_map], by rw [List.length_map]; exact hc, hm, .inr ⟨g, 0, rfl, fun i c hi => ?_⟩⟩
    rw [List.getElem?_map] at hi
    obtain ⟨x, hx, rfl⟩ := Option.map_eq_some_iff.1 hi
    obtain ⟨t0, t1, t2, t3, t4⟩ := cellsE_at xs i x hx
    obtain ⟨k1, k2, k4⟩ := hk x (List.mem_of_getElem? hx)
    have kk : ∀ q u, (cellsE xs)[q]? = some u → W.cell? ⟨g, q, none⟩ = some u := fun q u hu => by
      have := h.cells (g := g) rfl q u hu
      rw [addr_add, Nat.zero_add] at this
      exact this
    refine ⟨x.v, x.a, x.r, ?_, ?_, ?_, ?_, ?_, k1, k2, k4⟩
    · rw [show 0 + 5 * i = i * 5 from by omega]; exact kk _ _ t0
    · rw [show 0 + 5 * i + 1 = i * 5 + 1 from by omega]; exact kk _ _ t1
    · rw [show 0 + 5 * i + 2 = i * 5 + 2 from by omega]; exact kk _ _ t2
    · rw [show 0 + 5 * i + 3 = i * 5 + 3 from by omega]; exact kk _ _ t3
    · rw [show 0 + 5 * i + 4 = i * 5 + 4 from by omega]; exact kk _ _ t4
theorem drop_rev {cs : List Con} {k : Nat} {c : Con} (h : cs[k]? = some c) : (cs.drop k).reverse = (cs.drop (k + 1)).reverse ++ [c] := by
  have hk := (List.getElem?_eq_some_iff.1 h).1
  rw [List.drop_eq_getElem_cons hk, List.reverse_cons]
  rw [List.getElem?_eq_getElem hk] at h
  rw [Option.some.inj h]
end Go.Proofs.Ytjdbfiiaadphhaa
