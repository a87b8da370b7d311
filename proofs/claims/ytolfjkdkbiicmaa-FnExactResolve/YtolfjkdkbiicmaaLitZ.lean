/- The program's without on clauses: slices.DeleteFunc. -/
import Derived.Test.YtolfjkdkbiicmaaLitY
import Derived.Test.YtolfjkdkbiicmaaLitK
namespace Go.Proofs.Ytolfjkdkbiicmaa
open Go.ChangeShapes Go.WideShapes Go.ChangeAt Go.RowKit Go.Deep Go.Shelf
set_option linter.unusedVariables false
set_option linter.unusedSimpArgs false

def lit0 : Lit := ⟨0, 0, false⟩
theorem zeroCells_lits (n : Nat) : (Builtin.zeroCells #[.int .i64 0, .int .i64 0, .bool false] n).toList = cellsL (List.replicate n lit0) := by
  apply List.ext_getElem?
  intro k
  by_cases hk : k < n * 3
  · have h3 : (List.replicate n lit0)[k / 3]? = some lit0 := by rw [List.getElem?_replicate]; simp; omega
    obtain ⟨c0, c1, c2⟩ := cellsL_at _ _ _ h3
    have hz : (Builtin.zeroCells #[.int .i64 0, .int .i64 0, .bool false] n).toList[k]? = some (#[Value.int .i64 0, Value.int .i64 0, Value.bool false][k % 3]!) := by
      simp [Builtin.zeroCells, hk]
    rw [hz]
    rcases (show k % 3 = 0 ∨ k % 3 = 1 ∨ k % 3 = 2 by omega) with e | e | e
    · rw [e, show k = k / 3 * 3 from by omega, c0]; rfl
    · rw [e, show k = k / 3 * 3 + 1 from by omega, c1]; rfl
    · rw [e, show k = k / 3 * 3 + 2 from by omega, c2]; rfl
  · rw [List.getElem?_eq_none (by simp [Builtin.zeroCells]; omega), List.getElem?_eq_none (by rw [cellsL_length]; simp; omega)]
set_option maxRecDepth 100000 in
theorem zero_lit (w : World) : (zeroValue 47).run Try.prog w = .ok (.agg #[.int .i64 0, .int .i64 0, .bool false]) w := by
  go_simp
theorem run_clear_lits (w : World) (ty : TypeId) (b o n c : Nat) (hn : 0 < n) (hc : ∀ j, j < n * 3 → (w.cell? ⟨b, o + j, none⟩).isSome = true) (hf : ∀ j, j < n * 3 → w.frozen? ⟨b, o + j, none⟩ = false) :
    (Builtin.clear_ #[41] ty #[.slice (some ⟨b, o, none⟩) n c]).run Try.prog w = .ok (.tuple #[]) (w.setCells b o (cellsL (List.replicate n lit0))) := by
  have hst := run_storeCells_cells (P := Try.prog) b o (cellsL (List.replicate n lit0)) 0 w (by rw [cellsL_length]; simpa using hc) (by rw [cellsL_length]; simpa using hf) (cellsL_one _)
  simp only [Nat.add_zero] at hst
  obtain ⟨m, rfl⟩ : ∃ m, n = m + 1 := ⟨n - 1, by omega⟩
  have hzc := zeroCells_lits (m + 1)
  simp [Builtin.clear_, run_underlying Try.underlying41, zero_lit, Value.cells, hzc, hst]
theorem own_setCells {B g n c : Nat} {e : TypeId} {sz : Nat} (o0 : Nat) : ∀ (vs : List Value) (o : Nat) (w : World) (xs : List Value), o0 ≤ o → w.ownsRow B e sz (.slice (some ⟨g, 0, none⟩) n c) n xs → ∃ ys, (w.setCells g o vs).ownsRow B e sz (.slice (some ⟨g, 0, none⟩) n c) n ys ∧ ys.take o0 = xs.take o0
  | [], o, w, xs, h0, h => ⟨xs, h, rfl⟩
  | v :: vs, o, w, xs, h0, h => by
    obtain ⟨ys, h1, h2⟩ := own_setCells o0 vs (o + 1) (w.setCell ⟨g, o, none⟩ v) (xs.set o v) (by omega) (h.stored o v).1
    refine ⟨ys, h1, ?_⟩
    rw [h2, List.take_set_of_le (by omega)]
theorem own_take {w : World} {B g n c k : Nat} {e : TypeId} {sz : Nat} {xs : List Value} (h : w.ownsRow B e sz (.slice (some ⟨g, 0, none⟩) n c) n xs) (hk : k ≤ n) : w.ownsRow B e sz (.slice (some ⟨g, 0, none⟩) k c) k (xs.take (k * sz)) := by
  obtain ⟨h0, h1⟩ := h
  have hks : k * sz ≤ n * sz := Nat.mul_le_mul_right _ hk
  refine ⟨by rw [List.length_take, h0]; omega, ?_⟩
  rcases h1 with ⟨e, _⟩ | ⟨g', cap, cur, ev, t1, t2, t3, t4, t5, t6⟩
  · cases e
  · simp at ev
    obtain ⟨rfl, rfl⟩ := ev
    exact .inr ⟨g, c, cur, rfl, t1, t2, by omega, t4, t5, by rw [← t6, List.take_take]; congr 1; omega⟩
theorem cellsL_take : ∀ (ls : List Lit) (k : Nat), (cellsL ls).take (k * 3) = cellsL (ls.take k)
  | [], k => by simp [cellsL]
  | a :: ls, 0 => by simp [cellsL]
  | a :: ls, k + 1 => by
    rw [show (k + 1) * 3 = k * 3 + 1 + 1 + 1 from by omega]
    simp only [cellsL, List.take_succ_cons]
    rw [cellsL_take ls k]
theorem litCs_base {bx B : Nat} {l : Lit} {w w' : World} (h : LitCs bx l w) (b : Below B w w') (hlt : bx < B) : LitCs bx l w' :=
  ⟨(b.cell (p := ⟨bx, 0, none⟩) hlt).trans h.1, (b.cell (p := ⟨bx, 1, none⟩) hlt).trans h.2.1, (b.cell (p := ⟨bx, 2, none⟩) hlt).trans h.2.2⟩
theorem OwnC.rd {w : World} {B : Nat} {v : Value} {m : Nat} {ls : List Lit} (h : OwnC w B v m ls) : RdLits w v ls := by
  obtain ⟨a, c, ev, h1, h2, h3⟩ := h.form
  subst ev
  have hm := h.1
  subst hm
  refine ⟨a, c, rfl, h1, by unfold maxLen; omega, ?_⟩
  by_cases h0 : ls.length = 0
  · exact .inl h0
  · obtain ⟨g, rfl, _⟩ := h3 (by omega)
    refine .inr ⟨g, 0, rfl, fun i l hi => ?_⟩
    rw [Nat.zero_add]
    exact h.cells hi
end Go.Proofs.Ytolfjkdkbiicmaa
