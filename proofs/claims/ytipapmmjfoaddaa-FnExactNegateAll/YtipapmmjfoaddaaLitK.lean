/- The program's UnitPropagate. -/
import Derived.Test.YtipapmmjfoaddaaLitF
namespace Go.Proofs.Ytipapmmjfoaddaa
open Go.ChangeShapes Go.WideShapes Go.ChangeAt Go.RowKit Go.Deep Go.Shelf
set_option linter.unusedVariables false
set_option linter.unusedSimpArgs false

/-- The activation inside the region of propagate. -/
def lprAct (z0 z1 z2 z3 z4 z5 z6 z7 z8 z9 z10 z11 z12 z13 z14 z15 z16 z17 z18 z19 z20 z21 z22 z23 z24 : Value) : Act := { tmps := #[z0, z1, z2, z3, z4, z5, z6, z7, z8, z9, z10, z11, z12, z13, z14, z15, z16, z17, z18, z19, z20, z21, z22, z23, z24], defers := [] }
section
theorem zero_int (w : World) : (zeroValue 3).run Try.prog w = .ok (.int .i64 0) w := by
  go_simp
end
theorem own_clear {w : World} {B g n c : Nat} {ds : List Int} (h : w.ownsRow B 3 1 (.slice (some ⟨g, 0, none⟩) n c) n (ds.map (Value.int .i64))) (h4 : n ≤ 4) : (w.setCells g 0 (List.replicate n (.int .i64 0))).ownsRow B 3 1 (.slice (some ⟨g, 0, none⟩) n c) n ((List.replicate n 0).map (Value.int .i64)) := by
  have hl : ds.length = n := by have := h.1; simpa using this
  match ds, hl with
  | [], e => subst e; exact h
  | [a], e => subst e; exact (h.stored 0 (.int .i64 0)).1
  | [a, b], e => subst e; exact ((h.stored 0 (.int .i64 0)).1.stored 1 (.int .i64 0)).1
  | [a, b, d], e => subst e; exact (((h.stored 0 (.int .i64 0)).1.stored 1 (.int .i64 0)).1.stored 2 (.int .i64 0)).1
  | [a, b, d, f], e => subst e; exact ((((h.stored 0 (.int .i64 0)).1.stored 1 (.int .i64 0)).1.stored 2 (.int .i64 0)).1.stored 3 (.int .i64 0)).1
  | a :: b :: d :: f :: k :: r, e => simp at e; omega
theorem below_setCells {B : Nat} {w0 : World} {g : Nat} (hg : B ≤ g) : ∀ (vs : List Value) (o : Nat) (w : World), Below B w0 w → Below B w0 (w.setCells g o vs)
  | [], _, _, h => h
  | v :: vs, o, w, h => below_setCells hg vs (o + 1) _ (h.setCell (p := ⟨g, o, none⟩) hg v)

theorem litNeInt : (64 : TypeId) ≠ 3 := by decide
theorem setCells_blk (g D : Nat) (hne : D ≠ g) : ∀ (vs : List Value) (o : Nat) (X : World), (X.setCells g o vs).heap[D]? = X.heap[D]?
  | [], _, _ => rfl
  | v :: vs, o, X => by
    rw [World.setCells, setCells_blk g D hne vs]
    exact Below.heap_setCell _ _ _ _ (by show D ≠ g; exact hne)

end Go.Proofs.Ytipapmmjfoaddaa
