/- spec.validConstraint: what it returns for each kind of constraint; one walk for each way through its tests. -/
import Derived.Test.YtkmdkbnphmadpaaVcB
namespace Go.Proofs.Ytkmdkbnphmadpaa
open Go.ChangeShapes Go.WideShapes Go.ChangeAt Go.RowKit
set_option linter.unusedVariables false
set_option linter.unusedSimpArgs false

theorem RdInts.drewN {w : World} {v : Value} {xs : List Int} (h : RdInts w v xs) (k : Nat) : RdInts (w.drewN k) v xs := h
theorem RdRows.drewN {w : World} {v : Value} {xs : List (List Int)} (h : RdRows w v xs) (k : Nat) : RdRows (w.drewN k) v xs := h
theorem below_drewN {B : Nat} {a w : World} (h : Below B a w) (k : Nat) : Below B a (w.drewN k) := ⟨h.os, h.tape, h.output, h.size, h.block⟩
theorem validRows_at (a : Option Addr) (nr cap : Nat) (rows : List (List Int)) (n lo hi : Int) (w : World) (h : RdRows w (.slice a nr cap) rows) :
    Calls Try.prog 113 #[.slice a nr cap, .int .i64 n, .int .i64 lo, .int .i64 hi] w fun e w' => e = .returned (.bool (rowsB rows n lo hi && wiB nr 1 8)) ∧ w = w' := by
  obtain rfl : nr = rows.length := by obtain ⟨_, _, e, _⟩ := h; simp at e; exact e.2.1
  exact validRows_any _ rows n lo hi w h
/-- A test's answer, and nothing that was there has changed. -/
def BoolPost (b : Bool) (w : World) (e : Ending) (w' : World) : Prop := e = .returned (.bool b) ∧ Below w.heap.size w w'
end Go.Proofs.Ytkmdkbnphmadpaa
