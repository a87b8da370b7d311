/- What the laws on models ask again and again. -/
import Derived.Test.YtjdbfiiaadphhaaDrM
import Derived.Test.YtjdbfiiaadphhaaLwI
import Derived.Test.YtjdbfiiaadphhaaConI
import Derived.Test.YtjdbfiiaadphhaaProI
import Derived.Test.YtjdbfiiaadphhaaProS
import Derived.Test.YtjdbfiiaadphhaaPrP
namespace Go.Proofs.Ytjdbfiiaadphhaa
open Go.ChangeShapes Go.WideShapes Go.ChangeAt Go.RowKit Go.Deep Go.Shelf
set_option linter.unusedVariables false
set_option linter.unusedSimpArgs false

/-- A slice of m numbers that reads as xs comes back; what was there stays. -/
def SlPost (xs : List Int) (m : Nat) (w : World) (e : Ending) (w' : World) : Prop :=
  ∃ (ao : Option Addr) (co : Nat), e = .returned (.slice ao m co) ∧ m ≤ co ∧ co ≤ 9223372036854775807 ∧ RdInts w' (.slice ao m co) xs ∧ Below w.heap.size w w'
theorem slPost_of {xs : List Int} {m : Nat} {w w' : World} {e : Ending} (hm : m = xs.length) (h : IntsPost xs w e w') : SlPost xs m w e w' := by
  obtain ⟨v, rfl, ho, hb⟩ := h
  have hr := rdInts_of_own ho
  obtain ⟨a, c, rfl, h1, h2, -⟩ := id hr
  unfold maxLen at h2
  rw [← hm] at hr h1 ⊢
  exact ⟨a, c, rfl, h1, h2, hr, hb⟩
/-- A truth value comes back; what was there stays. -/
def TPost (b : Bool) (w : World) (e : Ending) (w' : World) : Prop := e = .returned (.bool b) ∧ Below w.heap.size w w'
theorem eqI_true (W : World) (x y : Value) (xs : List Int) (x1 : RdInts W x xs) (x2 : RdInts W y xs) : Calls Try.prog 55 #[x, y] W (TPost true W) :=
  (equalInts_any x y xs xs W x1 x2).mono (fun e W' hp => ⟨by rw [hp.1]; simp, hp.2⟩)
end Go.Proofs.Ytjdbfiiaadphhaa
