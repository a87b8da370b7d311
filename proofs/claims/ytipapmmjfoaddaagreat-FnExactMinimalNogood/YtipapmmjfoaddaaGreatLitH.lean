/- ClauseHolds, in both packages. -/
import Derived.Test.YtipapmmjfoaddaaGreatLitX
import Derived.Test.YtipapmmjfoaddaaGreatLitP
import Derived.Test.YtipapmmjfoaddaaGreatSolA
namespace Go.Proofs.YtipapmmjfoaddaaGreat
open Go.ChangeShapes Go.WideShapes Go.ChangeAt Go.RowKit Go.Deep
set_option linter.unusedVariables false
set_option linter.unusedSimpArgs false

/-- One literal. -/
def lhB (xs : List Int) (l : Lit) : Bool := (decide (xs[l.var.toNat]?.getD 0 = l.val)) != l.neg
theorem hoB_true {ls : List Lit} {xs : List Int} {k : Nat} {l : Lit} (h : ls[k]? = some l) (hl : lhB xs l = true) : hoB ls xs = true :=
  List.any_eq_true.2 ⟨l, List.mem_of_getElem? h, hl⟩
theorem hoB_false {ls : List Lit} {xs : List Int} (h : ∀ (j : Nat) (l : Lit), ls[j]? = some l → lhB xs l = false) : hoB ls xs = false := by
  rw [hoB, List.any_eq_false]
  intro l hl
  obtain ⟨i, hi⟩ := List.getElem?_of_mem hl
  have := h i l hi
  unfold lhB at this
  rw [this]
  exact Bool.false_ne_true
/-- Every literal is on one of n variables. -/
def VarsIn (ls : List Lit) (n : Nat) : Prop := ∀ l ∈ ls, 0 ≤ l.var ∧ l.var < n
theorem clB_vars {ls : List Lit} {n : Nat} (h : clB ls n = true) : VarsIn ls n := fun l hl => by
  have := clB_lit h hl
  unfold litOk at this
  rw [Bool.and_eq_true] at this
  have := wiB_in this.1
  omega

end Go.Proofs.YtipapmmjfoaddaaGreat
