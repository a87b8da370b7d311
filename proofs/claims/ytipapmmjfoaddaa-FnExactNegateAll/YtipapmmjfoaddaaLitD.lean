/- The values that make a literal true; whether some value of its variable's domain does. -/
import Derived.Test.YtipapmmjfoaddaaLitU
import Derived.Test.YtipapmmjfoaddaaLitH
namespace Go.Proofs.Ytipapmmjfoaddaa
open Go.ChangeShapes Go.WideShapes Go.ChangeAt Go.RowKit Go.Deep Go.Shelf
set_option linter.unusedVariables false
set_option linter.unusedSimpArgs false

/-- The values that make a literal true. -/
def domL (l : Lit) : Int := if l.neg then 63 - 2 ^ l.val.toNat else 2 ^ l.val.toNat
def andI (x y : Int) : Int := bits .and .i64 x y
/-- Some value of the domain makes it true. -/
def posB (ds : List Int) (l : Lit) : Bool := andI (ds[l.var.toNat]?.getD 0) (domL l) != 0

theorem clB_vals {ls : List Lit} {n : Int} (h : clB ls n = true) {l : Lit} (hl : l ∈ ls) : 0 ≤ l.val ∧ l.val ≤ 5 := by
  have := clB_lit h hl
  unfold litOk at this
  rw [Bool.and_eq_true] at this
  have := wiB_in this.2
  omega

end Go.Proofs.Ytipapmmjfoaddaa
