/- Subsumes, in both packages. -/
import Derived.Test.YtipapmmjfoaddaaGreatLitG
namespace Go.Proofs.YtipapmmjfoaddaaGreat
open Go.ChangeShapes Go.WideShapes Go.ChangeAt Go.RowKit Go.Deep Go.Shelf
set_option linter.unusedVariables false
set_option linter.unusedSimpArgs false

/-- The activation inside the region of slices.Index. -/
def ixAct (z0 z1 z2 z3 z4 z5 z6 z7 z8 z9 z10 z11 z12 z13 z14 z15 z16 z17 z18 : Value) : Act := { tmps := #[z0, z1, z2, z3, z4, z5, z6, z7, z8, z9, z10, z11, z12, z13, z14, z15, z16, z17, z18], defers := [] }
abbrev EqlRun (l o : Lit) (t : Bool) : Prop := ∀ (w' : World) (x y : Operand), (do eqGuard .eql 91 x y (.agg #[.int .i64 l.var, .int .i64 l.val, .bool l.neg]) (.agg #[.int .i64 o.var, .int .i64 o.val, .bool o.neg]); binOp .eql 91 (.agg #[.int .i64 l.var, .int .i64 l.val, .bool l.neg]) (.agg #[.int .i64 o.var, .int .i64 o.val, .bool o.neg]) : Sem Value).run Tryz.prog w' = .ok (.bool t) w'

/-- Some literal of la is not in lb. -/
def sxB (la lb : List Lit) : Bool := la.any (fun l => !decide (l ∈ lb))
theorem sxB_all (la lb : List Lit) : (!sxB la lb) = la.all (fun l => decide (l ∈ lb)) := by
  unfold sxB
  induction la with
  | nil => rfl
  | cons l la ih => simp [ih]

theorem vclB_cl {ls : List Lit} {n : Int} (h : vclB ls n = true) : clB ls n = true := by
  unfold vclB at h
  rw [Bool.and_eq_true] at h
  exact h.2
end Go.Proofs.YtipapmmjfoaddaaGreat
