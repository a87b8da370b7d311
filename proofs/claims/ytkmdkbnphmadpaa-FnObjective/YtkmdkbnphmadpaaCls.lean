/- Three facts on the whole program, each by itself: together they outgrow the memory of one declaration. -/
import Derived.Test.YtkmdkbnphmadpaaRows
import Derived.ProofKit
namespace Go.Proofs.Ytkmdkbnphmadpaa
theorem cl_enter : Try.prog.mayEnter = true := by kernel_rfl
theorem cl_lift : Try.prog.liftsFinal = Rows.fnExactValidConstraintRow.lifted := by kernel_rfl
theorem cl_make : Try.prog.make = some Rows.fnExactValidConstraintRow.make := by kernel_rfl
end Go.Proofs.Ytkmdkbnphmadpaa
