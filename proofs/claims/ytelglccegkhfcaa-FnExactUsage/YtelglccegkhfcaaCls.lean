/- Three facts on the whole program, each by itself: together they outgrow the memory of one declaration. -/
import Derived.Test.YtelglccegkhfcaaRows
import Derived.ProofKit
namespace Go.Proofs.Ytelglccegkhfcaa
theorem cl_enter : Try.prog.mayEnter = true := by kernel_rfl
theorem cl_lift : Try.prog.liftsFinal = Rows.fnNegateAllRow.lifted := by kernel_rfl
theorem cl_make : Try.prog.make = some Rows.fnNegateAllRow.make := by kernel_rfl
end Go.Proofs.Ytelglccegkhfcaa
