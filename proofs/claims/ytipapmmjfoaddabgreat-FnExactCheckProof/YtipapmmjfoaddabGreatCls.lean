/- Three facts on the whole program, each by itself: together they outgrow the memory of one declaration. -/
import Derived.Test.YtipapmmjfoaddabGreatRows
import Derived.ProofKit
namespace Go.Proofs.YtipapmmjfoaddabGreat
theorem cl_enter : Tryz.prog.mayEnter = true := by kernel_rfl
theorem cl_lift : Tryz.prog.liftsFinal = Rows.fnExactCheckProofRow.lifted := by kernel_rfl
theorem cl_make : Tryz.prog.make = some Rows.fnExactCheckProofRow.make := by kernel_rfl
end Go.Proofs.YtipapmmjfoaddabGreat
