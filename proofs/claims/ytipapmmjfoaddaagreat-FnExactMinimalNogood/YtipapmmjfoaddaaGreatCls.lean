/- Three facts on the whole program, each by itself: together they outgrow the memory of one declaration. -/
import Derived.Test.YtipapmmjfoaddaaGreatRows
import Derived.ProofKit
namespace Go.Proofs.YtipapmmjfoaddaaGreat
theorem cl_enter : Tryz.prog.mayEnter = true := by kernel_rfl
theorem cl_lift : Tryz.prog.liftsFinal = Rows.fnExactProbeRow.lifted := by kernel_rfl
theorem cl_make : Tryz.prog.make = some Rows.fnExactProbeRow.make := by kernel_rfl
end Go.Proofs.YtipapmmjfoaddaaGreat
