/- Three facts on the whole program, each by itself: together they outgrow the memory of one declaration. -/
import Derived.Test.YtipapmmjfoaddaaRows
import Derived.ProofKit
namespace Go.Proofs.Ytipapmmjfoaddaa
theorem cl_enter : Try.prog.mayEnter = true := by kernel_rfl
theorem cl_lift : Try.prog.liftsFinal = Rows.fnExactIsSingletonConsistentRow.lifted := by kernel_rfl
theorem cl_make : Try.prog.make = some Rows.fnExactIsSingletonConsistentRow.make := by kernel_rfl
end Go.Proofs.Ytipapmmjfoaddaa
