/- Three facts on the whole program, each by itself: together they outgrow the memory of one declaration. -/
import Derived.Test.YtfajiaoddcjieabRows
import Derived.ProofKit
namespace Go.Proofs.Ytfajiaoddcjieab
theorem cl_enter : Try.prog.mayEnter = true := by kernel_rfl
theorem cl_lift : Try.prog.liftsFinal = Rows.fnExactLubyRow.lifted := by kernel_rfl
theorem cl_make : Try.prog.make = some Rows.fnExactLubyRow.make := by kernel_rfl
end Go.Proofs.Ytfajiaoddcjieab
