/- Three facts on the whole program, each by itself: together they outgrow the memory of one declaration. -/
import Derived.Test.YtnkbcciigdjcnaaGreatDoorRows
import Derived.ProofKit
namespace Go.Proofs.YtnkbcciigdjcnaaGreatDoor
theorem cl_enter : Tryz.prog.mayEnter = true := by kernel_rfl
theorem cl_lift : Tryz.prog.liftsFinal = Rows.fnExactLowerBoundRow.lifted := by kernel_rfl
theorem cl_make : Tryz.prog.make = some Rows.fnExactLowerBoundRow.make := by kernel_rfl
end Go.Proofs.YtnkbcciigdjcnaaGreatDoor
