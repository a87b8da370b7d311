/- The program's IsConsistent. -/
import Derived.Test.YtipapmmjfoaddaaSupS
import Derived.Test.YtipapmmjfoaddaaFi
namespace Go.Proofs.Ytipapmmjfoaddaa
open Go.ChangeShapes Go.WideShapes Go.ChangeAt Go.RowKit
set_option linter.unusedVariables false
set_option linter.unusedSimpArgs false

set_option maxRecDepth 100000 in
set_option maxHeartbeats 1000000 in
theorem ihasEmpty_any (dv : Value) (ds : List Int) (w : World) (h : RdInts w dv ds) :
    Calls Try.prog 31 #[dv] w fun e w' => e = .returned (.bool (emptyB ds)) ∧ w = w' := by
  have HX := Lib.hid h
  obtain ⟨ax, cx, e2, -⟩ := id h
  rw [e2] at HX ⊢
  clear e2 h
  go_enter Try.func31, Try.ntmps31
  go_wp2_with fail
  refine (slicesContains_any _ ds 0 w HX.out).mono ?_
  rintro e w' ⟨rfl, rfl⟩
  go_wp2
  go_ret
  exact ⟨rfl, rfl⟩

end Go.Proofs.Ytipapmmjfoaddaa
