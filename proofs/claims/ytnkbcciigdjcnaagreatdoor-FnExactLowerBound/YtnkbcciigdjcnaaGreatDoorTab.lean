/- The listed tables, as the walks want them. -/
import Derived.Test.YtnkbcciigdjcnaaGreatDoorSrcU
import Derived.Test.YtnkbcciigdjcnaaGreatDoorRows
namespace Go.Proofs.YtnkbcciigdjcnaaGreatDoor
open Go.ChangeShapes Go.WideShapes Go.ChangeAt Go.RowKit
set_option linter.unusedVariables false
set_option linter.unusedSimpArgs false

theorem tab_is : (Rows.laid_math_bits_deBruijn64tab : DataW Unit) = Lib.tabData .u8 tab64 := by kernel_rfl
theorem tab_len : tab64.length = 64 := by kernel_rfl
theorem g64 : Tryz.prog.globalNamed (Rows.fnExactLowerBoundRow.named.getD 1 default) = some 1 := by kernel_rfl
theorem t64 : (Tryz.prog.globals[1]?).map (·.type) = some 135 := by kernel_rfl
/-- The second listed table. -/
theorem tab64_of {W : World} {x : String × DataW Unit} {r : List (String × DataW Unit)} (h : laidMet Tryz.prog (x :: (Rows.fnExactLowerBoundRow.named.getD 1 default, Rows.laid_math_bits_deBruijn64tab) :: r) W) : Tab64 W := by
  obtain ⟨ps, ⟨g0, t0, cs0, f0, p0, q0, hg0, ht0, hv0, hd0, ⟨g1, t1, cs1, f1, p1, q1, hg1, ht1, hv1, hd1, _, _⟩, _⟩, _⟩ := h
  obtain rfl := Option.some.inj (g64.symm.trans hg1)
  obtain rfl := Option.some.inj (t64.symm.trans ht1)
  rw [tab_is] at hd1
  have hcs := Lib.cells_of_tab Tryz.underlying135 Tryz.underlying5 (by kernel_rfl) (by kernel_rfl) hd1
  have hT : Lib.TabIs Tryz.prog W (Rows.fnExactLowerBoundRow.named.getD 1 default) .u8 tab64 := by
    unfold Lib.TabIs
    rw [hv1, ← hcs]
  exact fun i hi => hT.cell g64 i (by rw [tab_len]; exact hi)
theorem tabs {W : World} (h : laidMetH Tryz.prog Rows.fnExactLowerBoundRow.laid W) : Tab64 W := by
  rw [MakeChecks.laidMetH_plain _ _ _ (by kernel_rfl)] at h
  exact tab64_of h
end Go.Proofs.YtnkbcciigdjcnaaGreatDoor
