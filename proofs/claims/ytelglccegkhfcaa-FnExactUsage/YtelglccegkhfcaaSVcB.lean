/- spec.validConstraint, kinds 4 to 6: one walk for each way through its tests. -/
import Derived.Test.YtelglccegkhfcaaBa
namespace Go.Proofs.Ytelglccegkhfcaa
open Go.ChangeShapes Go.WideShapes Go.ChangeAt Go.RowKit
set_option linter.unusedVariables false
set_option linter.unusedSimpArgs false
end Go.Proofs.Ytelglccegkhfcaa
