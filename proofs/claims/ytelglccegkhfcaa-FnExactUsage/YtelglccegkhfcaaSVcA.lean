/- spec.validConstraint, the variables; kinds 1 to 3: one walk for each way through its tests. -/
import Derived.Test.YtelglccegkhfcaaBa
namespace Go.Proofs.Ytelglccegkhfcaa
open Go.ChangeShapes Go.WideShapes Go.ChangeAt Go.RowKit
set_option linter.unusedVariables false
set_option linter.unusedSimpArgs false
end Go.Proofs.Ytelglccegkhfcaa
