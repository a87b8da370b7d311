/- The law of RequiredEnergy. -/
import Derived.Test.YtelglccegkhfcaaEnr
import Derived.Test.YtelglccegkhfcaaMkC
import Derived.Deep.RegionHeld3
namespace Go.Proofs.Ytelglccegkhfcaa
open Go.ChangeShapes Go.WideShapes Go.ChangeAt Go.RowKit
set_option linter.unusedVariables false
set_option linter.unusedSimpArgs false
end Go.Proofs.Ytelglccegkhfcaa
