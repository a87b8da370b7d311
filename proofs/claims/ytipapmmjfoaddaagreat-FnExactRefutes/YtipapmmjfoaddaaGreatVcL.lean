/- The law of ValidConstraint. -/
import Derived.Test.YtipapmmjfoaddaaGreatVcC
import Derived.Test.YtipapmmjfoaddaaGreatToE
import Derived.Deep.RegionWith
namespace Go.Proofs.YtipapmmjfoaddaaGreat
open Go.ChangeShapes Go.WideShapes Go.ChangeAt Go.RowKit
set_option linter.unusedVariables false
set_option linter.unusedSimpArgs false

theorem RdCon.drew {w : World} {v : Value} {c : Con} (h : RdCon w v c) : RdCon w.drew v c := h
theorem Blk5.drew {w : World} {b : Nat} {t : TypeId} {u0 u1 u2 u3 u4 : Value} (h : Blk5 w b t u0 u1 u2 u3 u4) : Blk5 w.drew b t u0 u1 u2 u3 u4 := h

end Go.Proofs.YtipapmmjfoaddaaGreat
