/- The law that a domain is the set of its values. -/
import Derived.Test.YtklecdjbhgfglaaDoorBnd
import Derived.Test.YtklecdjbhgfglaaDoorEqI
import Derived.Test.YtklecdjbhgfglaaDoorDraw
namespace Go.Proofs.YtklecdjbhgfglaaDoor
open Go.ChangeShapes Go.WideShapes Go.ChangeAt Go.RowKit

theorem has_mem : ∀ n : Nat, n < 64 → ∀ k : Nat, k < 8 → domB n ((k : Int) - 1) = decide (((k : Int) - 1) ∈ dvals n) := by decide +kernel
theorem size_len : ∀ n : Nat, n < 64 → dsize n = (dvals n).length := by decide +kernel
theorem low_head : ∀ n : Nat, n < 64 → dvals n ≠ [] → lowD n = (dvals n)[0]?.getD 0 ∧ highD n = (dvals n)[(dvals n).length - 1]?.getD 0 := by decide +kernel
theorem low_none : ∀ n : Nat, n < 64 → dvals n = [] → lowD n = -1 ∧ highD n = -1 ∧ dsize n = 0 := by decide +kernel
end Go.Proofs.YtklecdjbhgfglaaDoor
