/-
  No cell of these rows narrows 'for every input' (looked for: loops, veiled, ifaces, maps, wideKeys, modest, calm, conditions, laid).
  DERIVED. THE GIVEN ROWS OF THIS SEAT. 12 by the template 'for every input the law returns true; each argument reads behind the call as it read before'; 0 by the template 'total and deterministic' (their statements: YtkmdkbnphmadpaaTotals.lean).
  GIVEN WITH THE SEED: the statements are not yours to turn. If you find one false, say at which input.
  Laid BY PROGRAM, IN A SANDBOX (cutbox-rows.mjs): the forced cells as the released guide's own fill.sh prints them over the translation bcaacd1de3f6dffb… (all of the seat's roots in one cut). By AI agents, Wed Nov 11 2026. No macro, syntax, notation, axiom, sorry.
-/
import Derived.Test.YtkmdkbnphmadpaaChecked
import GoSem.Claim
import GoSem.ClaimJoined
import GoSem.ClaimMapViews
import Derived.JoinedTies
import Derived.KernelRfl
namespace Go.Proofs.Ytkmdkbnphmadpaa
/- THE CELL 'sum', in the pinned program and in every row, IS THE sha256 OF THE DUMP (.gsa) THAT YtkmdkbnphmadpaaProg.lean LOADS. Nothing in Lean hashes anything: it is a label: what it is worth is what the hold of that sum in a sandbox is worth. -/
noncomputable def Try.pinned : Pinned := { name := "ytkmdkbnphmadpaa", sum := "bcaacd1de3f6dffb563dca46fa75ec04e483fa1a5f76ca0b033916d3e12fb52d", checked := Try.checked }
namespace Rows
def none {H : Type} : Left H := { results := [], args := [] }

/-- 'laws.FnExactValidConstraint': WHATEVER THE INPUT: true; the input reads as it did. -/
def fnExactValidConstraintSpec : ChangeSpec := { name := "fnExactValidConstraint", fn := fun _ => fun
  | [d1, d2] => { results := [.lit (.bool true)], args := [d1, d2] }
  | _ => none }
def fnExactValidConstraintRow : OpenClaim := { program := "ytkmdkbnphmadpaa", sum := "bcaacd1de3f6dffb563dca46fa75ec04e483fa1a5f76ca0b033916d3e12fb52d", func := "loop.example/constraintsolver/laws.FnExactValidConstraint", spec := "fnExactValidConstraint", unfollowed := true, recurses := true, apart := false }
def FnExactValidConstraintSaid : Prop := fnExactValidConstraintRow.holds Try.pinned (OpenSpec.ofChange fnExactValidConstraintSpec)

/-- ITS FALSE NEIGHBOUR: 'it returns false'. Refute it at one input. -/
def fnExactValidConstraintWrong : ChangeSpec := { name := "fnExactValidConstraint", fn := fun _ => fun
  | [d1, d2] => { results := [.lit (.bool false)], args := [d1, d2] }
  | _ => none }
def FnExactValidConstraintWrongFalsely : Prop := fnExactValidConstraintRow.holds Try.pinned (OpenSpec.ofChange fnExactValidConstraintWrong)

/-- 'laws.FnExactValidModel': WHATEVER THE INPUT: true; the input reads as it did. -/
def fnExactValidModelSpec : ChangeSpec := { name := "fnExactValidModel", fn := fun _ => fun
  | [d] => { results := [.lit (.bool true)], args := [d] }
  | _ => none }
def fnExactValidModelRow : OpenClaim := { program := "ytkmdkbnphmadpaa", sum := "bcaacd1de3f6dffb563dca46fa75ec04e483fa1a5f76ca0b033916d3e12fb52d", func := "loop.example/constraintsolver/laws.FnExactValidModel", spec := "fnExactValidModel", unfollowed := true, recurses := true, apart := false }
def FnExactValidModelSaid : Prop := fnExactValidModelRow.holds Try.pinned (OpenSpec.ofChange fnExactValidModelSpec)

/-- ITS FALSE NEIGHBOUR: 'it returns false'. Refute it at one input. -/
def fnExactValidModelWrong : ChangeSpec := { name := "fnExactValidModel", fn := fun _ => fun
  | [d] => { results := [.lit (.bool false)], args := [d] }
  | _ => none }
def FnExactValidModelWrongFalsely : Prop := fnExactValidModelRow.holds Try.pinned (OpenSpec.ofChange fnExactValidModelWrong)

/-- 'laws.FnExactIsSolution': WHATEVER THE INPUT: true; the input reads as it did. -/
def fnExactIsSolutionSpec : ChangeSpec := { name := "fnExactIsSolution", fn := fun _ => fun
  | [d1, d2] => { results := [.lit (.bool true)], args := [d1, d2] }
  | _ => none }
def fnExactIsSolutionRow : OpenClaim := { program := "ytkmdkbnphmadpaa", sum := "bcaacd1de3f6dffb563dca46fa75ec04e483fa1a5f76ca0b033916d3e12fb52d", func := "loop.example/constraintsolver/laws.FnExactIsSolution", spec := "fnExactIsSolution", unfollowed := true, recurses := true, apart := false }
def FnExactIsSolutionSaid : Prop := fnExactIsSolutionRow.holds Try.pinned (OpenSpec.ofChange fnExactIsSolutionSpec)

/-- ITS FALSE NEIGHBOUR: 'it returns false'. Refute it at one input. -/
def fnExactIsSolutionWrong : ChangeSpec := { name := "fnExactIsSolution", fn := fun _ => fun
  | [d1, d2] => { results := [.lit (.bool false)], args := [d1, d2] }
  | _ => none }
def FnExactIsSolutionWrongFalsely : Prop := fnExactIsSolutionRow.holds Try.pinned (OpenSpec.ofChange fnExactIsSolutionWrong)

/-- 'laws.FnExactViolated': WHATEVER THE INPUT: true; the input reads as it did. -/
def fnExactViolatedSpec : ChangeSpec := { name := "fnExactViolated", fn := fun _ => fun
  | [d1, d2] => { results := [.lit (.bool true)], args := [d1, d2] }
  | _ => none }
def fnExactViolatedRow : OpenClaim := { program := "ytkmdkbnphmadpaa", sum := "bcaacd1de3f6dffb563dca46fa75ec04e483fa1a5f76ca0b033916d3e12fb52d", func := "loop.example/constraintsolver/laws.FnExactViolated", spec := "fnExactViolated", unfollowed := true, recurses := true, apart := false }
def FnExactViolatedSaid : Prop := fnExactViolatedRow.holds Try.pinned (OpenSpec.ofChange fnExactViolatedSpec)

/-- ITS FALSE NEIGHBOUR: 'it returns false'. Refute it at one input. -/
def fnExactViolatedWrong : ChangeSpec := { name := "fnExactViolated", fn := fun _ => fun
  | [d1, d2] => { results := [.lit (.bool false)], args := [d1, d2] }
  | _ => none }
def FnExactViolatedWrongFalsely : Prop := fnExactViolatedRow.holds Try.pinned (OpenSpec.ofChange fnExactViolatedWrong)

/-- 'laws.FnExactWithConstraint': WHATEVER THE INPUT: true; the input reads as it did. -/
def fnExactWithConstraintSpec : ChangeSpec := { name := "fnExactWithConstraint", fn := fun _ => fun
  | [d1, d2] => { results := [.lit (.bool true)], args := [d1, d2] }
  | _ => none }
def fnExactWithConstraintRow : OpenClaim := { program := "ytkmdkbnphmadpaa", sum := "bcaacd1de3f6dffb563dca46fa75ec04e483fa1a5f76ca0b033916d3e12fb52d", func := "loop.example/constraintsolver/laws.FnExactWithConstraint", spec := "fnExactWithConstraint", unfollowed := true, recurses := true, apart := false }
def FnExactWithConstraintSaid : Prop := fnExactWithConstraintRow.holds Try.pinned (OpenSpec.ofChange fnExactWithConstraintSpec)

/-- ITS FALSE NEIGHBOUR: 'it returns false'. Refute it at one input. -/
def fnExactWithConstraintWrong : ChangeSpec := { name := "fnExactWithConstraint", fn := fun _ => fun
  | [d1, d2] => { results := [.lit (.bool false)], args := [d1, d2] }
  | _ => none }
def FnExactWithConstraintWrongFalsely : Prop := fnExactWithConstraintRow.holds Try.pinned (OpenSpec.ofChange fnExactWithConstraintWrong)

/-- 'laws.FnExactWithoutConstraint': WHATEVER THE INPUT: true; the input reads as it did. -/
def fnExactWithoutConstraintSpec : ChangeSpec := { name := "fnExactWithoutConstraint", fn := fun _ => fun
  | [d1, d2] => { results := [.lit (.bool true)], args := [d1, d2] }
  | _ => none }
def fnExactWithoutConstraintRow : OpenClaim := { program := "ytkmdkbnphmadpaa", sum := "bcaacd1de3f6dffb563dca46fa75ec04e483fa1a5f76ca0b033916d3e12fb52d", func := "loop.example/constraintsolver/laws.FnExactWithoutConstraint", spec := "fnExactWithoutConstraint", unfollowed := true, recurses := true, apart := false }
def FnExactWithoutConstraintSaid : Prop := fnExactWithoutConstraintRow.holds Try.pinned (OpenSpec.ofChange fnExactWithoutConstraintSpec)

/-- ITS FALSE NEIGHBOUR: 'it returns false'. Refute it at one input. -/
def fnExactWithoutConstraintWrong : ChangeSpec := { name := "fnExactWithoutConstraint", fn := fun _ => fun
  | [d1, d2] => { results := [.lit (.bool false)], args := [d1, d2] }
  | _ => none }
def FnExactWithoutConstraintWrongFalsely : Prop := fnExactWithoutConstraintRow.holds Try.pinned (OpenSpec.ofChange fnExactWithoutConstraintWrong)

/-- 'laws.FnExactFilter': WHATEVER THE INPUT: true; the input reads as it did. -/
def fnExactFilterSpec : ChangeSpec := { name := "fnExactFilter", fn := fun _ => fun
  | [d1, d2] => { results := [.lit (.bool true)], args := [d1, d2] }
  | _ => none }
def fnExactFilterRow : OpenClaim := { program := "ytkmdkbnphmadpaa", sum := "bcaacd1de3f6dffb563dca46fa75ec04e483fa1a5f76ca0b033916d3e12fb52d", func := "loop.example/constraintsolver/laws.FnExactFilter", spec := "fnExactFilter", unfollowed := true, recurses := true, apart := false }
def FnExactFilterSaid : Prop := fnExactFilterRow.holds Try.pinned (OpenSpec.ofChange fnExactFilterSpec)

/-- ITS FALSE NEIGHBOUR: 'it returns false'. Refute it at one input. -/
def fnExactFilterWrong : ChangeSpec := { name := "fnExactFilter", fn := fun _ => fun
  | [d1, d2] => { results := [.lit (.bool false)], args := [d1, d2] }
  | _ => none }
def FnExactFilterWrongFalsely : Prop := fnExactFilterRow.holds Try.pinned (OpenSpec.ofChange fnExactFilterWrong)

/-- 'laws.FnExactObjectiveValue': WHATEVER THE INPUT: true; the input reads as it did. -/
def fnExactObjectiveValueSpec : ChangeSpec := { name := "fnExactObjectiveValue", fn := fun _ => fun
  | [d1, d2] => { results := [.lit (.bool true)], args := [d1, d2] }
  | _ => none }
def fnExactObjectiveValueRow : OpenClaim := { program := "ytkmdkbnphmadpaa", sum := "bcaacd1de3f6dffb563dca46fa75ec04e483fa1a5f76ca0b033916d3e12fb52d", func := "loop.example/constraintsolver/laws.FnExactObjectiveValue", spec := "fnExactObjectiveValue", apart := false }
def FnExactObjectiveValueSaid : Prop := fnExactObjectiveValueRow.holds Try.pinned (OpenSpec.ofChange fnExactObjectiveValueSpec)

/-- ITS FALSE NEIGHBOUR: 'it returns false'. Refute it at one input. -/
def fnExactObjectiveValueWrong : ChangeSpec := { name := "fnExactObjectiveValue", fn := fun _ => fun
  | [d1, d2] => { results := [.lit (.bool false)], args := [d1, d2] }
  | _ => none }
def FnExactObjectiveValueWrongFalsely : Prop := fnExactObjectiveValueRow.holds Try.pinned (OpenSpec.ofChange fnExactObjectiveValueWrong)

/-- 'laws.FnObjective': WHATEVER THE INPUT: true; the input reads as it did. -/
def fnObjectiveSpec : ChangeSpec := { name := "fnObjective", fn := fun _ => fun
  | [d] => { results := [.lit (.bool true)], args := [d] }
  | _ => none }
def fnObjectiveRow : OpenClaim := { program := "ytkmdkbnphmadpaa", sum := "bcaacd1de3f6dffb563dca46fa75ec04e483fa1a5f76ca0b033916d3e12fb52d", func := "loop.example/constraintsolver/laws.FnObjective", spec := "fnObjective", apart := false }
def FnObjectiveSaid : Prop := fnObjectiveRow.holds Try.pinned (OpenSpec.ofChange fnObjectiveSpec)

/-- ITS FALSE NEIGHBOUR: 'it returns false'. Refute it at one input. -/
def fnObjectiveWrong : ChangeSpec := { name := "fnObjective", fn := fun _ => fun
  | [d] => { results := [.lit (.bool false)], args := [d] }
  | _ => none }
def FnObjectiveWrongFalsely : Prop := fnObjectiveRow.holds Try.pinned (OpenSpec.ofChange fnObjectiveWrong)

/-- 'laws.FnExactIsConsistent': WHATEVER THE INPUT: true; the input reads as it did. -/
def fnExactIsConsistentSpec : ChangeSpec := { name := "fnExactIsConsistent", fn := fun _ => fun
  | [d] => { results := [.lit (.bool true)], args := [d] }
  | _ => none }
def fnExactIsConsistentRow : OpenClaim := { program := "ytkmdkbnphmadpaa", sum := "bcaacd1de3f6dffb563dca46fa75ec04e483fa1a5f76ca0b033916d3e12fb52d", func := "loop.example/constraintsolver/laws.FnExactIsConsistent", spec := "fnExactIsConsistent", unfollowed := true, recurses := true, apart := false }
def FnExactIsConsistentSaid : Prop := fnExactIsConsistentRow.holds Try.pinned (OpenSpec.ofChange fnExactIsConsistentSpec)

/-- ITS FALSE NEIGHBOUR: 'it returns false'. Refute it at one input. -/
def fnExactIsConsistentWrong : ChangeSpec := { name := "fnExactIsConsistent", fn := fun _ => fun
  | [d] => { results := [.lit (.bool false)], args := [d] }
  | _ => none }
def FnExactIsConsistentWrongFalsely : Prop := fnExactIsConsistentRow.holds Try.pinned (OpenSpec.ofChange fnExactIsConsistentWrong)

/-- 'laws.FnExactPropagate': WHATEVER THE INPUT: true; the input reads as it did. -/
def fnExactPropagateSpec : ChangeSpec := { name := "fnExactPropagate", fn := fun _ => fun
  | [d] => { results := [.lit (.bool true)], args := [d] }
  | _ => none }
def fnExactPropagateRow : OpenClaim := { program := "ytkmdkbnphmadpaa", sum := "bcaacd1de3f6dffb563dca46fa75ec04e483fa1a5f76ca0b033916d3e12fb52d", func := "loop.example/constraintsolver/laws.FnExactPropagate", spec := "fnExactPropagate", unfollowed := true, recurses := true, apart := false }
def FnExactPropagateSaid : Prop := fnExactPropagateRow.holds Try.pinned (OpenSpec.ofChange fnExactPropagateSpec)

/-- ITS FALSE NEIGHBOUR: 'it returns false'. Refute it at one input. -/
def fnExactPropagateWrong : ChangeSpec := { name := "fnExactPropagate", fn := fun _ => fun
  | [d] => { results := [.lit (.bool false)], args := [d] }
  | _ => none }
def FnExactPropagateWrongFalsely : Prop := fnExactPropagateRow.holds Try.pinned (OpenSpec.ofChange fnExactPropagateWrong)

/-- 'laws.FnExactIsExplanation': WHATEVER THE INPUT: true; the input reads as it did. -/
def fnExactIsExplanationSpec : ChangeSpec := { name := "fnExactIsExplanation", fn := fun _ => fun
  | [d1, d2, d3, d4] => { results := [.lit (.bool true)], args := [d1, d2, d3, d4] }
  | _ => none }
def fnExactIsExplanationRow : OpenClaim := { program := "ytkmdkbnphmadpaa", sum := "bcaacd1de3f6dffb563dca46fa75ec04e483fa1a5f76ca0b033916d3e12fb52d", func := "loop.example/constraintsolver/laws.FnExactIsExplanation", spec := "fnExactIsExplanation", unfollowed := true, recurses := true, apart := false }
def FnExactIsExplanationSaid : Prop := fnExactIsExplanationRow.holds Try.pinned (OpenSpec.ofChange fnExactIsExplanationSpec)

/-- ITS FALSE NEIGHBOUR: 'it returns false'. Refute it at one input. -/
def fnExactIsExplanationWrong : ChangeSpec := { name := "fnExactIsExplanation", fn := fun _ => fun
  | [d1, d2, d3, d4] => { results := [.lit (.bool false)], args := [d1, d2, d3, d4] }
  | _ => none }
def FnExactIsExplanationWrongFalsely : Prop := fnExactIsExplanationRow.holds Try.pinned (OpenSpec.ofChange fnExactIsExplanationWrong)

/- THE SECOND FORM. 'bulk': how many values and letters a reading holds, each counted each time it is reached (what is shared counts as often as it is met; a slice's spare places count too). A statement '..UptoSaid' is the law's where the arguments, and the package variables that the reading takes, are together of bulk at most 1048576: NARROWER than '..Said'. Prove '..Said' where nothing that the law and all that it calls make is longer than what came in: it says more and counts as full. Else prove '..UptoSaid'. A law counts once. -/
mutual
def uptoBulk {H : Type} : DataW H → Nat
  | .lit (.string bytes) => bytes.length + 1
  | .lit _ => 1
  | .nil => 1
  | .ptr d => uptoBulk d + 1
  | .slice elems spare => uptoBulkAll elems + uptoBulkAll spare + 1
  | .agg parts => uptoBulkAll parts + 1
  | .iface _ d => uptoBulk d + 1
  | .map entries => uptoBulkEntries entries + 1
  | .held _ => 1
def uptoBulkAll {H : Type} : List (DataW H) → Nat
  | [] => 0
  | d :: r => uptoBulk d + uptoBulkAll r
def uptoBulkEntries {H : Type} : List (Lit × DataW H) → Nat
  | [] => 0
  | x :: r => uptoBulkEntry x + uptoBulkEntries r
def uptoBulkEntry {H : Type} : Lit × DataW H → Nat
  | (.string bytes, d) => bytes.length + uptoBulk d + 1
  | (_, d) => uptoBulk d + 1
 end
def uptoSmall : (H : Type) → List (DataW H) → Bool := fun _ ds => decide (uptoBulkAll ds ≤ 1048576)
def OpenSpec.upto (s : _root_.Go.ChangeSpec) : _root_.Go.OpenSpec := { _root_.Go.OpenSpec.ofChange s with cond := some uptoSmall }

/-- 'laws.FnExactValidConstraint', WHERE WHAT IT READS IS OF BULK AT MOST 1048576: true; the input reads as it did. -/
def fnExactValidConstraintUptoRow : OpenClaim := { program := "ytkmdkbnphmadpaa", sum := "bcaacd1de3f6dffb563dca46fa75ec04e483fa1a5f76ca0b033916d3e12fb52d", func := "loop.example/constraintsolver/laws.FnExactValidConstraint", spec := "fnExactValidConstraint", unfollowed := true, recurses := true, apart := false, narrowed := true }
def FnExactValidConstraintUptoSaid : Prop := fnExactValidConstraintUptoRow.holds Try.pinned (OpenSpec.upto fnExactValidConstraintSpec)

/-- 'laws.FnExactValidModel', WHERE WHAT IT READS IS OF BULK AT MOST 1048576: true; the input reads as it did. -/
def fnExactValidModelUptoRow : OpenClaim := { program := "ytkmdkbnphmadpaa", sum := "bcaacd1de3f6dffb563dca46fa75ec04e483fa1a5f76ca0b033916d3e12fb52d", func := "loop.example/constraintsolver/laws.FnExactValidModel", spec := "fnExactValidModel", unfollowed := true, recurses := true, apart := false, narrowed := true }
def FnExactValidModelUptoSaid : Prop := fnExactValidModelUptoRow.holds Try.pinned (OpenSpec.upto fnExactValidModelSpec)

/-- 'laws.FnExactIsSolution', WHERE WHAT IT READS IS OF BULK AT MOST 1048576: true; the input reads as it did. -/
def fnExactIsSolutionUptoRow : OpenClaim := { program := "ytkmdkbnphmadpaa", sum := "bcaacd1de3f6dffb563dca46fa75ec04e483fa1a5f76ca0b033916d3e12fb52d", func := "loop.example/constraintsolver/laws.FnExactIsSolution", spec := "fnExactIsSolution", unfollowed := true, recurses := true, apart := false, narrowed := true }
def FnExactIsSolutionUptoSaid : Prop := fnExactIsSolutionUptoRow.holds Try.pinned (OpenSpec.upto fnExactIsSolutionSpec)

/-- 'laws.FnExactViolated', WHERE WHAT IT READS IS OF BULK AT MOST 1048576: true; the input reads as it did. -/
def fnExactViolatedUptoRow : OpenClaim := { program := "ytkmdkbnphmadpaa", sum := "bcaacd1de3f6dffb563dca46fa75ec04e483fa1a5f76ca0b033916d3e12fb52d", func := "loop.example/constraintsolver/laws.FnExactViolated", spec := "fnExactViolated", unfollowed := true, recurses := true, apart := false, narrowed := true }
def FnExactViolatedUptoSaid : Prop := fnExactViolatedUptoRow.holds Try.pinned (OpenSpec.upto fnExactViolatedSpec)

/-- 'laws.FnExactWithConstraint', WHERE WHAT IT READS IS OF BULK AT MOST 1048576: true; the input reads as it did. -/
def fnExactWithConstraintUptoRow : OpenClaim := { program := "ytkmdkbnphmadpaa", sum := "bcaacd1de3f6dffb563dca46fa75ec04e483fa1a5f76ca0b033916d3e12fb52d", func := "loop.example/constraintsolver/laws.FnExactWithConstraint", spec := "fnExactWithConstraint", unfollowed := true, recurses := true, apart := false, narrowed := true }
def FnExactWithConstraintUptoSaid : Prop := fnExactWithConstraintUptoRow.holds Try.pinned (OpenSpec.upto fnExactWithConstraintSpec)

/-- 'laws.FnExactWithoutConstraint', WHERE WHAT IT READS IS OF BULK AT MOST 1048576: true; the input reads as it did. -/
def fnExactWithoutConstraintUptoRow : OpenClaim := { program := "ytkmdkbnphmadpaa", sum := "bcaacd1de3f6dffb563dca46fa75ec04e483fa1a5f76ca0b033916d3e12fb52d", func := "loop.example/constraintsolver/laws.FnExactWithoutConstraint", spec := "fnExactWithoutConstraint", unfollowed := true, recurses := true, apart := false, narrowed := true }
def FnExactWithoutConstraintUptoSaid : Prop := fnExactWithoutConstraintUptoRow.holds Try.pinned (OpenSpec.upto fnExactWithoutConstraintSpec)

/-- 'laws.FnExactFilter', WHERE WHAT IT READS IS OF BULK AT MOST 1048576: true; the input reads as it did. -/
def fnExactFilterUptoRow : OpenClaim := { program := "ytkmdkbnphmadpaa", sum := "bcaacd1de3f6dffb563dca46fa75ec04e483fa1a5f76ca0b033916d3e12fb52d", func := "loop.example/constraintsolver/laws.FnExactFilter", spec := "fnExactFilter", unfollowed := true, recurses := true, apart := false, narrowed := true }
def FnExactFilterUptoSaid : Prop := fnExactFilterUptoRow.holds Try.pinned (OpenSpec.upto fnExactFilterSpec)

/-- 'laws.FnExactObjectiveValue', WHERE WHAT IT READS IS OF BULK AT MOST 1048576: true; the input reads as it did. -/
def fnExactObjectiveValueUptoRow : OpenClaim := { program := "ytkmdkbnphmadpaa", sum := "bcaacd1de3f6dffb563dca46fa75ec04e483fa1a5f76ca0b033916d3e12fb52d", func := "loop.example/constraintsolver/laws.FnExactObjectiveValue", spec := "fnExactObjectiveValue", apart := false, narrowed := true }
def FnExactObjectiveValueUptoSaid : Prop := fnExactObjectiveValueUptoRow.holds Try.pinned (OpenSpec.upto fnExactObjectiveValueSpec)

/-- 'laws.FnObjective', WHERE WHAT IT READS IS OF BULK AT MOST 1048576: true; the input reads as it did. -/
def fnObjectiveUptoRow : OpenClaim := { program := "ytkmdkbnphmadpaa", sum := "bcaacd1de3f6dffb563dca46fa75ec04e483fa1a5f76ca0b033916d3e12fb52d", func := "loop.example/constraintsolver/laws.FnObjective", spec := "fnObjective", apart := false, narrowed := true }
def FnObjectiveUptoSaid : Prop := fnObjectiveUptoRow.holds Try.pinned (OpenSpec.upto fnObjectiveSpec)

/-- 'laws.FnExactIsConsistent', WHERE WHAT IT READS IS OF BULK AT MOST 1048576: true; the input reads as it did. -/
def fnExactIsConsistentUptoRow : OpenClaim := { program := "ytkmdkbnphmadpaa", sum := "bcaacd1de3f6dffb563dca46fa75ec04e483fa1a5f76ca0b033916d3e12fb52d", func := "loop.example/constraintsolver/laws.FnExactIsConsistent", spec := "fnExactIsConsistent", unfollowed := true, recurses := true, apart := false, narrowed := true }
def FnExactIsConsistentUptoSaid : Prop := fnExactIsConsistentUptoRow.holds Try.pinned (OpenSpec.upto fnExactIsConsistentSpec)

/-- 'laws.FnExactPropagate', WHERE WHAT IT READS IS OF BULK AT MOST 1048576: true; the input reads as it did. -/
def fnExactPropagateUptoRow : OpenClaim := { program := "ytkmdkbnphmadpaa", sum := "bcaacd1de3f6dffb563dca46fa75ec04e483fa1a5f76ca0b033916d3e12fb52d", func := "loop.example/constraintsolver/laws.FnExactPropagate", spec := "fnExactPropagate", unfollowed := true, recurses := true, apart := false, narrowed := true }
def FnExactPropagateUptoSaid : Prop := fnExactPropagateUptoRow.holds Try.pinned (OpenSpec.upto fnExactPropagateSpec)

/-- 'laws.FnExactIsExplanation', WHERE WHAT IT READS IS OF BULK AT MOST 1048576: true; the input reads as it did. -/
def fnExactIsExplanationUptoRow : OpenClaim := { program := "ytkmdkbnphmadpaa", sum := "bcaacd1de3f6dffb563dca46fa75ec04e483fa1a5f76ca0b033916d3e12fb52d", func := "loop.example/constraintsolver/laws.FnExactIsExplanation", spec := "fnExactIsExplanation", unfollowed := true, recurses := true, apart := false, narrowed := true }
def FnExactIsExplanationUptoSaid : Prop := fnExactIsExplanationUptoRow.holds Try.pinned (OpenSpec.upto fnExactIsExplanationSpec)

end Rows
end Go.Proofs.Ytkmdkbnphmadpaa
