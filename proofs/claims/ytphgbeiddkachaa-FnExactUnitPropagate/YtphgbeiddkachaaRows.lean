/-
  No cell of these rows narrows 'for every input' (looked for: loops, veiled, ifaces, maps, wideKeys, modest, calm, conditions, laid).
  DERIVED. THE GIVEN ROWS OF THIS SEAT. 7 by the template 'for every input the law returns true; each argument reads behind the call as it read before'; 0 by the template 'total and deterministic' (their statements: YtphgbeiddkachaaTotals.lean).
  GIVEN WITH THE SEED: the statements are not yours to turn. If you find one false, say at which input.
  Laid BY PROGRAM, IN A SANDBOX (cutbox-rows.mjs): the forced cells as the released guide's own fill.sh prints them over the translation 6293201926b1068d… (all of the seat's roots in one cut). By AI agents, Wed Nov 11 2026. No macro, syntax, notation, axiom, sorry.
-/
import Derived.Test.YtphgbeiddkachaaChecked
import GoSem.Claim
import GoSem.ClaimJoined
import GoSem.ClaimMapViews
import Derived.JoinedTies
import Derived.KernelRfl
namespace Go.Proofs.Ytphgbeiddkachaa
/- THE CELL 'sum', in the pinned program and in every row, IS THE sha256 OF THE DUMP (.gsa) THAT YtphgbeiddkachaaProg.lean LOADS. Nothing in Lean hashes anything: it is a label: what it is worth is what the hold of that sum in a sandbox is worth. -/
noncomputable def Try.pinned : Pinned := { name := "ytphgbeiddkachaa", sum := "6293201926b1068dccd62dad0a8365a7cf3168e8b7f679f69abfe47c631a3460", checked := Try.checked }
namespace Rows
def none {H : Type} : Left H := { results := [], args := [] }

/-- 'laws.FnExactValidClause': WHATEVER THE INPUT: true; the input reads as it did. -/
def fnExactValidClauseSpec : ChangeSpec := { name := "fnExactValidClause", fn := fun _ => fun
  | [d1, d2] => { results := [.lit (.bool true)], args := [d1, d2] }
  | _ => none }
def fnExactValidClauseRow : OpenClaim := { program := "ytphgbeiddkachaa", sum := "6293201926b1068dccd62dad0a8365a7cf3168e8b7f679f69abfe47c631a3460", func := "loop.example/constraintsolver/laws.FnExactValidClause", spec := "fnExactValidClause", apart := false }
def FnExactValidClauseSaid : Prop := fnExactValidClauseRow.holds Try.pinned (OpenSpec.ofChange fnExactValidClauseSpec)

/-- ITS FALSE NEIGHBOUR: 'it returns false'. Refute it at one input. -/
def fnExactValidClauseWrong : ChangeSpec := { name := "fnExactValidClause", fn := fun _ => fun
  | [d1, d2] => { results := [.lit (.bool false)], args := [d1, d2] }
  | _ => none }
def FnExactValidClauseWrongFalsely : Prop := fnExactValidClauseRow.holds Try.pinned (OpenSpec.ofChange fnExactValidClauseWrong)

/-- 'laws.FnExactClauseHolds': WHATEVER THE INPUT: true; the input reads as it did. -/
def fnExactClauseHoldsSpec : ChangeSpec := { name := "fnExactClauseHolds", fn := fun _ => fun
  | [d1, d2] => { results := [.lit (.bool true)], args := [d1, d2] }
  | _ => none }
def fnExactClauseHoldsRow : OpenClaim := { program := "ytphgbeiddkachaa", sum := "6293201926b1068dccd62dad0a8365a7cf3168e8b7f679f69abfe47c631a3460", func := "loop.example/constraintsolver/laws.FnExactClauseHolds", spec := "fnExactClauseHolds", unfollowed := true, recurses := true, apart := false }
def FnExactClauseHoldsSaid : Prop := fnExactClauseHoldsRow.holds Try.pinned (OpenSpec.ofChange fnExactClauseHoldsSpec)

/-- ITS FALSE NEIGHBOUR: 'it returns false'. Refute it at one input. -/
def fnExactClauseHoldsWrong : ChangeSpec := { name := "fnExactClauseHolds", fn := fun _ => fun
  | [d1, d2] => { results := [.lit (.bool false)], args := [d1, d2] }
  | _ => none }
def FnExactClauseHoldsWrongFalsely : Prop := fnExactClauseHoldsRow.holds Try.pinned (OpenSpec.ofChange fnExactClauseHoldsWrong)

/-- 'laws.FnExactSubsumes': WHATEVER THE INPUT: true; the input reads as it did. -/
def fnExactSubsumesSpec : ChangeSpec := { name := "fnExactSubsumes", fn := fun _ => fun
  | [d1, d2, d3] => { results := [.lit (.bool true)], args := [d1, d2, d3] }
  | _ => none }
def fnExactSubsumesRow : OpenClaim := { program := "ytphgbeiddkachaa", sum := "6293201926b1068dccd62dad0a8365a7cf3168e8b7f679f69abfe47c631a3460", func := "loop.example/constraintsolver/laws.FnExactSubsumes", spec := "fnExactSubsumes", unfollowed := true, recurses := true, apart := false }
def FnExactSubsumesSaid : Prop := fnExactSubsumesRow.holds Try.pinned (OpenSpec.ofChange fnExactSubsumesSpec)

/-- ITS FALSE NEIGHBOUR: 'it returns false'. Refute it at one input. -/
def fnExactSubsumesWrong : ChangeSpec := { name := "fnExactSubsumes", fn := fun _ => fun
  | [d1, d2, d3] => { results := [.lit (.bool false)], args := [d1, d2, d3] }
  | _ => none }
def FnExactSubsumesWrongFalsely : Prop := fnExactSubsumesRow.holds Try.pinned (OpenSpec.ofChange fnExactSubsumesWrong)

/-- 'laws.FnExactUnitPropagate': WHATEVER THE INPUT: true; the input reads as it did. -/
def fnExactUnitPropagateSpec : ChangeSpec := { name := "fnExactUnitPropagate", fn := fun _ => fun
  | [d1, d2] => { results := [.lit (.bool true)], args := [d1, d2] }
  | _ => none }
def fnExactUnitPropagateRow : OpenClaim := { program := "ytphgbeiddkachaa", sum := "6293201926b1068dccd62dad0a8365a7cf3168e8b7f679f69abfe47c631a3460", func := "loop.example/constraintsolver/laws.FnExactUnitPropagate", spec := "fnExactUnitPropagate", apart := false }
def FnExactUnitPropagateSaid : Prop := fnExactUnitPropagateRow.holds Try.pinned (OpenSpec.ofChange fnExactUnitPropagateSpec)

/-- ITS FALSE NEIGHBOUR: 'it returns false'. Refute it at one input. -/
def fnExactUnitPropagateWrong : ChangeSpec := { name := "fnExactUnitPropagate", fn := fun _ => fun
  | [d1, d2] => { results := [.lit (.bool false)], args := [d1, d2] }
  | _ => none }
def FnExactUnitPropagateWrongFalsely : Prop := fnExactUnitPropagateRow.holds Try.pinned (OpenSpec.ofChange fnExactUnitPropagateWrong)

/-- 'laws.FnExactResolve': WHATEVER THE INPUT: true; the input reads as it did. -/
def fnExactResolveSpec : ChangeSpec := { name := "fnExactResolve", fn := fun _ => fun
  | [d1, d2, d3, d4] => { results := [.lit (.bool true)], args := [d1, d2, d3, d4] }
  | _ => none }
def fnExactResolveRow : OpenClaim := { program := "ytphgbeiddkachaa", sum := "6293201926b1068dccd62dad0a8365a7cf3168e8b7f679f69abfe47c631a3460", func := "loop.example/constraintsolver/laws.FnExactResolve", spec := "fnExactResolve", unfollowed := true, recurses := true, apart := false }
def FnExactResolveSaid : Prop := fnExactResolveRow.holds Try.pinned (OpenSpec.ofChange fnExactResolveSpec)

/-- ITS FALSE NEIGHBOUR: 'it returns false'. Refute it at one input. -/
def fnExactResolveWrong : ChangeSpec := { name := "fnExactResolve", fn := fun _ => fun
  | [d1, d2, d3, d4] => { results := [.lit (.bool false)], args := [d1, d2, d3, d4] }
  | _ => none }
def FnExactResolveWrongFalsely : Prop := fnExactResolveRow.holds Try.pinned (OpenSpec.ofChange fnExactResolveWrong)

/-- 'laws.FnExactIsExplanation': WHATEVER THE INPUT: true; the input reads as it did. -/
def fnExactIsExplanationSpec : ChangeSpec := { name := "fnExactIsExplanation", fn := fun _ => fun
  | [d1, d2, d3, d4] => { results := [.lit (.bool true)], args := [d1, d2, d3, d4] }
  | _ => none }
def fnExactIsExplanationRow : OpenClaim := { program := "ytphgbeiddkachaa", sum := "6293201926b1068dccd62dad0a8365a7cf3168e8b7f679f69abfe47c631a3460", func := "loop.example/constraintsolver/laws.FnExactIsExplanation", spec := "fnExactIsExplanation", unfollowed := true, recurses := true, apart := false }
def FnExactIsExplanationSaid : Prop := fnExactIsExplanationRow.holds Try.pinned (OpenSpec.ofChange fnExactIsExplanationSpec)

/-- ITS FALSE NEIGHBOUR: 'it returns false'. Refute it at one input. -/
def fnExactIsExplanationWrong : ChangeSpec := { name := "fnExactIsExplanation", fn := fun _ => fun
  | [d1, d2, d3, d4] => { results := [.lit (.bool false)], args := [d1, d2, d3, d4] }
  | _ => none }
def FnExactIsExplanationWrongFalsely : Prop := fnExactIsExplanationRow.holds Try.pinned (OpenSpec.ofChange fnExactIsExplanationWrong)

/-- 'laws.FnExactExplain': WHATEVER THE INPUT: true; the input reads as it did. -/
def fnExactExplainSpec : ChangeSpec := { name := "fnExactExplain", fn := fun _ => fun
  | [d1, d2, d3] => { results := [.lit (.bool true)], args := [d1, d2, d3] }
  | _ => none }
def fnExactExplainRow : OpenClaim := { program := "ytphgbeiddkachaa", sum := "6293201926b1068dccd62dad0a8365a7cf3168e8b7f679f69abfe47c631a3460", func := "loop.example/constraintsolver/laws.FnExactExplain", spec := "fnExactExplain", unfollowed := true, recurses := true, apart := false }
def FnExactExplainSaid : Prop := fnExactExplainRow.holds Try.pinned (OpenSpec.ofChange fnExactExplainSpec)

/-- ITS FALSE NEIGHBOUR: 'it returns false'. Refute it at one input. -/
def fnExactExplainWrong : ChangeSpec := { name := "fnExactExplain", fn := fun _ => fun
  | [d1, d2, d3] => { results := [.lit (.bool false)], args := [d1, d2, d3] }
  | _ => none }
def FnExactExplainWrongFalsely : Prop := fnExactExplainRow.holds Try.pinned (OpenSpec.ofChange fnExactExplainWrong)

/- THE SECOND FORM. 'bulk': how many values and letters a reading holds, each counted each time it is reached (what is shared counts as often as it is met; a slice's spare places count too). A statement '..UptoSaid' is the law's where the arguments, and the package variables that the reading takes, are together of bulk at most 1048576: NARROWER than '..Said'. Prove '..Said' where nothing that the law and all that it calls make is longer than what came in: it says more and counts as full. Else prove '..UptoSaid'. A law counts once. -/
mutual
def uptoBulk {H : Type} : DataW H → Nat
  | .lit (.string bytes) => bytes.length + 1
  | .lit _ => 1
  | .nil => 1
  | .ptr d => uptoBulk d + 1
  | .slice elems spare => uptoBulkAll elems + uptoBulkAll spare + 1
  | .agg parts => uptoBulkAll parts + 1
  | .iface _ d => uptoBulk d + 1
  | .map entries => uptoBulkEntries entries + 1
  | .held _ => 1
def uptoBulkAll {H : Type} : List (DataW H) → Nat
  | [] => 0
  | d :: r => uptoBulk d + uptoBulkAll r
def uptoBulkEntries {H : Type} : List (Lit × DataW H) → Nat
  | [] => 0
  | x :: r => uptoBulkEntry x + uptoBulkEntries r
def uptoBulkEntry {H : Type} : Lit × DataW H → Nat
  | (.string bytes, d) => bytes.length + uptoBulk d + 1
  | (_, d) => uptoBulk d + 1
 end
def uptoSmall : (H : Type) → List (DataW H) → Bool := fun _ ds => decide (uptoBulkAll ds ≤ 1048576)
def OpenSpec.upto (s : _root_.Go.ChangeSpec) : _root_.Go.OpenSpec := { _root_.Go.OpenSpec.ofChange s with cond := some uptoSmall }

/-- 'laws.FnExactValidClause', WHERE WHAT IT READS IS OF BULK AT MOST 1048576: true; the input reads as it did. -/
def fnExactValidClauseUptoRow : OpenClaim := { program := "ytphgbeiddkachaa", sum := "6293201926b1068dccd62dad0a8365a7cf3168e8b7f679f69abfe47c631a3460", func := "loop.example/constraintsolver/laws.FnExactValidClause", spec := "fnExactValidClause", apart := false, narrowed := true }
def FnExactValidClauseUptoSaid : Prop := fnExactValidClauseUptoRow.holds Try.pinned (OpenSpec.upto fnExactValidClauseSpec)

/-- 'laws.FnExactClauseHolds', WHERE WHAT IT READS IS OF BULK AT MOST 1048576: true; the input reads as it did. -/
def fnExactClauseHoldsUptoRow : OpenClaim := { program := "ytphgbeiddkachaa", sum := "6293201926b1068dccd62dad0a8365a7cf3168e8b7f679f69abfe47c631a3460", func := "loop.example/constraintsolver/laws.FnExactClauseHolds", spec := "fnExactClauseHolds", unfollowed := true, recurses := true, apart := false, narrowed := true }
def FnExactClauseHoldsUptoSaid : Prop := fnExactClauseHoldsUptoRow.holds Try.pinned (OpenSpec.upto fnExactClauseHoldsSpec)

/-- 'laws.FnExactSubsumes', WHERE WHAT IT READS IS OF BULK AT MOST 1048576: true; the input reads as it did. -/
def fnExactSubsumesUptoRow : OpenClaim := { program := "ytphgbeiddkachaa", sum := "6293201926b1068dccd62dad0a8365a7cf3168e8b7f679f69abfe47c631a3460", func := "loop.example/constraintsolver/laws.FnExactSubsumes", spec := "fnExactSubsumes", unfollowed := true, recurses := true, apart := false, narrowed := true }
def FnExactSubsumesUptoSaid : Prop := fnExactSubsumesUptoRow.holds Try.pinned (OpenSpec.upto fnExactSubsumesSpec)

/-- 'laws.FnExactUnitPropagate', WHERE WHAT IT READS IS OF BULK AT MOST 1048576: true; the input reads as it did. -/
def fnExactUnitPropagateUptoRow : OpenClaim := { program := "ytphgbeiddkachaa", sum := "6293201926b1068dccd62dad0a8365a7cf3168e8b7f679f69abfe47c631a3460", func := "loop.example/constraintsolver/laws.FnExactUnitPropagate", spec := "fnExactUnitPropagate", apart := false, narrowed := true }
def FnExactUnitPropagateUptoSaid : Prop := fnExactUnitPropagateUptoRow.holds Try.pinned (OpenSpec.upto fnExactUnitPropagateSpec)

/-- 'laws.FnExactResolve', WHERE WHAT IT READS IS OF BULK AT MOST 1048576: true; the input reads as it did. -/
def fnExactResolveUptoRow : OpenClaim := { program := "ytphgbeiddkachaa", sum := "6293201926b1068dccd62dad0a8365a7cf3168e8b7f679f69abfe47c631a3460", func := "loop.example/constraintsolver/laws.FnExactResolve", spec := "fnExactResolve", unfollowed := true, recurses := true, apart := false, narrowed := true }
def FnExactResolveUptoSaid : Prop := fnExactResolveUptoRow.holds Try.pinned (OpenSpec.upto fnExactResolveSpec)

/-- 'laws.FnExactIsExplanation', WHERE WHAT IT READS IS OF BULK AT MOST 1048576: true; the input reads as it did. -/
def fnExactIsExplanationUptoRow : OpenClaim := { program := "ytphgbeiddkachaa", sum := "6293201926b1068dccd62dad0a8365a7cf3168e8b7f679f69abfe47c631a3460", func := "loop.example/constraintsolver/laws.FnExactIsExplanation", spec := "fnExactIsExplanation", unfollowed := true, recurses := true, apart := false, narrowed := true }
def FnExactIsExplanationUptoSaid : Prop := fnExactIsExplanationUptoRow.holds Try.pinned (OpenSpec.upto fnExactIsExplanationSpec)

/-- 'laws.FnExactExplain', WHERE WHAT IT READS IS OF BULK AT MOST 1048576: true; the input reads as it did. -/
def fnExactExplainUptoRow : OpenClaim := { program := "ytphgbeiddkachaa", sum := "6293201926b1068dccd62dad0a8365a7cf3168e8b7f679f69abfe47c631a3460", func := "loop.example/constraintsolver/laws.FnExactExplain", spec := "fnExactExplain", unfollowed := true, recurses := true, apart := false, narrowed := true }
def FnExactExplainUptoSaid : Prop := fnExactExplainUptoRow.holds Try.pinned (OpenSpec.upto fnExactExplainSpec)

end Rows
end Go.Proofs.Ytphgbeiddkachaa
