/-
  No cell of these rows narrows 'for every input' (looked for: loops, veiled, ifaces, maps, wideKeys, modest, calm, conditions, laid).
  DERIVED. THE GIVEN ROWS OF THIS SEAT. 12 by the template 'for every input the law returns true; each argument reads behind the call as it read before'; 0 by the template 'total and deterministic' (their statements: YtjdbfiiaadphhaaTotals.lean).
  GIVEN WITH THE SEED: the statements are not yours to turn. If you find one false, say at which input.
  Laid BY PROGRAM, IN A SANDBOX (cutbox-rows.mjs): the forced cells as the released guide's own fill.sh prints them over the translation c974bfd29e7538b0… (all of the seat's roots in one cut). By AI agents, Wed Nov 11 2026. No macro, syntax, notation, axiom, sorry.
-/
import Derived.Test.YtjdbfiiaadphhaaChecked
import GoSem.Claim
import GoSem.ClaimJoined
import GoSem.ClaimMapViews
import Derived.JoinedTies
import Derived.KernelRfl
namespace Go.Proofs.Ytjdbfiiaadphhaa
/- THE CELL 'sum', in the pinned program and in every row, IS THE sha256 OF THE DUMP (.gsa) THAT YtjdbfiiaadphhaaProg.lean LOADS. Nothing in Lean hashes anything: it is a label: what it is worth is what the hold of that sum in a sandbox is worth. -/
noncomputable def Try.pinned : Pinned := { name := "ytjdbfiiaadphhaa", sum := "c974bfd29e7538b015612957c80440f4051dbd6b5bfd88427383f5fa7a79a67d", checked := Try.checked }
namespace Rows
def none {H : Type} : Left H := { results := [], args := [] }

/-- 'laws.FnExactChecksum': WHATEVER THE INPUT: true; the input reads as it did. -/
def fnExactChecksumSpec : ChangeSpec := { name := "fnExactChecksum", fn := fun _ => fun
  | [d] => { results := [.lit (.bool true)], args := [d] }
  | _ => none }
def fnExactChecksumRow : OpenClaim := { program := "ytjdbfiiaadphhaa", sum := "c974bfd29e7538b015612957c80440f4051dbd6b5bfd88427383f5fa7a79a67d", func := "loop.example/constraintsolver/laws.FnExactChecksum", spec := "fnExactChecksum", apart := false }
def FnExactChecksumSaid : Prop := fnExactChecksumRow.holds Try.pinned (OpenSpec.ofChange fnExactChecksumSpec)

/-- ITS FALSE NEIGHBOUR: 'it returns false'. Refute it at one input. -/
def fnExactChecksumWrong : ChangeSpec := { name := "fnExactChecksum", fn := fun _ => fun
  | [d] => { results := [.lit (.bool false)], args := [d] }
  | _ => none }
def FnExactChecksumWrongFalsely : Prop := fnExactChecksumRow.holds Try.pinned (OpenSpec.ofChange fnExactChecksumWrong)

/-- 'laws.FnChecksum': WHATEVER THE INPUT: true; the input reads as it did. -/
def fnChecksumSpec : ChangeSpec := { name := "fnChecksum", fn := fun _ => fun
  | [d1, d2] => { results := [.lit (.bool true)], args := [d1, d2] }
  | _ => none }
def fnChecksumRow : OpenClaim := { program := "ytjdbfiiaadphhaa", sum := "c974bfd29e7538b015612957c80440f4051dbd6b5bfd88427383f5fa7a79a67d", func := "loop.example/constraintsolver/laws.FnChecksum", spec := "fnChecksum", recurses := true, apart := false }
def FnChecksumSaid : Prop := fnChecksumRow.holds Try.pinned (OpenSpec.ofChange fnChecksumSpec)

/-- ITS FALSE NEIGHBOUR: 'it returns false'. Refute it at one input. -/
def fnChecksumWrong : ChangeSpec := { name := "fnChecksum", fn := fun _ => fun
  | [d1, d2] => { results := [.lit (.bool false)], args := [d1, d2] }
  | _ => none }
def FnChecksumWrongFalsely : Prop := fnChecksumRow.holds Try.pinned (OpenSpec.ofChange fnChecksumWrong)

/-- 'laws.FnExactValidDiagram': WHATEVER THE INPUT: true; the input reads as it did. -/
def fnExactValidDiagramSpec : ChangeSpec := { name := "fnExactValidDiagram", fn := fun _ => fun
  | [d] => { results := [.lit (.bool true)], args := [d] }
  | _ => none }
def fnExactValidDiagramRow : OpenClaim := { program := "ytjdbfiiaadphhaa", sum := "c974bfd29e7538b015612957c80440f4051dbd6b5bfd88427383f5fa7a79a67d", func := "loop.example/constraintsolver/laws.FnExactValidDiagram", spec := "fnExactValidDiagram", apart := false }
def FnExactValidDiagramSaid : Prop := fnExactValidDiagramRow.holds Try.pinned (OpenSpec.ofChange fnExactValidDiagramSpec)

/-- ITS FALSE NEIGHBOUR: 'it returns false'. Refute it at one input. -/
def fnExactValidDiagramWrong : ChangeSpec := { name := "fnExactValidDiagram", fn := fun _ => fun
  | [d] => { results := [.lit (.bool false)], args := [d] }
  | _ => none }
def FnExactValidDiagramWrongFalsely : Prop := fnExactValidDiagramRow.holds Try.pinned (OpenSpec.ofChange fnExactValidDiagramWrong)

/-- 'laws.FnExactDiagramAccepts': WHATEVER THE INPUT: true; the input reads as it did. -/
def fnExactDiagramAcceptsSpec : ChangeSpec := { name := "fnExactDiagramAccepts", fn := fun _ => fun
  | [d1, d2] => { results := [.lit (.bool true)], args := [d1, d2] }
  | _ => none }
def fnExactDiagramAcceptsRow : OpenClaim := { program := "ytjdbfiiaadphhaa", sum := "c974bfd29e7538b015612957c80440f4051dbd6b5bfd88427383f5fa7a79a67d", func := "loop.example/constraintsolver/laws.FnExactDiagramAccepts", spec := "fnExactDiagramAccepts", apart := false }
def FnExactDiagramAcceptsSaid : Prop := fnExactDiagramAcceptsRow.holds Try.pinned (OpenSpec.ofChange fnExactDiagramAcceptsSpec)

/-- ITS FALSE NEIGHBOUR: 'it returns false'. Refute it at one input. -/
def fnExactDiagramAcceptsWrong : ChangeSpec := { name := "fnExactDiagramAccepts", fn := fun _ => fun
  | [d1, d2] => { results := [.lit (.bool false)], args := [d1, d2] }
  | _ => none }
def FnExactDiagramAcceptsWrongFalsely : Prop := fnExactDiagramAcceptsRow.holds Try.pinned (OpenSpec.ofChange fnExactDiagramAcceptsWrong)

/-- 'laws.FnExactDiagramCount': WHATEVER THE INPUT: true; the input reads as it did. -/
def fnExactDiagramCountSpec : ChangeSpec := { name := "fnExactDiagramCount", fn := fun _ => fun
  | [d] => { results := [.lit (.bool true)], args := [d] }
  | _ => none }
def fnExactDiagramCountRow : OpenClaim := { program := "ytjdbfiiaadphhaa", sum := "c974bfd29e7538b015612957c80440f4051dbd6b5bfd88427383f5fa7a79a67d", func := "loop.example/constraintsolver/laws.FnExactDiagramCount", spec := "fnExactDiagramCount", recurses := true, apart := false }
def FnExactDiagramCountSaid : Prop := fnExactDiagramCountRow.holds Try.pinned (OpenSpec.ofChange fnExactDiagramCountSpec)

/-- ITS FALSE NEIGHBOUR: 'it returns false'. Refute it at one input. -/
def fnExactDiagramCountWrong : ChangeSpec := { name := "fnExactDiagramCount", fn := fun _ => fun
  | [d] => { results := [.lit (.bool false)], args := [d] }
  | _ => none }
def FnExactDiagramCountWrongFalsely : Prop := fnExactDiagramCountRow.holds Try.pinned (OpenSpec.ofChange fnExactDiagramCountWrong)

/-- 'laws.FnExactSoftCost': WHATEVER THE INPUT: true; the input reads as it did. -/
def fnExactSoftCostSpec : ChangeSpec := { name := "fnExactSoftCost", fn := fun _ => fun
  | [d1, d2] => { results := [.lit (.bool true)], args := [d1, d2] }
  | _ => none }
def fnExactSoftCostRow : OpenClaim := { program := "ytjdbfiiaadphhaa", sum := "c974bfd29e7538b015612957c80440f4051dbd6b5bfd88427383f5fa7a79a67d", func := "loop.example/constraintsolver/laws.FnExactSoftCost", spec := "fnExactSoftCost", unfollowed := true, recurses := true, apart := false }
def FnExactSoftCostSaid : Prop := fnExactSoftCostRow.holds Try.pinned (OpenSpec.ofChange fnExactSoftCostSpec)

/-- ITS FALSE NEIGHBOUR: 'it returns false'. Refute it at one input. -/
def fnExactSoftCostWrong : ChangeSpec := { name := "fnExactSoftCost", fn := fun _ => fun
  | [d1, d2] => { results := [.lit (.bool false)], args := [d1, d2] }
  | _ => none }
def FnExactSoftCostWrongFalsely : Prop := fnExactSoftCostRow.holds Try.pinned (OpenSpec.ofChange fnExactSoftCostWrong)

/-- 'laws.FnExactIsExplanation': WHATEVER THE INPUT: true; the input reads as it did. -/
def fnExactIsExplanationSpec : ChangeSpec := { name := "fnExactIsExplanation", fn := fun _ => fun
  | [d1, d2, d3, d4] => { results := [.lit (.bool true)], args := [d1, d2, d3, d4] }
  | _ => none }
def fnExactIsExplanationRow : OpenClaim := { program := "ytjdbfiiaadphhaa", sum := "c974bfd29e7538b015612957c80440f4051dbd6b5bfd88427383f5fa7a79a67d", func := "loop.example/constraintsolver/laws.FnExactIsExplanation", spec := "fnExactIsExplanation", unfollowed := true, recurses := true, apart := false }
def FnExactIsExplanationSaid : Prop := fnExactIsExplanationRow.holds Try.pinned (OpenSpec.ofChange fnExactIsExplanationSpec)

/-- ITS FALSE NEIGHBOUR: 'it returns false'. Refute it at one input. -/
def fnExactIsExplanationWrong : ChangeSpec := { name := "fnExactIsExplanation", fn := fun _ => fun
  | [d1, d2, d3, d4] => { results := [.lit (.bool false)], args := [d1, d2, d3, d4] }
  | _ => none }
def FnExactIsExplanationWrongFalsely : Prop := fnExactIsExplanationRow.holds Try.pinned (OpenSpec.ofChange fnExactIsExplanationWrong)

/-- 'laws.FnExactWithConstraint': WHATEVER THE INPUT: true; the input reads as it did. -/
def fnExactWithConstraintSpec : ChangeSpec := { name := "fnExactWithConstraint", fn := fun _ => fun
  | [d1, d2] => { results := [.lit (.bool true)], args := [d1, d2] }
  | _ => none }
def fnExactWithConstraintRow : OpenClaim := { program := "ytjdbfiiaadphhaa", sum := "c974bfd29e7538b015612957c80440f4051dbd6b5bfd88427383f5fa7a79a67d", func := "loop.example/constraintsolver/laws.FnExactWithConstraint", spec := "fnExactWithConstraint", unfollowed := true, recurses := true, apart := false }
def FnExactWithConstraintSaid : Prop := fnExactWithConstraintRow.holds Try.pinned (OpenSpec.ofChange fnExactWithConstraintSpec)

/-- ITS FALSE NEIGHBOUR: 'it returns false'. Refute it at one input. -/
def fnExactWithConstraintWrong : ChangeSpec := { name := "fnExactWithConstraint", fn := fun _ => fun
  | [d1, d2] => { results := [.lit (.bool false)], args := [d1, d2] }
  | _ => none }
def FnExactWithConstraintWrongFalsely : Prop := fnExactWithConstraintRow.holds Try.pinned (OpenSpec.ofChange fnExactWithConstraintWrong)

/-- 'laws.FnExactWithoutConstraint': WHATEVER THE INPUT: true; the input reads as it did. -/
def fnExactWithoutConstraintSpec : ChangeSpec := { name := "fnExactWithoutConstraint", fn := fun _ => fun
  | [d1, d2] => { results := [.lit (.bool true)], args := [d1, d2] }
  | _ => none }
def fnExactWithoutConstraintRow : OpenClaim := { program := "ytjdbfiiaadphhaa", sum := "c974bfd29e7538b015612957c80440f4051dbd6b5bfd88427383f5fa7a79a67d", func := "loop.example/constraintsolver/laws.FnExactWithoutConstraint", spec := "fnExactWithoutConstraint", unfollowed := true, recurses := true, apart := false }
def FnExactWithoutConstraintSaid : Prop := fnExactWithoutConstraintRow.holds Try.pinned (OpenSpec.ofChange fnExactWithoutConstraintSpec)

/-- ITS FALSE NEIGHBOUR: 'it returns false'. Refute it at one input. -/
def fnExactWithoutConstraintWrong : ChangeSpec := { name := "fnExactWithoutConstraint", fn := fun _ => fun
  | [d1, d2] => { results := [.lit (.bool false)], args := [d1, d2] }
  | _ => none }
def FnExactWithoutConstraintWrongFalsely : Prop := fnExactWithoutConstraintRow.holds Try.pinned (OpenSpec.ofChange fnExactWithoutConstraintWrong)

/-- 'laws.FnPropagateFixpoint': WHATEVER THE INPUT: true; the input reads as it did. -/
def fnPropagateFixpointSpec : ChangeSpec := { name := "fnPropagateFixpoint", fn := fun _ => fun
  | [d] => { results := [.lit (.bool true)], args := [d] }
  | _ => none }
def fnPropagateFixpointRow : OpenClaim := { program := "ytjdbfiiaadphhaa", sum := "c974bfd29e7538b015612957c80440f4051dbd6b5bfd88427383f5fa7a79a67d", func := "loop.example/constraintsolver/laws.FnPropagateFixpoint", spec := "fnPropagateFixpoint", unfollowed := true, recurses := true, apart := false }
def FnPropagateFixpointSaid : Prop := fnPropagateFixpointRow.holds Try.pinned (OpenSpec.ofChange fnPropagateFixpointSpec)

/-- ITS FALSE NEIGHBOUR: 'it returns false'. Refute it at one input. -/
def fnPropagateFixpointWrong : ChangeSpec := { name := "fnPropagateFixpoint", fn := fun _ => fun
  | [d] => { results := [.lit (.bool false)], args := [d] }
  | _ => none }
def FnPropagateFixpointWrongFalsely : Prop := fnPropagateFixpointRow.holds Try.pinned (OpenSpec.ofChange fnPropagateFixpointWrong)

/-- 'laws.FnPropagateOrder': WHATEVER THE INPUT: true; the input reads as it did. -/
def fnPropagateOrderSpec : ChangeSpec := { name := "fnPropagateOrder", fn := fun _ => fun
  | [d] => { results := [.lit (.bool true)], args := [d] }
  | _ => none }
def fnPropagateOrderRow : OpenClaim := { program := "ytjdbfiiaadphhaa", sum := "c974bfd29e7538b015612957c80440f4051dbd6b5bfd88427383f5fa7a79a67d", func := "loop.example/constraintsolver/laws.FnPropagateOrder", spec := "fnPropagateOrder", unfollowed := true, recurses := true, apart := false }
def FnPropagateOrderSaid : Prop := fnPropagateOrderRow.holds Try.pinned (OpenSpec.ofChange fnPropagateOrderSpec)

/-- ITS FALSE NEIGHBOUR: 'it returns false'. Refute it at one input. -/
def fnPropagateOrderWrong : ChangeSpec := { name := "fnPropagateOrder", fn := fun _ => fun
  | [d] => { results := [.lit (.bool false)], args := [d] }
  | _ => none }
def FnPropagateOrderWrongFalsely : Prop := fnPropagateOrderRow.holds Try.pinned (OpenSpec.ofChange fnPropagateOrderWrong)

/-- 'laws.FnModelRelax': WHATEVER THE INPUT: true; the input reads as it did. -/
def fnModelRelaxSpec : ChangeSpec := { name := "fnModelRelax", fn := fun _ => fun
  | [d] => { results := [.lit (.bool true)], args := [d] }
  | _ => none }
def fnModelRelaxRow : OpenClaim := { program := "ytjdbfiiaadphhaa", sum := "c974bfd29e7538b015612957c80440f4051dbd6b5bfd88427383f5fa7a79a67d", func := "loop.example/constraintsolver/laws.FnModelRelax", spec := "fnModelRelax", unfollowed := true, recurses := true, apart := false }
def FnModelRelaxSaid : Prop := fnModelRelaxRow.holds Try.pinned (OpenSpec.ofChange fnModelRelaxSpec)

/-- ITS FALSE NEIGHBOUR: 'it returns false'. Refute it at one input. -/
def fnModelRelaxWrong : ChangeSpec := { name := "fnModelRelax", fn := fun _ => fun
  | [d] => { results := [.lit (.bool false)], args := [d] }
  | _ => none }
def FnModelRelaxWrongFalsely : Prop := fnModelRelaxRow.holds Try.pinned (OpenSpec.ofChange fnModelRelaxWrong)

/- THE SECOND FORM. 'bulk': how many values and letters a reading holds, each counted each time it is reached (what is shared counts as often as it is met; a slice's spare places count too). A statement '..UptoSaid' is the law's where the arguments, and the package variables that the reading takes, are together of bulk at most 1048576: NARROWER than '..Said'. Prove '..Said' where nothing that the law and all that it calls make is longer than what came in: it says more and counts as full. Else prove '..UptoSaid'. A law counts once. -/
mutual
def uptoBulk {H : Type} : DataW H → Nat
  | .lit (.string bytes) => bytes.length + 1
  | .lit _ => 1
  | .nil => 1
  | .ptr d => uptoBulk d + 1
  | .slice elems spare => uptoBulkAll elems + uptoBulkAll spare + 1
  | .agg parts => uptoBulkAll parts + 1
  | .iface _ d => uptoBulk d + 1
  | .map entries => uptoBulkEntries entries + 1
  | .held _ => 1
def uptoBulkAll {H : Type} : List (DataW H) → Nat
  | [] => 0
  | d :: r => uptoBulk d + uptoBulkAll r
def uptoBulkEntries {H : Type} : List (Lit × DataW H) → Nat
  | [] => 0
  | x :: r => uptoBulkEntry x + uptoBulkEntries r
def uptoBulkEntry {H : Type} : Lit × DataW H → Nat
  | (.string bytes, d) => bytes.length + uptoBulk d + 1
  | (_, d) => uptoBulk d + 1
 end
def uptoSmall : (H : Type) → List (DataW H) → Bool := fun _ ds => decide (uptoBulkAll ds ≤ 1048576)
def OpenSpec.upto (s : _root_.Go.ChangeSpec) : _root_.Go.OpenSpec := { _root_.Go.OpenSpec.ofChange s with cond := some uptoSmall }

/-- 'laws.FnExactChecksum', WHERE WHAT IT READS IS OF BULK AT MOST 1048576: true; the input reads as it did. -/
def fnExactChecksumUptoRow : OpenClaim := { program := "ytjdbfiiaadphhaa", sum := "c974bfd29e7538b015612957c80440f4051dbd6b5bfd88427383f5fa7a79a67d", func := "loop.example/constraintsolver/laws.FnExactChecksum", spec := "fnExactChecksum", apart := false, narrowed := true }
def FnExactChecksumUptoSaid : Prop := fnExactChecksumUptoRow.holds Try.pinned (OpenSpec.upto fnExactChecksumSpec)

/-- 'laws.FnChecksum', WHERE WHAT IT READS IS OF BULK AT MOST 1048576: true; the input reads as it did. -/
def fnChecksumUptoRow : OpenClaim := { program := "ytjdbfiiaadphhaa", sum := "c974bfd29e7538b015612957c80440f4051dbd6b5bfd88427383f5fa7a79a67d", func := "loop.example/constraintsolver/laws.FnChecksum", spec := "fnChecksum", recurses := true, apart := false, narrowed := true }
def FnChecksumUptoSaid : Prop := fnChecksumUptoRow.holds Try.pinned (OpenSpec.upto fnChecksumSpec)

/-- 'laws.FnExactValidDiagram', WHERE WHAT IT READS IS OF BULK AT MOST 1048576: true; the input reads as it did. -/
def fnExactValidDiagramUptoRow : OpenClaim := { program := "ytjdbfiiaadphhaa", sum := "c974bfd29e7538b015612957c80440f4051dbd6b5bfd88427383f5fa7a79a67d", func := "loop.example/constraintsolver/laws.FnExactValidDiagram", spec := "fnExactValidDiagram", apart := false, narrowed := true }
def FnExactValidDiagramUptoSaid : Prop := fnExactValidDiagramUptoRow.holds Try.pinned (OpenSpec.upto fnExactValidDiagramSpec)

/-- 'laws.FnExactDiagramAccepts', WHERE WHAT IT READS IS OF BULK AT MOST 1048576: true; the input reads as it did. -/
def fnExactDiagramAcceptsUptoRow : OpenClaim := { program := "ytjdbfiiaadphhaa", sum := "c974bfd29e7538b015612957c80440f4051dbd6b5bfd88427383f5fa7a79a67d", func := "loop.example/constraintsolver/laws.FnExactDiagramAccepts", spec := "fnExactDiagramAccepts", apart := false, narrowed := true }
def FnExactDiagramAcceptsUptoSaid : Prop := fnExactDiagramAcceptsUptoRow.holds Try.pinned (OpenSpec.upto fnExactDiagramAcceptsSpec)

/-- 'laws.FnExactDiagramCount', WHERE WHAT IT READS IS OF BULK AT MOST 1048576: true; the input reads as it did. -/
def fnExactDiagramCountUptoRow : OpenClaim := { program := "ytjdbfiiaadphhaa", sum := "c974bfd29e7538b015612957c80440f4051dbd6b5bfd88427383f5fa7a79a67d", func := "loop.example/constraintsolver/laws.FnExactDiagramCount", spec := "fnExactDiagramCount", recurses := true, apart := false, narrowed := true }
def FnExactDiagramCountUptoSaid : Prop := fnExactDiagramCountUptoRow.holds Try.pinned (OpenSpec.upto fnExactDiagramCountSpec)

/-- 'laws.FnExactSoftCost', WHERE WHAT IT READS IS OF BULK AT MOST 1048576: true; the input reads as it did. -/
def fnExactSoftCostUptoRow : OpenClaim := { program := "ytjdbfiiaadphhaa", sum := "c974bfd29e7538b015612957c80440f4051dbd6b5bfd88427383f5fa7a79a67d", func := "loop.example/constraintsolver/laws.FnExactSoftCost", spec := "fnExactSoftCost", unfollowed := true, recurses := true, apart := false, narrowed := true }
def FnExactSoftCostUptoSaid : Prop := fnExactSoftCostUptoRow.holds Try.pinned (OpenSpec.upto fnExactSoftCostSpec)

/-- 'laws.FnExactIsExplanation', WHERE WHAT IT READS IS OF BULK AT MOST 1048576: true; the input reads as it did. -/
def fnExactIsExplanationUptoRow : OpenClaim := { program := "ytjdbfiiaadphhaa", sum := "c974bfd29e7538b015612957c80440f4051dbd6b5bfd88427383f5fa7a79a67d", func := "loop.example/constraintsolver/laws.FnExactIsExplanation", spec := "fnExactIsExplanation", unfollowed := true, recurses := true, apart := false, narrowed := true }
def FnExactIsExplanationUptoSaid : Prop := fnExactIsExplanationUptoRow.holds Try.pinned (OpenSpec.upto fnExactIsExplanationSpec)

/-- 'laws.FnExactWithConstraint', WHERE WHAT IT READS IS OF BULK AT MOST 1048576: true; the input reads as it did. -/
def fnExactWithConstraintUptoRow : OpenClaim := { program := "ytjdbfiiaadphhaa", sum := "c974bfd29e7538b015612957c80440f4051dbd6b5bfd88427383f5fa7a79a67d", func := "loop.example/constraintsolver/laws.FnExactWithConstraint", spec := "fnExactWithConstraint", unfollowed := true, recurses := true, apart := false, narrowed := true }
def FnExactWithConstraintUptoSaid : Prop := fnExactWithConstraintUptoRow.holds Try.pinned (OpenSpec.upto fnExactWithConstraintSpec)

/-- 'laws.FnExactWithoutConstraint', WHERE WHAT IT READS IS OF BULK AT MOST 1048576: true; the input reads as it did. -/
def fnExactWithoutConstraintUptoRow : OpenClaim := { program := "ytjdbfiiaadphhaa", sum := "c974bfd29e7538b015612957c80440f4051dbd6b5bfd88427383f5fa7a79a67d", func := "loop.example/constraintsolver/laws.FnExactWithoutConstraint", spec := "fnExactWithoutConstraint", unfollowed := true, recurses := true, apart := false, narrowed := true }
def FnExactWithoutConstraintUptoSaid : Prop := fnExactWithoutConstraintUptoRow.holds Try.pinned (OpenSpec.upto fnExactWithoutConstraintSpec)

/-- 'laws.FnPropagateFixpoint', WHERE WHAT IT READS IS OF BULK AT MOST 1048576: true; the input reads as it did. -/
def fnPropagateFixpointUptoRow : OpenClaim := { program := "ytjdbfiiaadphhaa", sum := "c974bfd29e7538b015612957c80440f4051dbd6b5bfd88427383f5fa7a79a67d", func := "loop.example/constraintsolver/laws.FnPropagateFixpoint", spec := "fnPropagateFixpoint", unfollowed := true, recurses := true, apart := false, narrowed := true }
def FnPropagateFixpointUptoSaid : Prop := fnPropagateFixpointUptoRow.holds Try.pinned (OpenSpec.upto fnPropagateFixpointSpec)

/-- 'laws.FnPropagateOrder', WHERE WHAT IT READS IS OF BULK AT MOST 1048576: true; the input reads as it did. -/
def fnPropagateOrderUptoRow : OpenClaim := { program := "ytjdbfiiaadphhaa", sum := "c974bfd29e7538b015612957c80440f4051dbd6b5bfd88427383f5fa7a79a67d", func := "loop.example/constraintsolver/laws.FnPropagateOrder", spec := "fnPropagateOrder", unfollowed := true, recurses := true, apart := false, narrowed := true }
def FnPropagateOrderUptoSaid : Prop := fnPropagateOrderUptoRow.holds Try.pinned (OpenSpec.upto fnPropagateOrderSpec)

/-- 'laws.FnModelRelax', WHERE WHAT IT READS IS OF BULK AT MOST 1048576: true; the input reads as it did. -/
def fnModelRelaxUptoRow : OpenClaim := { program := "ytjdbfiiaadphhaa", sum := "c974bfd29e7538b015612957c80440f4051dbd6b5bfd88427383f5fa7a79a67d", func := "loop.example/constraintsolver/laws.FnModelRelax", spec := "fnModelRelax", unfollowed := true, recurses := true, apart := false, narrowed := true }
def FnModelRelaxUptoSaid : Prop := fnModelRelaxUptoRow.holds Try.pinned (OpenSpec.upto fnModelRelaxSpec)

end Rows
end Go.Proofs.Ytjdbfiiaadphhaa
