/-
  No cell of these rows narrows 'for every input' (looked for: loops, veiled, ifaces, maps, wideKeys, modest, calm, conditions, laid).
  DERIVED. THE GIVEN ROWS OF THIS SEAT. 12 by the template 'for every input the law returns true; each argument reads behind the call as it read before'; 0 by the template 'total and deterministic' (their statements: YtolfjkdkbiicmaaTotals.lean).
  GIVEN WITH THE SEED: the statements are not yours to turn. If you find one false, say at which input.
  Laid BY PROGRAM, IN A SANDBOX (cutbox-rows.mjs): the forced cells as the released guide's own fill.sh prints them over the translation 4cd078fcbabe0931… (all of the seat's roots in one cut). By AI agents, Wed Nov 11 2026. No macro, syntax, notation, axiom, sorry.
-/
import Derived.Test.YtolfjkdkbiicmaaChecked
import GoSem.Claim
import GoSem.ClaimJoined
import GoSem.ClaimMapViews
import Derived.JoinedTies
import Derived.KernelRfl
namespace Go.Proofs.Ytolfjkdkbiicmaa
/- THE CELL 'sum', in the pinned program and in every row, IS THE sha256 OF THE DUMP (.gsa) THAT YtolfjkdkbiicmaaProg.lean LOADS. Nothing in Lean hashes anything: it is a label: what it is worth is what the hold of that sum in a sandbox is worth. -/
noncomputable def Try.pinned : Pinned := { name := "ytolfjkdkbiicmaa", sum := "4cd078fcbabe0931d359bc45284bb83f8f83373b163a0a9f3e7197a98c2dfbd6", checked := Try.checked }
namespace Rows
def none {H : Type} : Left H := { results := [], args := [] }

/-- 'laws.FnFilterIdempotent': WHATEVER THE INPUT: true; the input reads as it did. -/
def fnFilterIdempotentSpec : ChangeSpec := { name := "fnFilterIdempotent", fn := fun _ => fun
  | [d] => { results := [.lit (.bool true)], args := [d] }
  | _ => none }
def fnFilterIdempotentRow : OpenClaim := { program := "ytolfjkdkbiicmaa", sum := "4cd078fcbabe0931d359bc45284bb83f8f83373b163a0a9f3e7197a98c2dfbd6", func := "loop.example/constraintsolver/laws.FnFilterIdempotent", spec := "fnFilterIdempotent", unfollowed := true, recurses := true, apart := false }
def FnFilterIdempotentSaid : Prop := fnFilterIdempotentRow.holds Try.pinned (OpenSpec.ofChange fnFilterIdempotentSpec)

/-- ITS FALSE NEIGHBOUR: 'it returns false'. Refute it at one input. -/
def fnFilterIdempotentWrong : ChangeSpec := { name := "fnFilterIdempotent", fn := fun _ => fun
  | [d] => { results := [.lit (.bool false)], args := [d] }
  | _ => none }
def FnFilterIdempotentWrongFalsely : Prop := fnFilterIdempotentRow.holds Try.pinned (OpenSpec.ofChange fnFilterIdempotentWrong)

/-- 'laws.FnFilterMonotone': WHATEVER THE INPUT: true; the input reads as it did. -/
def fnFilterMonotoneSpec : ChangeSpec := { name := "fnFilterMonotone", fn := fun _ => fun
  | [d1, d2] => { results := [.lit (.bool true)], args := [d1, d2] }
  | _ => none }
def fnFilterMonotoneRow : OpenClaim := { program := "ytolfjkdkbiicmaa", sum := "4cd078fcbabe0931d359bc45284bb83f8f83373b163a0a9f3e7197a98c2dfbd6", func := "loop.example/constraintsolver/laws.FnFilterMonotone", spec := "fnFilterMonotone", unfollowed := true, recurses := true, apart := false }
def FnFilterMonotoneSaid : Prop := fnFilterMonotoneRow.holds Try.pinned (OpenSpec.ofChange fnFilterMonotoneSpec)

/-- ITS FALSE NEIGHBOUR: 'it returns false'. Refute it at one input. -/
def fnFilterMonotoneWrong : ChangeSpec := { name := "fnFilterMonotone", fn := fun _ => fun
  | [d1, d2] => { results := [.lit (.bool false)], args := [d1, d2] }
  | _ => none }
def FnFilterMonotoneWrongFalsely : Prop := fnFilterMonotoneRow.holds Try.pinned (OpenSpec.ofChange fnFilterMonotoneWrong)

/-- 'laws.FnPropagateFixpoint': WHATEVER THE INPUT: true; the input reads as it did. -/
def fnPropagateFixpointSpec : ChangeSpec := { name := "fnPropagateFixpoint", fn := fun _ => fun
  | [d] => { results := [.lit (.bool true)], args := [d] }
  | _ => none }
def fnPropagateFixpointRow : OpenClaim := { program := "ytolfjkdkbiicmaa", sum := "4cd078fcbabe0931d359bc45284bb83f8f83373b163a0a9f3e7197a98c2dfbd6", func := "loop.example/constraintsolver/laws.FnPropagateFixpoint", spec := "fnPropagateFixpoint", unfollowed := true, recurses := true, apart := false }
def FnPropagateFixpointSaid : Prop := fnPropagateFixpointRow.holds Try.pinned (OpenSpec.ofChange fnPropagateFixpointSpec)

/-- ITS FALSE NEIGHBOUR: 'it returns false'. Refute it at one input. -/
def fnPropagateFixpointWrong : ChangeSpec := { name := "fnPropagateFixpoint", fn := fun _ => fun
  | [d] => { results := [.lit (.bool false)], args := [d] }
  | _ => none }
def FnPropagateFixpointWrongFalsely : Prop := fnPropagateFixpointRow.holds Try.pinned (OpenSpec.ofChange fnPropagateFixpointWrong)

/-- 'laws.FnPropagateOrder': WHATEVER THE INPUT: true; the input reads as it did. -/
def fnPropagateOrderSpec : ChangeSpec := { name := "fnPropagateOrder", fn := fun _ => fun
  | [d] => { results := [.lit (.bool true)], args := [d] }
  | _ => none }
def fnPropagateOrderRow : OpenClaim := { program := "ytolfjkdkbiicmaa", sum := "4cd078fcbabe0931d359bc45284bb83f8f83373b163a0a9f3e7197a98c2dfbd6", func := "loop.example/constraintsolver/laws.FnPropagateOrder", spec := "fnPropagateOrder", unfollowed := true, recurses := true, apart := false }
def FnPropagateOrderSaid : Prop := fnPropagateOrderRow.holds Try.pinned (OpenSpec.ofChange fnPropagateOrderSpec)

/-- ITS FALSE NEIGHBOUR: 'it returns false'. Refute it at one input. -/
def fnPropagateOrderWrong : ChangeSpec := { name := "fnPropagateOrder", fn := fun _ => fun
  | [d] => { results := [.lit (.bool false)], args := [d] }
  | _ => none }
def FnPropagateOrderWrongFalsely : Prop := fnPropagateOrderRow.holds Try.pinned (OpenSpec.ofChange fnPropagateOrderWrong)

/-- 'laws.FnClauseHolds': WHATEVER THE INPUT: true; the input reads as it did. -/
def fnClauseHoldsSpec : ChangeSpec := { name := "fnClauseHolds", fn := fun _ => fun
  | [d] => { results := [.lit (.bool true)], args := [d] }
  | _ => none }
def fnClauseHoldsRow : OpenClaim := { program := "ytolfjkdkbiicmaa", sum := "4cd078fcbabe0931d359bc45284bb83f8f83373b163a0a9f3e7197a98c2dfbd6", func := "loop.example/constraintsolver/laws.FnClauseHolds", spec := "fnClauseHolds", unfollowed := true, recurses := true, apart := false }
def FnClauseHoldsSaid : Prop := fnClauseHoldsRow.holds Try.pinned (OpenSpec.ofChange fnClauseHoldsSpec)

/-- ITS FALSE NEIGHBOUR: 'it returns false'. Refute it at one input. -/
def fnClauseHoldsWrong : ChangeSpec := { name := "fnClauseHolds", fn := fun _ => fun
  | [d] => { results := [.lit (.bool false)], args := [d] }
  | _ => none }
def FnClauseHoldsWrongFalsely : Prop := fnClauseHoldsRow.holds Try.pinned (OpenSpec.ofChange fnClauseHoldsWrong)

/-- 'laws.FnUnitPropagate': WHATEVER THE INPUT: true; the input reads as it did. -/
def fnUnitPropagateSpec : ChangeSpec := { name := "fnUnitPropagate", fn := fun _ => fun
  | [d1, d2] => { results := [.lit (.bool true)], args := [d1, d2] }
  | _ => none }
def fnUnitPropagateRow : OpenClaim := { program := "ytolfjkdkbiicmaa", sum := "4cd078fcbabe0931d359bc45284bb83f8f83373b163a0a9f3e7197a98c2dfbd6", func := "loop.example/constraintsolver/laws.FnUnitPropagate", spec := "fnUnitPropagate", unfollowed := true, recurses := true, apart := false }
def FnUnitPropagateSaid : Prop := fnUnitPropagateRow.holds Try.pinned (OpenSpec.ofChange fnUnitPropagateSpec)

/-- ITS FALSE NEIGHBOUR: 'it returns false'. Refute it at one input. -/
def fnUnitPropagateWrong : ChangeSpec := { name := "fnUnitPropagate", fn := fun _ => fun
  | [d1, d2] => { results := [.lit (.bool false)], args := [d1, d2] }
  | _ => none }
def FnUnitPropagateWrongFalsely : Prop := fnUnitPropagateRow.holds Try.pinned (OpenSpec.ofChange fnUnitPropagateWrong)

/-- 'laws.FnSubsumes': WHATEVER THE INPUT: true; the input reads as it did. -/
def fnSubsumesSpec : ChangeSpec := { name := "fnSubsumes", fn := fun _ => fun
  | [d1, d2] => { results := [.lit (.bool true)], args := [d1, d2] }
  | _ => none }
def fnSubsumesRow : OpenClaim := { program := "ytolfjkdkbiicmaa", sum := "4cd078fcbabe0931d359bc45284bb83f8f83373b163a0a9f3e7197a98c2dfbd6", func := "loop.example/constraintsolver/laws.FnSubsumes", spec := "fnSubsumes", unfollowed := true, recurses := true, apart := false }
def FnSubsumesSaid : Prop := fnSubsumesRow.holds Try.pinned (OpenSpec.ofChange fnSubsumesSpec)

/-- ITS FALSE NEIGHBOUR: 'it returns false'. Refute it at one input. -/
def fnSubsumesWrong : ChangeSpec := { name := "fnSubsumes", fn := fun _ => fun
  | [d1, d2] => { results := [.lit (.bool false)], args := [d1, d2] }
  | _ => none }
def FnSubsumesWrongFalsely : Prop := fnSubsumesRow.holds Try.pinned (OpenSpec.ofChange fnSubsumesWrong)

/-- 'laws.FnDistance': WHATEVER THE INPUT: true; the input reads as it did. -/
def fnDistanceSpec : ChangeSpec := { name := "fnDistance", fn := fun _ => fun
  | [d1, d2] => { results := [.lit (.bool true)], args := [d1, d2] }
  | _ => none }
def fnDistanceRow : OpenClaim := { program := "ytolfjkdkbiicmaa", sum := "4cd078fcbabe0931d359bc45284bb83f8f83373b163a0a9f3e7197a98c2dfbd6", func := "loop.example/constraintsolver/laws.FnDistance", spec := "fnDistance", apart := false }
def FnDistanceSaid : Prop := fnDistanceRow.holds Try.pinned (OpenSpec.ofChange fnDistanceSpec)

/-- ITS FALSE NEIGHBOUR: 'it returns false'. Refute it at one input. -/
def fnDistanceWrong : ChangeSpec := { name := "fnDistance", fn := fun _ => fun
  | [d1, d2] => { results := [.lit (.bool false)], args := [d1, d2] }
  | _ => none }
def FnDistanceWrongFalsely : Prop := fnDistanceRow.holds Try.pinned (OpenSpec.ofChange fnDistanceWrong)

/-- 'laws.FnExactSoftCost': WHATEVER THE INPUT: true; the input reads as it did. -/
def fnExactSoftCostSpec : ChangeSpec := { name := "fnExactSoftCost", fn := fun _ => fun
  | [d1, d2] => { results := [.lit (.bool true)], args := [d1, d2] }
  | _ => none }
def fnExactSoftCostRow : OpenClaim := { program := "ytolfjkdkbiicmaa", sum := "4cd078fcbabe0931d359bc45284bb83f8f83373b163a0a9f3e7197a98c2dfbd6", func := "loop.example/constraintsolver/laws.FnExactSoftCost", spec := "fnExactSoftCost", unfollowed := true, recurses := true, apart := false }
def FnExactSoftCostSaid : Prop := fnExactSoftCostRow.holds Try.pinned (OpenSpec.ofChange fnExactSoftCostSpec)

/-- ITS FALSE NEIGHBOUR: 'it returns false'. Refute it at one input. -/
def fnExactSoftCostWrong : ChangeSpec := { name := "fnExactSoftCost", fn := fun _ => fun
  | [d1, d2] => { results := [.lit (.bool false)], args := [d1, d2] }
  | _ => none }
def FnExactSoftCostWrongFalsely : Prop := fnExactSoftCostRow.holds Try.pinned (OpenSpec.ofChange fnExactSoftCostWrong)

/-- 'laws.FnExactDistance': WHATEVER THE INPUT: true; the input reads as it did. -/
def fnExactDistanceSpec : ChangeSpec := { name := "fnExactDistance", fn := fun _ => fun
  | [d1, d2] => { results := [.lit (.bool true)], args := [d1, d2] }
  | _ => none }
def fnExactDistanceRow : OpenClaim := { program := "ytolfjkdkbiicmaa", sum := "4cd078fcbabe0931d359bc45284bb83f8f83373b163a0a9f3e7197a98c2dfbd6", func := "loop.example/constraintsolver/laws.FnExactDistance", spec := "fnExactDistance", apart := false }
def FnExactDistanceSaid : Prop := fnExactDistanceRow.holds Try.pinned (OpenSpec.ofChange fnExactDistanceSpec)

/-- ITS FALSE NEIGHBOUR: 'it returns false'. Refute it at one input. -/
def fnExactDistanceWrong : ChangeSpec := { name := "fnExactDistance", fn := fun _ => fun
  | [d1, d2] => { results := [.lit (.bool false)], args := [d1, d2] }
  | _ => none }
def FnExactDistanceWrongFalsely : Prop := fnExactDistanceRow.holds Try.pinned (OpenSpec.ofChange fnExactDistanceWrong)

/-- 'laws.FnExactIsExplanation': WHATEVER THE INPUT: true; the input reads as it did. -/
def fnExactIsExplanationSpec : ChangeSpec := { name := "fnExactIsExplanation", fn := fun _ => fun
  | [d1, d2, d3, d4] => { results := [.lit (.bool true)], args := [d1, d2, d3, d4] }
  | _ => none }
def fnExactIsExplanationRow : OpenClaim := { program := "ytolfjkdkbiicmaa", sum := "4cd078fcbabe0931d359bc45284bb83f8f83373b163a0a9f3e7197a98c2dfbd6", func := "loop.example/constraintsolver/laws.FnExactIsExplanation", spec := "fnExactIsExplanation", unfollowed := true, recurses := true, apart := false }
def FnExactIsExplanationSaid : Prop := fnExactIsExplanationRow.holds Try.pinned (OpenSpec.ofChange fnExactIsExplanationSpec)

/-- ITS FALSE NEIGHBOUR: 'it returns false'. Refute it at one input. -/
def fnExactIsExplanationWrong : ChangeSpec := { name := "fnExactIsExplanation", fn := fun _ => fun
  | [d1, d2, d3, d4] => { results := [.lit (.bool false)], args := [d1, d2, d3, d4] }
  | _ => none }
def FnExactIsExplanationWrongFalsely : Prop := fnExactIsExplanationRow.holds Try.pinned (OpenSpec.ofChange fnExactIsExplanationWrong)

/-- 'laws.FnExactResolve': WHATEVER THE INPUT: true; the input reads as it did. -/
def fnExactResolveSpec : ChangeSpec := { name := "fnExactResolve", fn := fun _ => fun
  | [d1, d2, d3, d4] => { results := [.lit (.bool true)], args := [d1, d2, d3, d4] }
  | _ => none }
def fnExactResolveRow : OpenClaim := { program := "ytolfjkdkbiicmaa", sum := "4cd078fcbabe0931d359bc45284bb83f8f83373b163a0a9f3e7197a98c2dfbd6", func := "loop.example/constraintsolver/laws.FnExactResolve", spec := "fnExactResolve", unfollowed := true, recurses := true, apart := false }
def FnExactResolveSaid : Prop := fnExactResolveRow.holds Try.pinned (OpenSpec.ofChange fnExactResolveSpec)

/-- ITS FALSE NEIGHBOUR: 'it returns false'. Refute it at one input. -/
def fnExactResolveWrong : ChangeSpec := { name := "fnExactResolve", fn := fun _ => fun
  | [d1, d2, d3, d4] => { results := [.lit (.bool false)], args := [d1, d2, d3, d4] }
  | _ => none }
def FnExactResolveWrongFalsely : Prop := fnExactResolveRow.holds Try.pinned (OpenSpec.ofChange fnExactResolveWrong)

/- THE SECOND FORM. 'bulk': how many values and letters a reading holds, each counted each time it is reached (what is shared counts as often as it is met; a slice's spare places count too). A statement '..UptoSaid' is the law's where the arguments, and the package variables that the reading takes, are together of bulk at most 1048576: NARROWER than '..Said'. Prove '..Said' where nothing that the law and all that it calls make is longer than what came in: it says more and counts as full. Else prove '..UptoSaid'. A law counts once. -/
mutual
def uptoBulk {H : Type} : DataW H → Nat
  | .lit (.string bytes) => bytes.length + 1
  | .lit _ => 1
  | .nil => 1
  | .ptr d => uptoBulk d + 1
  | .slice elems spare => uptoBulkAll elems + uptoBulkAll spare + 1
  | .agg parts => uptoBulkAll parts + 1
  | .iface _ d => uptoBulk d + 1
  | .map entries => uptoBulkEntries entries + 1
  | .held _ => 1
def uptoBulkAll {H : Type} : List (DataW H) → Nat
  | [] => 0
  | d :: r => uptoBulk d + uptoBulkAll r
def uptoBulkEntries {H : Type} : List (Lit × DataW H) → Nat
  | [] => 0
  | x :: r => uptoBulkEntry x + uptoBulkEntries r
def uptoBulkEntry {H : Type} : Lit × DataW H → Nat
  | (.string bytes, d) => bytes.length + uptoBulk d + 1
  | (_, d) => uptoBulk d + 1
 end
def uptoSmall : (H : Type) → List (DataW H) → Bool := fun _ ds => decide (uptoBulkAll ds ≤ 1048576)
def OpenSpec.upto (s : _root_.Go.ChangeSpec) : _root_.Go.OpenSpec := { _root_.Go.OpenSpec.ofChange s with cond := some uptoSmall }

/-- 'laws.FnFilterIdempotent', WHERE WHAT IT READS IS OF BULK AT MOST 1048576: true; the input reads as it did. -/
def fnFilterIdempotentUptoRow : OpenClaim := { program := "ytolfjkdkbiicmaa", sum := "4cd078fcbabe0931d359bc45284bb83f8f83373b163a0a9f3e7197a98c2dfbd6", func := "loop.example/constraintsolver/laws.FnFilterIdempotent", spec := "fnFilterIdempotent", unfollowed := true, recurses := true, apart := false, narrowed := true }
def FnFilterIdempotentUptoSaid : Prop := fnFilterIdempotentUptoRow.holds Try.pinned (OpenSpec.upto fnFilterIdempotentSpec)

/-- 'laws.FnFilterMonotone', WHERE WHAT IT READS IS OF BULK AT MOST 1048576: true; the input reads as it did. -/
def fnFilterMonotoneUptoRow : OpenClaim := { program := "ytolfjkdkbiicmaa", sum := "4cd078fcbabe0931d359bc45284bb83f8f83373b163a0a9f3e7197a98c2dfbd6", func := "loop.example/constraintsolver/laws.FnFilterMonotone", spec := "fnFilterMonotone", unfollowed := true, recurses := true, apart := false, narrowed := true }
def FnFilterMonotoneUptoSaid : Prop := fnFilterMonotoneUptoRow.holds Try.pinned (OpenSpec.upto fnFilterMonotoneSpec)

/-- 'laws.FnPropagateFixpoint', WHERE WHAT IT READS IS OF BULK AT MOST 1048576: true; the input reads as it did. -/
def fnPropagateFixpointUptoRow : OpenClaim := { program := "ytolfjkdkbiicmaa", sum := "4cd078fcbabe0931d359bc45284bb83f8f83373b163a0a9f3e7197a98c2dfbd6", func := "loop.example/constraintsolver/laws.FnPropagateFixpoint", spec := "fnPropagateFixpoint", unfollowed := true, recurses := true, apart := false, narrowed := true }
def FnPropagateFixpointUptoSaid : Prop := fnPropagateFixpointUptoRow.holds Try.pinned (OpenSpec.upto fnPropagateFixpointSpec)

/-- 'laws.FnPropagateOrder', WHERE WHAT IT READS IS OF BULK AT MOST 1048576: true; the input reads as it did. -/
def fnPropagateOrderUptoRow : OpenClaim := { program := "ytolfjkdkbiicmaa", sum := "4cd078fcbabe0931d359bc45284bb83f8f83373b163a0a9f3e7197a98c2dfbd6", func := "loop.example/constraintsolver/laws.FnPropagateOrder", spec := "fnPropagateOrder", unfollowed := true, recurses := true, apart := false, narrowed := true }
def FnPropagateOrderUptoSaid : Prop := fnPropagateOrderUptoRow.holds Try.pinned (OpenSpec.upto fnPropagateOrderSpec)

/-- 'laws.FnClauseHolds', WHERE WHAT IT READS IS OF BULK AT MOST 1048576: true; the input reads as it did. -/
def fnClauseHoldsUptoRow : OpenClaim := { program := "ytolfjkdkbiicmaa", sum := "4cd078fcbabe0931d359bc45284bb83f8f83373b163a0a9f3e7197a98c2dfbd6", func := "loop.example/constraintsolver/laws.FnClauseHolds", spec := "fnClauseHolds", unfollowed := true, recurses := true, apart := false, narrowed := true }
def FnClauseHoldsUptoSaid : Prop := fnClauseHoldsUptoRow.holds Try.pinned (OpenSpec.upto fnClauseHoldsSpec)

/-- 'laws.FnUnitPropagate', WHERE WHAT IT READS IS OF BULK AT MOST 1048576: true; the input reads as it did. -/
def fnUnitPropagateUptoRow : OpenClaim := { program := "ytolfjkdkbiicmaa", sum := "4cd078fcbabe0931d359bc45284bb83f8f83373b163a0a9f3e7197a98c2dfbd6", func := "loop.example/constraintsolver/laws.FnUnitPropagate", spec := "fnUnitPropagate", unfollowed := true, recurses := true, apart := false, narrowed := true }
def FnUnitPropagateUptoSaid : Prop := fnUnitPropagateUptoRow.holds Try.pinned (OpenSpec.upto fnUnitPropagateSpec)

/-- 'laws.FnSubsumes', WHERE WHAT IT READS IS OF BULK AT MOST 1048576: true; the input reads as it did. -/
def fnSubsumesUptoRow : OpenClaim := { program := "ytolfjkdkbiicmaa", sum := "4cd078fcbabe0931d359bc45284bb83f8f83373b163a0a9f3e7197a98c2dfbd6", func := "loop.example/constraintsolver/laws.FnSubsumes", spec := "fnSubsumes", unfollowed := true, recurses := true, apart := false, narrowed := true }
def FnSubsumesUptoSaid : Prop := fnSubsumesUptoRow.holds Try.pinned (OpenSpec.upto fnSubsumesSpec)

/-- 'laws.FnDistance', WHERE WHAT IT READS IS OF BULK AT MOST 1048576: true; the input reads as it did. -/
def fnDistanceUptoRow : OpenClaim := { program := "ytolfjkdkbiicmaa", sum := "4cd078fcbabe0931d359bc45284bb83f8f83373b163a0a9f3e7197a98c2dfbd6", func := "loop.example/constraintsolver/laws.FnDistance", spec := "fnDistance", apart := false, narrowed := true }
def FnDistanceUptoSaid : Prop := fnDistanceUptoRow.holds Try.pinned (OpenSpec.upto fnDistanceSpec)

/-- 'laws.FnExactSoftCost', WHERE WHAT IT READS IS OF BULK AT MOST 1048576: true; the input reads as it did. -/
def fnExactSoftCostUptoRow : OpenClaim := { program := "ytolfjkdkbiicmaa", sum := "4cd078fcbabe0931d359bc45284bb83f8f83373b163a0a9f3e7197a98c2dfbd6", func := "loop.example/constraintsolver/laws.FnExactSoftCost", spec := "fnExactSoftCost", unfollowed := true, recurses := true, apart := false, narrowed := true }
def FnExactSoftCostUptoSaid : Prop := fnExactSoftCostUptoRow.holds Try.pinned (OpenSpec.upto fnExactSoftCostSpec)

/-- 'laws.FnExactDistance', WHERE WHAT IT READS IS OF BULK AT MOST 1048576: true; the input reads as it did. -/
def fnExactDistanceUptoRow : OpenClaim := { program := "ytolfjkdkbiicmaa", sum := "4cd078fcbabe0931d359bc45284bb83f8f83373b163a0a9f3e7197a98c2dfbd6", func := "loop.example/constraintsolver/laws.FnExactDistance", spec := "fnExactDistance", apart := false, narrowed := true }
def FnExactDistanceUptoSaid : Prop := fnExactDistanceUptoRow.holds Try.pinned (OpenSpec.upto fnExactDistanceSpec)

/-- 'laws.FnExactIsExplanation', WHERE WHAT IT READS IS OF BULK AT MOST 1048576: true; the input reads as it did. -/
def fnExactIsExplanationUptoRow : OpenClaim := { program := "ytolfjkdkbiicmaa", sum := "4cd078fcbabe0931d359bc45284bb83f8f83373b163a0a9f3e7197a98c2dfbd6", func := "loop.example/constraintsolver/laws.FnExactIsExplanation", spec := "fnExactIsExplanation", unfollowed := true, recurses := true, apart := false, narrowed := true }
def FnExactIsExplanationUptoSaid : Prop := fnExactIsExplanationUptoRow.holds Try.pinned (OpenSpec.upto fnExactIsExplanationSpec)

/-- 'laws.FnExactResolve', WHERE WHAT IT READS IS OF BULK AT MOST 1048576: true; the input reads as it did. -/
def fnExactResolveUptoRow : OpenClaim := { program := "ytolfjkdkbiicmaa", sum := "4cd078fcbabe0931d359bc45284bb83f8f83373b163a0a9f3e7197a98c2dfbd6", func := "loop.example/constraintsolver/laws.FnExactResolve", spec := "fnExactResolve", unfollowed := true, recurses := true, apart := false, narrowed := true }
def FnExactResolveUptoSaid : Prop := fnExactResolveUptoRow.holds Try.pinned (OpenSpec.upto fnExactResolveSpec)

end Rows
end Go.Proofs.Ytolfjkdkbiicmaa
