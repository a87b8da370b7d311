/-
  No cell of these rows narrows 'for every input' (looked for: loops, veiled, ifaces, maps, wideKeys, modest, calm, conditions, laid).
  DERIVED. THE GIVEN ROWS OF THIS SEAT. 12 by the template 'for every input the law returns true; each argument reads behind the call as it read before'; 0 by the template 'total and deterministic' (their statements: YtelglccegkhfcaaTotals.lean).
  GIVEN WITH THE SEED: the statements are not yours to turn. If you find one false, say at which input.
  Laid BY PROGRAM, IN A SANDBOX (cutbox-rows.mjs): the forced cells as the released guide's own fill.sh prints them over the translation 513a008f7a40f7f2… (all of the seat's roots in one cut). By AI agents, Wed Nov 11 2026. No macro, syntax, notation, axiom, sorry.
-/
import Derived.Test.YtelglccegkhfcaaChecked
import GoSem.Claim
import GoSem.ClaimJoined
import GoSem.ClaimMapViews
import Derived.JoinedTies
import Derived.KernelRfl
namespace Go.Proofs.Ytelglccegkhfcaa
/- THE CELL 'sum', in the pinned program and in every row, IS THE sha256 OF THE DUMP (.gsa) THAT YtelglccegkhfcaaProg.lean LOADS. Nothing in Lean hashes anything: it is a label: what it is worth is what the hold of that sum in a sandbox is worth. -/
noncomputable def Try.pinned : Pinned := { name := "ytelglccegkhfcaa", sum := "513a008f7a40f7f250e72d49bf96ab3f7ce00d5bc2ef548d56995fa31fab0467", checked := Try.checked }
namespace Rows
def none {H : Type} : Left H := { results := [], args := [] }

/-- 'laws.FnNegateAll': WHATEVER THE INPUT: true; the input reads as it did. -/
def fnNegateAllSpec : ChangeSpec := { name := "fnNegateAll", fn := fun _ => fun
  | [d1, d2] => { results := [.lit (.bool true)], args := [d1, d2] }
  | _ => none }
def fnNegateAllRow : OpenClaim := { program := "ytelglccegkhfcaa", sum := "513a008f7a40f7f250e72d49bf96ab3f7ce00d5bc2ef548d56995fa31fab0467", func := "loop.example/constraintsolver/laws.FnNegateAll", spec := "fnNegateAll", unfollowed := true, recurses := true, apart := false }
def FnNegateAllSaid : Prop := fnNegateAllRow.holds Try.pinned (OpenSpec.ofChange fnNegateAllSpec)

/-- ITS FALSE NEIGHBOUR: 'it returns false'. Refute it at one input. -/
def fnNegateAllWrong : ChangeSpec := { name := "fnNegateAll", fn := fun _ => fun
  | [d1, d2] => { results := [.lit (.bool false)], args := [d1, d2] }
  | _ => none }
def FnNegateAllWrongFalsely : Prop := fnNegateAllRow.holds Try.pinned (OpenSpec.ofChange fnNegateAllWrong)

/-- 'laws.FnUsage': WHATEVER THE INPUT: true; the input reads as it did. -/
def fnUsageSpec : ChangeSpec := { name := "fnUsage", fn := fun _ => fun
  | [d] => { results := [.lit (.bool true)], args := [d] }
  | _ => none }
def fnUsageRow : OpenClaim := { program := "ytelglccegkhfcaa", sum := "513a008f7a40f7f250e72d49bf96ab3f7ce00d5bc2ef548d56995fa31fab0467", func := "loop.example/constraintsolver/laws.FnUsage", spec := "fnUsage", unfollowed := true, recurses := true, apart := false }
def FnUsageSaid : Prop := fnUsageRow.holds Try.pinned (OpenSpec.ofChange fnUsageSpec)

/-- ITS FALSE NEIGHBOUR: 'it returns false'. Refute it at one input. -/
def fnUsageWrong : ChangeSpec := { name := "fnUsage", fn := fun _ => fun
  | [d] => { results := [.lit (.bool false)], args := [d] }
  | _ => none }
def FnUsageWrongFalsely : Prop := fnUsageRow.holds Try.pinned (OpenSpec.ofChange fnUsageWrong)

/-- 'laws.FnMakespan': WHATEVER THE INPUT: true; the input reads as it did. -/
def fnMakespanSpec : ChangeSpec := { name := "fnMakespan", fn := fun _ => fun
  | [d] => { results := [.lit (.bool true)], args := [d] }
  | _ => none }
def fnMakespanRow : OpenClaim := { program := "ytelglccegkhfcaa", sum := "513a008f7a40f7f250e72d49bf96ab3f7ce00d5bc2ef548d56995fa31fab0467", func := "loop.example/constraintsolver/laws.FnMakespan", spec := "fnMakespan", unfollowed := true, recurses := true, apart := false }
def FnMakespanSaid : Prop := fnMakespanRow.holds Try.pinned (OpenSpec.ofChange fnMakespanSpec)

/-- ITS FALSE NEIGHBOUR: 'it returns false'. Refute it at one input. -/
def fnMakespanWrong : ChangeSpec := { name := "fnMakespan", fn := fun _ => fun
  | [d] => { results := [.lit (.bool false)], args := [d] }
  | _ => none }
def FnMakespanWrongFalsely : Prop := fnMakespanRow.holds Try.pinned (OpenSpec.ofChange fnMakespanWrong)

/-- 'laws.FnExactValidTasks': WHATEVER THE INPUT: true; the input reads as it did. -/
def fnExactValidTasksSpec : ChangeSpec := { name := "fnExactValidTasks", fn := fun _ => fun
  | [d1, d2] => { results := [.lit (.bool true)], args := [d1, d2] }
  | _ => none }
def fnExactValidTasksRow : OpenClaim := { program := "ytelglccegkhfcaa", sum := "513a008f7a40f7f250e72d49bf96ab3f7ce00d5bc2ef548d56995fa31fab0467", func := "loop.example/constraintsolver/laws.FnExactValidTasks", spec := "fnExactValidTasks", apart := false }
def FnExactValidTasksSaid : Prop := fnExactValidTasksRow.holds Try.pinned (OpenSpec.ofChange fnExactValidTasksSpec)

/-- ITS FALSE NEIGHBOUR: 'it returns false'. Refute it at one input. -/
def fnExactValidTasksWrong : ChangeSpec := { name := "fnExactValidTasks", fn := fun _ => fun
  | [d1, d2] => { results := [.lit (.bool false)], args := [d1, d2] }
  | _ => none }
def FnExactValidTasksWrongFalsely : Prop := fnExactValidTasksRow.holds Try.pinned (OpenSpec.ofChange fnExactValidTasksWrong)

/-- 'laws.FnExactUsage': WHATEVER THE INPUT: true; the input reads as it did. -/
def fnExactUsageSpec : ChangeSpec := { name := "fnExactUsage", fn := fun _ => fun
  | [d1, d2] => { results := [.lit (.bool true)], args := [d1, d2] }
  | _ => none }
def fnExactUsageRow : OpenClaim := { program := "ytelglccegkhfcaa", sum := "513a008f7a40f7f250e72d49bf96ab3f7ce00d5bc2ef548d56995fa31fab0467", func := "loop.example/constraintsolver/laws.FnExactUsage", spec := "fnExactUsage", unfollowed := true, recurses := true, apart := false }
def FnExactUsageSaid : Prop := fnExactUsageRow.holds Try.pinned (OpenSpec.ofChange fnExactUsageSpec)

/-- ITS FALSE NEIGHBOUR: 'it returns false'. Refute it at one input. -/
def fnExactUsageWrong : ChangeSpec := { name := "fnExactUsage", fn := fun _ => fun
  | [d1, d2] => { results := [.lit (.bool false)], args := [d1, d2] }
  | _ => none }
def FnExactUsageWrongFalsely : Prop := fnExactUsageRow.holds Try.pinned (OpenSpec.ofChange fnExactUsageWrong)

/-- 'laws.FnExactMakespan': WHATEVER THE INPUT: true; the input reads as it did. -/
def fnExactMakespanSpec : ChangeSpec := { name := "fnExactMakespan", fn := fun _ => fun
  | [d1, d2] => { results := [.lit (.bool true)], args := [d1, d2] }
  | _ => none }
def fnExactMakespanRow : OpenClaim := { program := "ytelglccegkhfcaa", sum := "513a008f7a40f7f250e72d49bf96ab3f7ce00d5bc2ef548d56995fa31fab0467", func := "loop.example/constraintsolver/laws.FnExactMakespan", spec := "fnExactMakespan", unfollowed := true, recurses := true, apart := false }
def FnExactMakespanSaid : Prop := fnExactMakespanRow.holds Try.pinned (OpenSpec.ofChange fnExactMakespanSpec)

/-- ITS FALSE NEIGHBOUR: 'it returns false'. Refute it at one input. -/
def fnExactMakespanWrong : ChangeSpec := { name := "fnExactMakespan", fn := fun _ => fun
  | [d1, d2] => { results := [.lit (.bool false)], args := [d1, d2] }
  | _ => none }
def FnExactMakespanWrongFalsely : Prop := fnExactMakespanRow.holds Try.pinned (OpenSpec.ofChange fnExactMakespanWrong)

/-- 'laws.FnExactTimetableFilter': WHATEVER THE INPUT: true; the input reads as it did. -/
def fnExactTimetableFilterSpec : ChangeSpec := { name := "fnExactTimetableFilter", fn := fun _ => fun
  | [d1, d2] => { results := [.lit (.bool true)], args := [d1, d2] }
  | _ => none }
def fnExactTimetableFilterRow : OpenClaim := { program := "ytelglccegkhfcaa", sum := "513a008f7a40f7f250e72d49bf96ab3f7ce00d5bc2ef548d56995fa31fab0467", func := "loop.example/constraintsolver/laws.FnExactTimetableFilter", spec := "fnExactTimetableFilter", unfollowed := true, recurses := true, apart := false }
def FnExactTimetableFilterSaid : Prop := fnExactTimetableFilterRow.holds Try.pinned (OpenSpec.ofChange fnExactTimetableFilterSpec)

/-- ITS FALSE NEIGHBOUR: 'it returns false'. Refute it at one input. -/
def fnExactTimetableFilterWrong : ChangeSpec := { name := "fnExactTimetableFilter", fn := fun _ => fun
  | [d1, d2] => { results := [.lit (.bool false)], args := [d1, d2] }
  | _ => none }
def FnExactTimetableFilterWrongFalsely : Prop := fnExactTimetableFilterRow.holds Try.pinned (OpenSpec.ofChange fnExactTimetableFilterWrong)

/-- 'laws.FnExactRequiredEnergy': WHATEVER THE INPUT: true; the input reads as it did. -/
def fnExactRequiredEnergySpec : ChangeSpec := { name := "fnExactRequiredEnergy", fn := fun _ => fun
  | [d1, d2, d3] => { results := [.lit (.bool true)], args := [d1, d2, d3] }
  | _ => none }
def fnExactRequiredEnergyRow : OpenClaim := { program := "ytelglccegkhfcaa", sum := "513a008f7a40f7f250e72d49bf96ab3f7ce00d5bc2ef548d56995fa31fab0467", func := "loop.example/constraintsolver/laws.FnExactRequiredEnergy", spec := "fnExactRequiredEnergy", unfollowed := true, recurses := true, apart := false }
def FnExactRequiredEnergySaid : Prop := fnExactRequiredEnergyRow.holds Try.pinned (OpenSpec.ofChange fnExactRequiredEnergySpec)

/-- ITS FALSE NEIGHBOUR: 'it returns false'. Refute it at one input. -/
def fnExactRequiredEnergyWrong : ChangeSpec := { name := "fnExactRequiredEnergy", fn := fun _ => fun
  | [d1, d2, d3] => { results := [.lit (.bool false)], args := [d1, d2, d3] }
  | _ => none }
def FnExactRequiredEnergyWrongFalsely : Prop := fnExactRequiredEnergyRow.holds Try.pinned (OpenSpec.ofChange fnExactRequiredEnergyWrong)

/-- 'laws.FnExactOverload': WHATEVER THE INPUT: true; the input reads as it did. -/
def fnExactOverloadSpec : ChangeSpec := { name := "fnExactOverload", fn := fun _ => fun
  | [d1, d2] => { results := [.lit (.bool true)], args := [d1, d2] }
  | _ => none }
def fnExactOverloadRow : OpenClaim := { program := "ytelglccegkhfcaa", sum := "513a008f7a40f7f250e72d49bf96ab3f7ce00d5bc2ef548d56995fa31fab0467", func := "loop.example/constraintsolver/laws.FnExactOverload", spec := "fnExactOverload", unfollowed := true, recurses := true, apart := false }
def FnExactOverloadSaid : Prop := fnExactOverloadRow.holds Try.pinned (OpenSpec.ofChange fnExactOverloadSpec)

/-- ITS FALSE NEIGHBOUR: 'it returns false'. Refute it at one input. -/
def fnExactOverloadWrong : ChangeSpec := { name := "fnExactOverload", fn := fun _ => fun
  | [d1, d2] => { results := [.lit (.bool false)], args := [d1, d2] }
  | _ => none }
def FnExactOverloadWrongFalsely : Prop := fnExactOverloadRow.holds Try.pinned (OpenSpec.ofChange fnExactOverloadWrong)

/-- 'laws.FnExactValidAutomaton': WHATEVER THE INPUT: true; the input reads as it did. -/
def fnExactValidAutomatonSpec : ChangeSpec := { name := "fnExactValidAutomaton", fn := fun _ => fun
  | [d] => { results := [.lit (.bool true)], args := [d] }
  | _ => none }
def fnExactValidAutomatonRow : OpenClaim := { program := "ytelglccegkhfcaa", sum := "513a008f7a40f7f250e72d49bf96ab3f7ce00d5bc2ef548d56995fa31fab0467", func := "loop.example/constraintsolver/laws.FnExactValidAutomaton", spec := "fnExactValidAutomaton", apart := false }
def FnExactValidAutomatonSaid : Prop := fnExactValidAutomatonRow.holds Try.pinned (OpenSpec.ofChange fnExactValidAutomatonSpec)

/-- ITS FALSE NEIGHBOUR: 'it returns false'. Refute it at one input. -/
def fnExactValidAutomatonWrong : ChangeSpec := { name := "fnExactValidAutomaton", fn := fun _ => fun
  | [d] => { results := [.lit (.bool false)], args := [d] }
  | _ => none }
def FnExactValidAutomatonWrongFalsely : Prop := fnExactValidAutomatonRow.holds Try.pinned (OpenSpec.ofChange fnExactValidAutomatonWrong)

/-- 'laws.FnExactAutomatonAccepts': WHATEVER THE INPUT: true; the input reads as it did. -/
def fnExactAutomatonAcceptsSpec : ChangeSpec := { name := "fnExactAutomatonAccepts", fn := fun _ => fun
  | [d1, d2] => { results := [.lit (.bool true)], args := [d1, d2] }
  | _ => none }
def fnExactAutomatonAcceptsRow : OpenClaim := { program := "ytelglccegkhfcaa", sum := "513a008f7a40f7f250e72d49bf96ab3f7ce00d5bc2ef548d56995fa31fab0467", func := "loop.example/constraintsolver/laws.FnExactAutomatonAccepts", spec := "fnExactAutomatonAccepts", apart := false }
def FnExactAutomatonAcceptsSaid : Prop := fnExactAutomatonAcceptsRow.holds Try.pinned (OpenSpec.ofChange fnExactAutomatonAcceptsSpec)

/-- ITS FALSE NEIGHBOUR: 'it returns false'. Refute it at one input. -/
def fnExactAutomatonAcceptsWrong : ChangeSpec := { name := "fnExactAutomatonAccepts", fn := fun _ => fun
  | [d1, d2] => { results := [.lit (.bool false)], args := [d1, d2] }
  | _ => none }
def FnExactAutomatonAcceptsWrongFalsely : Prop := fnExactAutomatonAcceptsRow.holds Try.pinned (OpenSpec.ofChange fnExactAutomatonAcceptsWrong)

/-- 'laws.FnExactCountWords': WHATEVER THE INPUT: true; the input reads as it did. -/
def fnExactCountWordsSpec : ChangeSpec := { name := "fnExactCountWords", fn := fun _ => fun
  | [d1, d2] => { results := [.lit (.bool true)], args := [d1, d2] }
  | _ => none }
def fnExactCountWordsRow : OpenClaim := { program := "ytelglccegkhfcaa", sum := "513a008f7a40f7f250e72d49bf96ab3f7ce00d5bc2ef548d56995fa31fab0467", func := "loop.example/constraintsolver/laws.FnExactCountWords", spec := "fnExactCountWords", unfollowed := true, recurses := true, apart := false }
def FnExactCountWordsSaid : Prop := fnExactCountWordsRow.holds Try.pinned (OpenSpec.ofChange fnExactCountWordsSpec)

/-- ITS FALSE NEIGHBOUR: 'it returns false'. Refute it at one input. -/
def fnExactCountWordsWrong : ChangeSpec := { name := "fnExactCountWords", fn := fun _ => fun
  | [d1, d2] => { results := [.lit (.bool false)], args := [d1, d2] }
  | _ => none }
def FnExactCountWordsWrongFalsely : Prop := fnExactCountWordsRow.holds Try.pinned (OpenSpec.ofChange fnExactCountWordsWrong)

/- THE SECOND FORM. 'bulk': how many values and letters a reading holds, each counted each time it is reached (what is shared counts as often as it is met; a slice's spare places count too). A statement '..UptoSaid' is the law's where the arguments, and the package variables that the reading takes, are together of bulk at most 1048576: NARROWER than '..Said'. Prove '..Said' where nothing that the law and all that it calls make is longer than what came in: it says more and counts as full. Else prove '..UptoSaid'. A law counts once. -/
mutual
def uptoBulk {H : Type} : DataW H → Nat
  | .lit (.string bytes) => bytes.length + 1
  | .lit _ => 1
  | .nil => 1
  | .ptr d => uptoBulk d + 1
  | .slice elems spare => uptoBulkAll elems + uptoBulkAll spare + 1
  | .agg parts => uptoBulkAll parts + 1
  | .iface _ d => uptoBulk d + 1
  | .map entries => uptoBulkEntries entries + 1
  | .held _ => 1
def uptoBulkAll {H : Type} : List (DataW H) → Nat
  | [] => 0
  | d :: r => uptoBulk d + uptoBulkAll r
def uptoBulkEntries {H : Type} : List (Lit × DataW H) → Nat
  | [] => 0
  | x :: r => uptoBulkEntry x + uptoBulkEntries r
def uptoBulkEntry {H : Type} : Lit × DataW H → Nat
  | (.string bytes, d) => bytes.length + uptoBulk d + 1
  | (_, d) => uptoBulk d + 1
 end
def uptoSmall : (H : Type) → List (DataW H) → Bool := fun _ ds => decide (uptoBulkAll ds ≤ 1048576)
def OpenSpec.upto (s : _root_.Go.ChangeSpec) : _root_.Go.OpenSpec := { _root_.Go.OpenSpec.ofChange s with cond := some uptoSmall }

/-- 'laws.FnNegateAll', WHERE WHAT IT READS IS OF BULK AT MOST 1048576: true; the input reads as it did. -/
def fnNegateAllUptoRow : OpenClaim := { program := "ytelglccegkhfcaa", sum := "513a008f7a40f7f250e72d49bf96ab3f7ce00d5bc2ef548d56995fa31fab0467", func := "loop.example/constraintsolver/laws.FnNegateAll", spec := "fnNegateAll", unfollowed := true, recurses := true, apart := false, narrowed := true }
def FnNegateAllUptoSaid : Prop := fnNegateAllUptoRow.holds Try.pinned (OpenSpec.upto fnNegateAllSpec)

/-- 'laws.FnUsage', WHERE WHAT IT READS IS OF BULK AT MOST 1048576: true; the input reads as it did. -/
def fnUsageUptoRow : OpenClaim := { program := "ytelglccegkhfcaa", sum := "513a008f7a40f7f250e72d49bf96ab3f7ce00d5bc2ef548d56995fa31fab0467", func := "loop.example/constraintsolver/laws.FnUsage", spec := "fnUsage", unfollowed := true, recurses := true, apart := false, narrowed := true }
def FnUsageUptoSaid : Prop := fnUsageUptoRow.holds Try.pinned (OpenSpec.upto fnUsageSpec)

/-- 'laws.FnMakespan', WHERE WHAT IT READS IS OF BULK AT MOST 1048576: true; the input reads as it did. -/
def fnMakespanUptoRow : OpenClaim := { program := "ytelglccegkhfcaa", sum := "513a008f7a40f7f250e72d49bf96ab3f7ce00d5bc2ef548d56995fa31fab0467", func := "loop.example/constraintsolver/laws.FnMakespan", spec := "fnMakespan", unfollowed := true, recurses := true, apart := false, narrowed := true }
def FnMakespanUptoSaid : Prop := fnMakespanUptoRow.holds Try.pinned (OpenSpec.upto fnMakespanSpec)

/-- 'laws.FnExactValidTasks', WHERE WHAT IT READS IS OF BULK AT MOST 1048576: true; the input reads as it did. -/
def fnExactValidTasksUptoRow : OpenClaim := { program := "ytelglccegkhfcaa", sum := "513a008f7a40f7f250e72d49bf96ab3f7ce00d5bc2ef548d56995fa31fab0467", func := "loop.example/constraintsolver/laws.FnExactValidTasks", spec := "fnExactValidTasks", apart := false, narrowed := true }
def FnExactValidTasksUptoSaid : Prop := fnExactValidTasksUptoRow.holds Try.pinned (OpenSpec.upto fnExactValidTasksSpec)

/-- 'laws.FnExactUsage', WHERE WHAT IT READS IS OF BULK AT MOST 1048576: true; the input reads as it did. -/
def fnExactUsageUptoRow : OpenClaim := { program := "ytelglccegkhfcaa", sum := "513a008f7a40f7f250e72d49bf96ab3f7ce00d5bc2ef548d56995fa31fab0467", func := "loop.example/constraintsolver/laws.FnExactUsage", spec := "fnExactUsage", unfollowed := true, recurses := true, apart := false, narrowed := true }
def FnExactUsageUptoSaid : Prop := fnExactUsageUptoRow.holds Try.pinned (OpenSpec.upto fnExactUsageSpec)

/-- 'laws.FnExactMakespan', WHERE WHAT IT READS IS OF BULK AT MOST 1048576: true; the input reads as it did. -/
def fnExactMakespanUptoRow : OpenClaim := { program := "ytelglccegkhfcaa", sum := "513a008f7a40f7f250e72d49bf96ab3f7ce00d5bc2ef548d56995fa31fab0467", func := "loop.example/constraintsolver/laws.FnExactMakespan", spec := "fnExactMakespan", unfollowed := true, recurses := true, apart := false, narrowed := true }
def FnExactMakespanUptoSaid : Prop := fnExactMakespanUptoRow.holds Try.pinned (OpenSpec.upto fnExactMakespanSpec)

/-- 'laws.FnExactTimetableFilter', WHERE WHAT IT READS IS OF BULK AT MOST 1048576: true; the input reads as it did. -/
def fnExactTimetableFilterUptoRow : OpenClaim := { program := "ytelglccegkhfcaa", sum := "513a008f7a40f7f250e72d49bf96ab3f7ce00d5bc2ef548d56995fa31fab0467", func := "loop.example/constraintsolver/laws.FnExactTimetableFilter", spec := "fnExactTimetableFilter", unfollowed := true, recurses := true, apart := false, narrowed := true }
def FnExactTimetableFilterUptoSaid : Prop := fnExactTimetableFilterUptoRow.holds Try.pinned (OpenSpec.upto fnExactTimetableFilterSpec)

/-- 'laws.FnExactRequiredEnergy', WHERE WHAT IT READS IS OF BULK AT MOST 1048576: true; the input reads as it did. -/
def fnExactRequiredEnergyUptoRow : OpenClaim := { program := "ytelglccegkhfcaa", sum := "513a008f7a40f7f250e72d49bf96ab3f7ce00d5bc2ef548d56995fa31fab0467", func := "loop.example/constraintsolver/laws.FnExactRequiredEnergy", spec := "fnExactRequiredEnergy", unfollowed := true, recurses := true, apart := false, narrowed := true }
def FnExactRequiredEnergyUptoSaid : Prop := fnExactRequiredEnergyUptoRow.holds Try.pinned (OpenSpec.upto fnExactRequiredEnergySpec)

/-- 'laws.FnExactOverload', WHERE WHAT IT READS IS OF BULK AT MOST 1048576: true; the input reads as it did. -/
def fnExactOverloadUptoRow : OpenClaim := { program := "ytelglccegkhfcaa", sum := "513a008f7a40f7f250e72d49bf96ab3f7ce00d5bc2ef548d56995fa31fab0467", func := "loop.example/constraintsolver/laws.FnExactOverload", spec := "fnExactOverload", unfollowed := true, recurses := true, apart := false, narrowed := true }
def FnExactOverloadUptoSaid : Prop := fnExactOverloadUptoRow.holds Try.pinned (OpenSpec.upto fnExactOverloadSpec)

/-- 'laws.FnExactValidAutomaton', WHERE WHAT IT READS IS OF BULK AT MOST 1048576: true; the input reads as it did. -/
def fnExactValidAutomatonUptoRow : OpenClaim := { program := "ytelglccegkhfcaa", sum := "513a008f7a40f7f250e72d49bf96ab3f7ce00d5bc2ef548d56995fa31fab0467", func := "loop.example/constraintsolver/laws.FnExactValidAutomaton", spec := "fnExactValidAutomaton", apart := false, narrowed := true }
def FnExactValidAutomatonUptoSaid : Prop := fnExactValidAutomatonUptoRow.holds Try.pinned (OpenSpec.upto fnExactValidAutomatonSpec)

/-- 'laws.FnExactAutomatonAccepts', WHERE WHAT IT READS IS OF BULK AT MOST 1048576: true; the input reads as it did. -/
def fnExactAutomatonAcceptsUptoRow : OpenClaim := { program := "ytelglccegkhfcaa", sum := "513a008f7a40f7f250e72d49bf96ab3f7ce00d5bc2ef548d56995fa31fab0467", func := "loop.example/constraintsolver/laws.FnExactAutomatonAccepts", spec := "fnExactAutomatonAccepts", apart := false, narrowed := true }
def FnExactAutomatonAcceptsUptoSaid : Prop := fnExactAutomatonAcceptsUptoRow.holds Try.pinned (OpenSpec.upto fnExactAutomatonAcceptsSpec)

/-- 'laws.FnExactCountWords', WHERE WHAT IT READS IS OF BULK AT MOST 1048576: true; the input reads as it did. -/
def fnExactCountWordsUptoRow : OpenClaim := { program := "ytelglccegkhfcaa", sum := "513a008f7a40f7f250e72d49bf96ab3f7ce00d5bc2ef548d56995fa31fab0467", func := "loop.example/constraintsolver/laws.FnExactCountWords", spec := "fnExactCountWords", unfollowed := true, recurses := true, apart := false, narrowed := true }
def FnExactCountWordsUptoSaid : Prop := fnExactCountWordsUptoRow.holds Try.pinned (OpenSpec.upto fnExactCountWordsSpec)

end Rows
end Go.Proofs.Ytelglccegkhfcaa
