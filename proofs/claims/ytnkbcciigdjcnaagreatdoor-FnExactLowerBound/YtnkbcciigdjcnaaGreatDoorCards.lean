/-
  DERIVED. GIVEN WITH THE SEED: THE CARDS: each row of YtnkbcciigdjcnaaGreatDoorRows.lean that lists a variable, with what it lists TIED to the program's text (the seventh form; the later family's looks); each row that meets fmt, with fmt's text TOLD by the authors' own Lean function (tested against real Go, not proved from fmt's source: count such statements apart). THE CARD IS WHAT COUNTS. Prove the row's statement (the work); the ties are given (YtnkbcciigdjcnaaGreatDoorTie.lean); close each card by the builder's one call (the guide's Derived/Test/ToyasCard.lean, 'card_holds'). Laid BY PROGRAM, IN A SANDBOX (cutbox-door.mjs). By AI agents, Wed Nov 11 2026. No macro, syntax, notation, axiom, sorry.
-/
import Derived.Test.YtnkbcciigdjcnaaGreatDoorRows
import GoSem.ClaimSeven
namespace Go.Proofs.YtnkbcciigdjcnaaGreatDoor
namespace Rows

/-- THE TIED CARD OF 'laws.FnExactLowerBound'. -/
def fnExactLowerBoundCard : Claim7 := { stood := { row := fnExactLowerBoundRow, standIns := [], harness := (true, "460a45947dd079c0ca830100630d44ec82b0a8b3fca8a1c0caa33cc10605c1ae"), looks := false }, kinds := [], alts := [], laidByText := true, laidKinds := [.data, .data], laidTests := true, laidLooks := .later }
def FnExactLowerBoundCardSaid : Prop := Claim7.holds Tryz.pinned (.plain (OpenSpec.ofChange fnExactLowerBoundSpec)) fnExactLowerBoundCard

/-- THE TIED CARD OF 'laws.FnExactSolve'. -/
def fnExactSolveCard : Claim7 := { stood := { row := fnExactSolveRow, standIns := [], harness := (true, "460a45947dd079c0ca830100630d44ec82b0a8b3fca8a1c0caa33cc10605c1ae"), looks := false }, kinds := [], alts := [], laidByText := true, laidKinds := [.data, .data], laidTests := true, laidLooks := .later }
def FnExactSolveCardSaid : Prop := Claim7.holds Tryz.pinned (.plain (OpenSpec.ofChange fnExactSolveSpec)) fnExactSolveCard

/-- THE TIED CARD OF 'laws.FnExactCountSolutions'. -/
def fnExactCountSolutionsCard : Claim7 := { stood := { row := fnExactCountSolutionsRow, standIns := [], harness := (true, "460a45947dd079c0ca830100630d44ec82b0a8b3fca8a1c0caa33cc10605c1ae"), looks := false }, kinds := [], alts := [], laidByText := true, laidKinds := [.data, .data], laidTests := true, laidLooks := .later }
def FnExactCountSolutionsCardSaid : Prop := Claim7.holds Tryz.pinned (.plain (OpenSpec.ofChange fnExactCountSolutionsSpec)) fnExactCountSolutionsCard

/-- THE TIED CARD OF 'laws.FnExactSolveAll'. -/
def fnExactSolveAllCard : Claim7 := { stood := { row := fnExactSolveAllRow, standIns := [], harness := (true, "460a45947dd079c0ca830100630d44ec82b0a8b3fca8a1c0caa33cc10605c1ae"), looks := false }, kinds := [], alts := [], laidByText := true, laidKinds := [.data, .data], laidTests := true, laidLooks := .later }
def FnExactSolveAllCardSaid : Prop := Claim7.holds Tryz.pinned (.plain (OpenSpec.ofChange fnExactSolveAllSpec)) fnExactSolveAllCard

/-- THE TIED CARD OF 'laws.FnExactBackbone'. -/
def fnExactBackboneCard : Claim7 := { stood := { row := fnExactBackboneRow, standIns := [], harness := (true, "460a45947dd079c0ca830100630d44ec82b0a8b3fca8a1c0caa33cc10605c1ae"), looks := false }, kinds := [], alts := [], laidByText := true, laidKinds := [.data, .data], laidTests := true, laidLooks := .later }
def FnExactBackboneCardSaid : Prop := Claim7.holds Tryz.pinned (.plain (OpenSpec.ofChange fnExactBackboneSpec)) fnExactBackboneCard

/-- THE SECOND FORM's CARD OF 'laws.FnExactLowerBound'. -/
def fnExactLowerBoundUptoCard : Claim7 := { stood := { row := fnExactLowerBoundUptoRow, standIns := [], harness := (true, "460a45947dd079c0ca830100630d44ec82b0a8b3fca8a1c0caa33cc10605c1ae"), looks := false }, kinds := [], alts := [], laidByText := true, laidKinds := [.data, .data], laidTests := true, laidLooks := .later }
def FnExactLowerBoundUptoCardSaid : Prop := Claim7.holds Tryz.pinned (.plain (OpenSpec.upto fnExactLowerBoundSpec)) fnExactLowerBoundUptoCard

/-- THE SECOND FORM's CARD OF 'laws.FnExactSolve'. -/
def fnExactSolveUptoCard : Claim7 := { stood := { row := fnExactSolveUptoRow, standIns := [], harness := (true, "460a45947dd079c0ca830100630d44ec82b0a8b3fca8a1c0caa33cc10605c1ae"), looks := false }, kinds := [], alts := [], laidByText := true, laidKinds := [.data, .data], laidTests := true, laidLooks := .later }
def FnExactSolveUptoCardSaid : Prop := Claim7.holds Tryz.pinned (.plain (OpenSpec.upto fnExactSolveSpec)) fnExactSolveUptoCard

/-- THE SECOND FORM's CARD OF 'laws.FnExactCountSolutions'. -/
def fnExactCountSolutionsUptoCard : Claim7 := { stood := { row := fnExactCountSolutionsUptoRow, standIns := [], harness := (true, "460a45947dd079c0ca830100630d44ec82b0a8b3fca8a1c0caa33cc10605c1ae"), looks := false }, kinds := [], alts := [], laidByText := true, laidKinds := [.data, .data], laidTests := true, laidLooks := .later }
def FnExactCountSolutionsUptoCardSaid : Prop := Claim7.holds Tryz.pinned (.plain (OpenSpec.upto fnExactCountSolutionsSpec)) fnExactCountSolutionsUptoCard

/-- THE SECOND FORM's CARD OF 'laws.FnExactSolveAll'. -/
def fnExactSolveAllUptoCard : Claim7 := { stood := { row := fnExactSolveAllUptoRow, standIns := [], harness := (true, "460a45947dd079c0ca830100630d44ec82b0a8b3fca8a1c0caa33cc10605c1ae"), looks := false }, kinds := [], alts := [], laidByText := true, laidKinds := [.data, .data], laidTests := true, laidLooks := .later }
def FnExactSolveAllUptoCardSaid : Prop := Claim7.holds Tryz.pinned (.plain (OpenSpec.upto fnExactSolveAllSpec)) fnExactSolveAllUptoCard

/-- THE SECOND FORM's CARD OF 'laws.FnExactBackbone'. -/
def fnExactBackboneUptoCard : Claim7 := { stood := { row := fnExactBackboneUptoRow, standIns := [], harness := (true, "460a45947dd079c0ca830100630d44ec82b0a8b3fca8a1c0caa33cc10605c1ae"), looks := false }, kinds := [], alts := [], laidByText := true, laidKinds := [.data, .data], laidTests := true, laidLooks := .later }
def FnExactBackboneUptoCardSaid : Prop := Claim7.holds Tryz.pinned (.plain (OpenSpec.upto fnExactBackboneSpec)) fnExactBackboneUptoCard
end Rows
end Go.Proofs.YtnkbcciigdjcnaaGreatDoor
