/-
  DERIVED. GIVEN WITH THE SEED: THE CARDS: each row of YtnfonoaojkhnkaaDoorRows.lean that lists a variable, with what it lists TIED to the program's text (the seventh form; the later family's looks); each row that meets fmt, with fmt's text TOLD by the authors' own Lean function (tested against real Go, not proved from fmt's source: count such statements apart). THE CARD IS WHAT COUNTS. Prove the row's statement (the work); the ties are given (YtnfonoaojkhnkaaDoorTie.lean); close each card by the builder's one call (the guide's Derived/Test/ToyasCard.lean, 'card_holds'). Laid BY PROGRAM, IN A SANDBOX (cutbox-door.mjs). By AI agents, Wed Nov 11 2026. No macro, syntax, notation, axiom, sorry.
-/
import Derived.Test.YtnfonoaojkhnkaaDoorRows
import GoSem.ClaimSeven
namespace Go.Proofs.YtnfonoaojkhnkaaDoor
namespace Rows

/-- THE TIED CARD OF 'laws.FnExactIsClue'. -/
def fnExactIsClueCard : Claim7 := { stood := { row := fnExactIsClueRow, standIns := [], harness := (true, "7b490bf0a3d15134b8bf65d2e7781f074acd91bb8b36599df1f5ea7d98aa984c"), looks := true }, kinds := [], alts := [], laidByText := true, laidKinds := [.data, .data], laidTests := true, laidLooks := .later }
def FnExactIsClueCardSaid : Prop := Claim7.holds Tryd.pinned (.plain (OpenSpec.ofChange fnExactIsClueSpec)) fnExactIsClueCard

/-- THE TIED CARD OF 'laws.FnExactIsPuzzle'. -/
def fnExactIsPuzzleCard : Claim7 := { stood := { row := fnExactIsPuzzleRow, standIns := [], harness := (true, "7b490bf0a3d15134b8bf65d2e7781f074acd91bb8b36599df1f5ea7d98aa984c"), looks := true }, kinds := [], alts := [], laidByText := true, laidKinds := [.data, .data], laidTests := true, laidLooks := .later }
def FnExactIsPuzzleCardSaid : Prop := Claim7.holds Tryd.pinned (.plain (OpenSpec.ofChange fnExactIsPuzzleSpec)) fnExactIsPuzzleCard

/-- THE TIED CARD OF 'laws.FnExactDoesFit'. -/
def fnExactDoesFitCard : Claim7 := { stood := { row := fnExactDoesFitRow, standIns := [], harness := (true, "7b490bf0a3d15134b8bf65d2e7781f074acd91bb8b36599df1f5ea7d98aa984c"), looks := true }, kinds := [], alts := [], laidByText := true, laidKinds := [.data, .data], laidTests := true, laidLooks := .later }
def FnExactDoesFitCardSaid : Prop := Claim7.holds Tryd.pinned (.plain (OpenSpec.ofChange fnExactDoesFitSpec)) fnExactDoesFitCard

/-- THE TIED CARD OF 'laws.FnExactSolutions'. -/
def fnExactSolutionsCard : Claim7 := { stood := { row := fnExactSolutionsRow, standIns := [], harness := (true, "7b490bf0a3d15134b8bf65d2e7781f074acd91bb8b36599df1f5ea7d98aa984c"), looks := true }, kinds := [], alts := [], laidByText := true, laidKinds := [.data, .data], laidTests := true, laidLooks := .later }
def FnExactSolutionsCardSaid : Prop := Claim7.holds Tryd.pinned (.plain (OpenSpec.ofChange fnExactSolutionsSpec)) fnExactSolutionsCard

/-- THE TIED CARD OF 'laws.FnExactCountSolutions'. -/
def fnExactCountSolutionsCard : Claim7 := { stood := { row := fnExactCountSolutionsRow, standIns := [], harness := (true, "7b490bf0a3d15134b8bf65d2e7781f074acd91bb8b36599df1f5ea7d98aa984c"), looks := true }, kinds := [], alts := [], laidByText := true, laidKinds := [.data, .data], laidTests := true, laidLooks := .later }
def FnExactCountSolutionsCardSaid : Prop := Claim7.holds Tryd.pinned (.plain (OpenSpec.ofChange fnExactCountSolutionsSpec)) fnExactCountSolutionsCard

/-- THE TIED CARD OF 'laws.FnExactFirstSolution'. -/
def fnExactFirstSolutionCard : Claim7 := { stood := { row := fnExactFirstSolutionRow, standIns := [], harness := (true, "7b490bf0a3d15134b8bf65d2e7781f074acd91bb8b36599df1f5ea7d98aa984c"), looks := true }, kinds := [], alts := [], laidByText := true, laidKinds := [.data, .data], laidTests := true, laidLooks := .later }
def FnExactFirstSolutionCardSaid : Prop := Claim7.holds Tryd.pinned (.plain (OpenSpec.ofChange fnExactFirstSolutionSpec)) fnExactFirstSolutionCard

/-- THE TIED CARD OF 'laws.FnExactSureSigns'. -/
def fnExactSureSignsCard : Claim7 := { stood := { row := fnExactSureSignsRow, standIns := [], harness := (true, "7b490bf0a3d15134b8bf65d2e7781f074acd91bb8b36599df1f5ea7d98aa984c"), looks := true }, kinds := [], alts := [], laidByText := true, laidKinds := [.data, .data], laidTests := true, laidLooks := .later }
def FnExactSureSignsCardSaid : Prop := Claim7.holds Tryd.pinned (.plain (OpenSpec.ofChange fnExactSureSignsSpec)) fnExactSureSignsCard

/-- THE TIED CARD OF 'laws.FnExactIsSolved'. -/
def fnExactIsSolvedCard : Claim7 := { stood := { row := fnExactIsSolvedRow, standIns := [], harness := (true, "7b490bf0a3d15134b8bf65d2e7781f074acd91bb8b36599df1f5ea7d98aa984c"), looks := true }, kinds := [], alts := [], laidByText := true, laidKinds := [.data, .data], laidTests := true, laidLooks := .later }
def FnExactIsSolvedCardSaid : Prop := Claim7.holds Tryd.pinned (.plain (OpenSpec.ofChange fnExactIsSolvedSpec)) fnExactIsSolvedCard

/-- THE SECOND FORM's CARD OF 'laws.FnExactIsClue'. -/
def fnExactIsClueUptoCard : Claim7 := { stood := { row := fnExactIsClueUptoRow, standIns := [], harness := (true, "7b490bf0a3d15134b8bf65d2e7781f074acd91bb8b36599df1f5ea7d98aa984c"), looks := true }, kinds := [], alts := [], laidByText := true, laidKinds := [.data, .data], laidTests := true, laidLooks := .later }
def FnExactIsClueUptoCardSaid : Prop := Claim7.holds Tryd.pinned (.plain (OpenSpec.upto fnExactIsClueSpec)) fnExactIsClueUptoCard

/-- THE SECOND FORM's CARD OF 'laws.FnExactIsPuzzle'. -/
def fnExactIsPuzzleUptoCard : Claim7 := { stood := { row := fnExactIsPuzzleUptoRow, standIns := [], harness := (true, "7b490bf0a3d15134b8bf65d2e7781f074acd91bb8b36599df1f5ea7d98aa984c"), looks := true }, kinds := [], alts := [], laidByText := true, laidKinds := [.data, .data], laidTests := true, laidLooks := .later }
def FnExactIsPuzzleUptoCardSaid : Prop := Claim7.holds Tryd.pinned (.plain (OpenSpec.upto fnExactIsPuzzleSpec)) fnExactIsPuzzleUptoCard

/-- THE SECOND FORM's CARD OF 'laws.FnExactDoesFit'. -/
def fnExactDoesFitUptoCard : Claim7 := { stood := { row := fnExactDoesFitUptoRow, standIns := [], harness := (true, "7b490bf0a3d15134b8bf65d2e7781f074acd91bb8b36599df1f5ea7d98aa984c"), looks := true }, kinds := [], alts := [], laidByText := true, laidKinds := [.data, .data], laidTests := true, laidLooks := .later }
def FnExactDoesFitUptoCardSaid : Prop := Claim7.holds Tryd.pinned (.plain (OpenSpec.upto fnExactDoesFitSpec)) fnExactDoesFitUptoCard

/-- THE SECOND FORM's CARD OF 'laws.FnExactSolutions'. -/
def fnExactSolutionsUptoCard : Claim7 := { stood := { row := fnExactSolutionsUptoRow, standIns := [], harness := (true, "7b490bf0a3d15134b8bf65d2e7781f074acd91bb8b36599df1f5ea7d98aa984c"), looks := true }, kinds := [], alts := [], laidByText := true, laidKinds := [.data, .data], laidTests := true, laidLooks := .later }
def FnExactSolutionsUptoCardSaid : Prop := Claim7.holds Tryd.pinned (.plain (OpenSpec.upto fnExactSolutionsSpec)) fnExactSolutionsUptoCard

/-- THE SECOND FORM's CARD OF 'laws.FnExactCountSolutions'. -/
def fnExactCountSolutionsUptoCard : Claim7 := { stood := { row := fnExactCountSolutionsUptoRow, standIns := [], harness := (true, "7b490bf0a3d15134b8bf65d2e7781f074acd91bb8b36599df1f5ea7d98aa984c"), looks := true }, kinds := [], alts := [], laidByText := true, laidKinds := [.data, .data], laidTests := true, laidLooks := .later }
def FnExactCountSolutionsUptoCardSaid : Prop := Claim7.holds Tryd.pinned (.plain (OpenSpec.upto fnExactCountSolutionsSpec)) fnExactCountSolutionsUptoCard

/-- THE SECOND FORM's CARD OF 'laws.FnExactFirstSolution'. -/
def fnExactFirstSolutionUptoCard : Claim7 := { stood := { row := fnExactFirstSolutionUptoRow, standIns := [], harness := (true, "7b490bf0a3d15134b8bf65d2e7781f074acd91bb8b36599df1f5ea7d98aa984c"), looks := true }, kinds := [], alts := [], laidByText := true, laidKinds := [.data, .data], laidTests := true, laidLooks := .later }
def FnExactFirstSolutionUptoCardSaid : Prop := Claim7.holds Tryd.pinned (.plain (OpenSpec.upto fnExactFirstSolutionSpec)) fnExactFirstSolutionUptoCard

/-- THE SECOND FORM's CARD OF 'laws.FnExactSureSigns'. -/
def fnExactSureSignsUptoCard : Claim7 := { stood := { row := fnExactSureSignsUptoRow, standIns := [], harness := (true, "7b490bf0a3d15134b8bf65d2e7781f074acd91bb8b36599df1f5ea7d98aa984c"), looks := true }, kinds := [], alts := [], laidByText := true, laidKinds := [.data, .data], laidTests := true, laidLooks := .later }
def FnExactSureSignsUptoCardSaid : Prop := Claim7.holds Tryd.pinned (.plain (OpenSpec.upto fnExactSureSignsSpec)) fnExactSureSignsUptoCard

/-- THE SECOND FORM's CARD OF 'laws.FnExactIsSolved'. -/
def fnExactIsSolvedUptoCard : Claim7 := { stood := { row := fnExactIsSolvedUptoRow, standIns := [], harness := (true, "7b490bf0a3d15134b8bf65d2e7781f074acd91bb8b36599df1f5ea7d98aa984c"), looks := true }, kinds := [], alts := [], laidByText := true, laidKinds := [.data, .data], laidTests := true, laidLooks := .later }
def FnExactIsSolvedUptoCardSaid : Prop := Claim7.holds Tryd.pinned (.plain (OpenSpec.upto fnExactIsSolvedSpec)) fnExactIsSolvedUptoCard
end Rows
end Go.Proofs.YtnfonoaojkhnkaaDoor
