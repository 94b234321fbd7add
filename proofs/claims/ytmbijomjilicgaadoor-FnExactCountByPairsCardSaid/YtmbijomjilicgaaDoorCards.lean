/-
  DERIVED. GIVEN WITH THE SEED: THE CARDS: each row of YtmbijomjilicgaaDoorRows.lean that lists a variable, with what it lists TIED to the program's text (the seventh form; the later family's looks); each row that meets fmt, with fmt's text TOLD by the authors' own Lean function (tested against real Go, not proved from fmt's source: count such statements apart). THE CARD IS WHAT COUNTS. Prove the row's statement (the work); the ties are given (YtmbijomjilicgaaDoorTie.lean); close each card by the builder's one call (the guide's Derived/Test/ToyasCard.lean, 'card_holds'). Laid BY PROGRAM, IN A SANDBOX (cutbox-door.mjs). By AI agents, Wed Nov 11 2026. No macro, syntax, notation, axiom, sorry.
-/
import Derived.Test.YtmbijomjilicgaaDoorRows
import GoSem.ClaimSeven
namespace Go.Proofs.YtmbijomjilicgaaDoor
namespace Rows

/-- THE TIED CARD OF 'laws.FnExactPairMovesOf'. -/
def fnExactPairMovesOfCard : Claim7 := { stood := { row := fnExactPairMovesOfRow, standIns := [], harness := (true, "ba29011f6ec3d94df8afc48b91e44fdcc4638cf74097ed028a807879d10577a5"), looks := false }, kinds := [], alts := [], laidByText := true, laidKinds := [.data, .data], laidTests := true, laidLooks := .later }
def FnExactPairMovesOfCardSaid : Prop := Claim7.holds Tryd.pinned (.plain (OpenSpec.ofChange fnExactPairMovesOfSpec)) fnExactPairMovesOfCard

/-- THE TIED CARD OF 'laws.FnExactMakePairMove'. -/
def fnExactMakePairMoveCard : Claim7 := { stood := { row := fnExactMakePairMoveRow, standIns := [], harness := (true, "ba29011f6ec3d94df8afc48b91e44fdcc4638cf74097ed028a807879d10577a5"), looks := false }, kinds := [], alts := [], laidByText := true, laidKinds := [.data, .data], laidTests := true, laidLooks := .later }
def FnExactMakePairMoveCardSaid : Prop := Claim7.holds Tryd.pinned (.plain (OpenSpec.ofChange fnExactMakePairMoveSpec)) fnExactMakePairMoveCard

/-- THE TIED CARD OF 'laws.FnExactFewestPairMoves'. -/
def fnExactFewestPairMovesCard : Claim7 := { stood := { row := fnExactFewestPairMovesRow, standIns := [], harness := (true, "ba29011f6ec3d94df8afc48b91e44fdcc4638cf74097ed028a807879d10577a5"), looks := false }, kinds := [], alts := [], laidByText := true, laidKinds := [.data, .data], laidTests := true, laidLooks := .later }
def FnExactFewestPairMovesCardSaid : Prop := Claim7.holds Tryd.pinned (.plain (OpenSpec.ofChange fnExactFewestPairMovesSpec)) fnExactFewestPairMovesCard

/-- THE TIED CARD OF 'laws.FnExactCountPairWays'. -/
def fnExactCountPairWaysCard : Claim7 := { stood := { row := fnExactCountPairWaysRow, standIns := [], harness := (true, "ba29011f6ec3d94df8afc48b91e44fdcc4638cf74097ed028a807879d10577a5"), looks := false }, kinds := [], alts := [], laidByText := true, laidKinds := [.data, .data], laidTests := true, laidLooks := .later }
def FnExactCountPairWaysCardSaid : Prop := Claim7.holds Tryd.pinned (.plain (OpenSpec.ofChange fnExactCountPairWaysSpec)) fnExactCountPairWaysCard

/-- THE TIED CARD OF 'laws.FnExactCountByPairs'. -/
def fnExactCountByPairsCard : Claim7 := { stood := { row := fnExactCountByPairsRow, standIns := [], harness := (true, "ba29011f6ec3d94df8afc48b91e44fdcc4638cf74097ed028a807879d10577a5"), looks := false }, kinds := [], alts := [], laidByText := true, laidKinds := [.data, .data], laidTests := true, laidLooks := .later }
def FnExactCountByPairsCardSaid : Prop := Claim7.holds Tryd.pinned (.plain (OpenSpec.ofChange fnExactCountByPairsSpec)) fnExactCountByPairsCard

/-- THE TIED CARD OF 'laws.FnExactPairMovesToClear'. -/
def fnExactPairMovesToClearCard : Claim7 := { stood := { row := fnExactPairMovesToClearRow, standIns := [], harness := (true, "ba29011f6ec3d94df8afc48b91e44fdcc4638cf74097ed028a807879d10577a5"), looks := false }, kinds := [], alts := [], laidByText := true, laidKinds := [.data, .data], laidTests := true, laidLooks := .later }
def FnExactPairMovesToClearCardSaid : Prop := Claim7.holds Tryd.pinned (.plain (OpenSpec.ofChange fnExactPairMovesToClearSpec)) fnExactPairMovesToClearCard

/-- THE TIED CARD OF 'laws.FnExactSavedByPairs'. -/
def fnExactSavedByPairsCard : Claim7 := { stood := { row := fnExactSavedByPairsRow, standIns := [], harness := (true, "ba29011f6ec3d94df8afc48b91e44fdcc4638cf74097ed028a807879d10577a5"), looks := false }, kinds := [], alts := [], laidByText := true, laidKinds := [.data, .data], laidTests := true, laidLooks := .later }
def FnExactSavedByPairsCardSaid : Prop := Claim7.holds Tryd.pinned (.plain (OpenSpec.ofChange fnExactSavedByPairsSpec)) fnExactSavedByPairsCard

/-- THE SECOND FORM's CARD OF 'laws.FnExactPairMovesOf'. -/
def fnExactPairMovesOfUptoCard : Claim7 := { stood := { row := fnExactPairMovesOfUptoRow, standIns := [], harness := (true, "ba29011f6ec3d94df8afc48b91e44fdcc4638cf74097ed028a807879d10577a5"), looks := false }, kinds := [], alts := [], laidByText := true, laidKinds := [.data, .data], laidTests := true, laidLooks := .later }
def FnExactPairMovesOfUptoCardSaid : Prop := Claim7.holds Tryd.pinned (.plain (OpenSpec.upto fnExactPairMovesOfSpec)) fnExactPairMovesOfUptoCard

/-- THE SECOND FORM's CARD OF 'laws.FnExactMakePairMove'. -/
def fnExactMakePairMoveUptoCard : Claim7 := { stood := { row := fnExactMakePairMoveUptoRow, standIns := [], harness := (true, "ba29011f6ec3d94df8afc48b91e44fdcc4638cf74097ed028a807879d10577a5"), looks := false }, kinds := [], alts := [], laidByText := true, laidKinds := [.data, .data], laidTests := true, laidLooks := .later }
def FnExactMakePairMoveUptoCardSaid : Prop := Claim7.holds Tryd.pinned (.plain (OpenSpec.upto fnExactMakePairMoveSpec)) fnExactMakePairMoveUptoCard

/-- THE SECOND FORM's CARD OF 'laws.FnExactFewestPairMoves'. -/
def fnExactFewestPairMovesUptoCard : Claim7 := { stood := { row := fnExactFewestPairMovesUptoRow, standIns := [], harness := (true, "ba29011f6ec3d94df8afc48b91e44fdcc4638cf74097ed028a807879d10577a5"), looks := false }, kinds := [], alts := [], laidByText := true, laidKinds := [.data, .data], laidTests := true, laidLooks := .later }
def FnExactFewestPairMovesUptoCardSaid : Prop := Claim7.holds Tryd.pinned (.plain (OpenSpec.upto fnExactFewestPairMovesSpec)) fnExactFewestPairMovesUptoCard

/-- THE SECOND FORM's CARD OF 'laws.FnExactCountPairWays'. -/
def fnExactCountPairWaysUptoCard : Claim7 := { stood := { row := fnExactCountPairWaysUptoRow, standIns := [], harness := (true, "ba29011f6ec3d94df8afc48b91e44fdcc4638cf74097ed028a807879d10577a5"), looks := false }, kinds := [], alts := [], laidByText := true, laidKinds := [.data, .data], laidTests := true, laidLooks := .later }
def FnExactCountPairWaysUptoCardSaid : Prop := Claim7.holds Tryd.pinned (.plain (OpenSpec.upto fnExactCountPairWaysSpec)) fnExactCountPairWaysUptoCard

/-- THE SECOND FORM's CARD OF 'laws.FnExactCountByPairs'. -/
def fnExactCountByPairsUptoCard : Claim7 := { stood := { row := fnExactCountByPairsUptoRow, standIns := [], harness := (true, "ba29011f6ec3d94df8afc48b91e44fdcc4638cf74097ed028a807879d10577a5"), looks := false }, kinds := [], alts := [], laidByText := true, laidKinds := [.data, .data], laidTests := true, laidLooks := .later }
def FnExactCountByPairsUptoCardSaid : Prop := Claim7.holds Tryd.pinned (.plain (OpenSpec.upto fnExactCountByPairsSpec)) fnExactCountByPairsUptoCard

/-- THE SECOND FORM's CARD OF 'laws.FnExactPairMovesToClear'. -/
def fnExactPairMovesToClearUptoCard : Claim7 := { stood := { row := fnExactPairMovesToClearUptoRow, standIns := [], harness := (true, "ba29011f6ec3d94df8afc48b91e44fdcc4638cf74097ed028a807879d10577a5"), looks := false }, kinds := [], alts := [], laidByText := true, laidKinds := [.data, .data], laidTests := true, laidLooks := .later }
def FnExactPairMovesToClearUptoCardSaid : Prop := Claim7.holds Tryd.pinned (.plain (OpenSpec.upto fnExactPairMovesToClearSpec)) fnExactPairMovesToClearUptoCard

/-- THE SECOND FORM's CARD OF 'laws.FnExactSavedByPairs'. -/
def fnExactSavedByPairsUptoCard : Claim7 := { stood := { row := fnExactSavedByPairsUptoRow, standIns := [], harness := (true, "ba29011f6ec3d94df8afc48b91e44fdcc4638cf74097ed028a807879d10577a5"), looks := false }, kinds := [], alts := [], laidByText := true, laidKinds := [.data, .data], laidTests := true, laidLooks := .later }
def FnExactSavedByPairsUptoCardSaid : Prop := Claim7.holds Tryd.pinned (.plain (OpenSpec.upto fnExactSavedByPairsSpec)) fnExactSavedByPairsUptoCard
end Rows
end Go.Proofs.YtmbijomjilicgaaDoor
