/-
  DERIVED. GIVEN WITH THE SEED: THE CARDS: each row of YtmbijomjilicgabDoorRows.lean that lists a variable, with what it lists TIED to the program's text (the seventh form; the later family's looks); each row that meets fmt, with fmt's text TOLD by the authors' own Lean function (tested against real Go, not proved from fmt's source: count such statements apart). THE CARD IS WHAT COUNTS. Prove the row's statement (the work); the ties are given (YtmbijomjilicgabDoorTie.lean); close each card by the builder's one call (the guide's Derived/Test/ToyasCard.lean, 'card_holds'). Laid BY PROGRAM, IN A SANDBOX (cutbox-door.mjs). By AI agents, Wed Nov 11 2026. No macro, syntax, notation, axiom, sorry.
-/
import Derived.Test.YtmbijomjilicgabDoorRows
import GoSem.ClaimSeven
namespace Go.Proofs.YtmbijomjilicgabDoor
namespace Rows

/-- THE TIED CARD OF 'laws.FnExactFirstPairMoves'. -/
def fnExactFirstPairMovesCard : Claim7 := { stood := { row := fnExactFirstPairMovesRow, standIns := [], harness := (true, "d7cb456271e6e94cd3f6d4ea7c3b77f35a71b70bb27fb0405858e160083ba87f"), looks := false }, kinds := [], alts := [], goes := true, laidByText := true, laidKinds := [.data, .data], laidTests := true, laidLooks := .later }
def FnExactFirstPairMovesCardSaid : Prop := Claim7.holds Tryd.pinned (.plain (OpenSpec.ofChange fnExactFirstPairMovesSpec)) fnExactFirstPairMovesCard

/-- THE TIED CARD OF 'laws.FnExactPairsUsed'. -/
def fnExactPairsUsedCard : Claim7 := { stood := { row := fnExactPairsUsedRow, standIns := [], harness := (true, "d7cb456271e6e94cd3f6d4ea7c3b77f35a71b70bb27fb0405858e160083ba87f"), looks := false }, kinds := [], alts := [], goes := true, laidByText := true, laidKinds := [.data, .data], laidTests := true, laidLooks := .later }
def FnExactPairsUsedCardSaid : Prop := Claim7.holds Tryd.pinned (.plain (OpenSpec.ofChange fnExactPairsUsedSpec)) fnExactPairsUsedCard

/-- THE TIED CARD OF 'laws.FnExactFarthestByPairs'. -/
def fnExactFarthestByPairsCard : Claim7 := { stood := { row := fnExactFarthestByPairsRow, standIns := [], harness := (true, "d7cb456271e6e94cd3f6d4ea7c3b77f35a71b70bb27fb0405858e160083ba87f"), looks := false }, kinds := [], alts := [], laidByText := true, laidKinds := [.data, .data], laidTests := true, laidLooks := .later }
def FnExactFarthestByPairsCardSaid : Prop := Claim7.holds Tryd.pinned (.plain (OpenSpec.ofChange fnExactFarthestByPairsSpec)) fnExactFarthestByPairsCard

/-- THE TIED CARD OF 'laws.FnExactNearByPairs'. -/
def fnExactNearByPairsCard : Claim7 := { stood := { row := fnExactNearByPairsRow, standIns := [], harness := (true, "d7cb456271e6e94cd3f6d4ea7c3b77f35a71b70bb27fb0405858e160083ba87f"), looks := false }, kinds := [], alts := [], laidByText := true, laidKinds := [.data, .data], laidTests := true, laidLooks := .later }
def FnExactNearByPairsCardSaid : Prop := Claim7.holds Tryd.pinned (.plain (OpenSpec.ofChange fnExactNearByPairsSpec)) fnExactNearByPairsCard

/-- THE TIED CARD OF 'laws.FnExactMostSaved'. -/
def fnExactMostSavedCard : Claim7 := { stood := { row := fnExactMostSavedRow, standIns := [], harness := (true, "d7cb456271e6e94cd3f6d4ea7c3b77f35a71b70bb27fb0405858e160083ba87f"), looks := false }, kinds := [], alts := [], laidByText := true, laidKinds := [.data, .data], laidTests := true, laidLooks := .later }
def FnExactMostSavedCardSaid : Prop := Claim7.holds Tryd.pinned (.plain (OpenSpec.ofChange fnExactMostSavedSpec)) fnExactMostSavedCard

/-- THE TIED CARD OF 'laws.FnExactPlayPairMoves'. -/
def fnExactPlayPairMovesCard : Claim7 := { stood := { row := fnExactPlayPairMovesRow, standIns := [], harness := (true, "d7cb456271e6e94cd3f6d4ea7c3b77f35a71b70bb27fb0405858e160083ba87f"), looks := false }, kinds := [], alts := [], goes := true, laidByText := true, laidKinds := [.data, .data], laidTests := true, laidLooks := .later }
def FnExactPlayPairMovesCardSaid : Prop := Claim7.holds Tryd.pinned (.plain (OpenSpec.ofChange fnExactPlayPairMovesSpec)) fnExactPlayPairMovesCard

/-- THE SECOND FORM's CARD OF 'laws.FnExactFirstPairMoves'. -/
def fnExactFirstPairMovesUptoCard : Claim7 := { stood := { row := fnExactFirstPairMovesUptoRow, standIns := [], harness := (true, "d7cb456271e6e94cd3f6d4ea7c3b77f35a71b70bb27fb0405858e160083ba87f"), looks := false }, kinds := [], alts := [], goes := true, laidByText := true, laidKinds := [.data, .data], laidTests := true, laidLooks := .later }
def FnExactFirstPairMovesUptoCardSaid : Prop := Claim7.holds Tryd.pinned (.plain (OpenSpec.upto fnExactFirstPairMovesSpec)) fnExactFirstPairMovesUptoCard

/-- THE SECOND FORM's CARD OF 'laws.FnExactPairsUsed'. -/
def fnExactPairsUsedUptoCard : Claim7 := { stood := { row := fnExactPairsUsedUptoRow, standIns := [], harness := (true, "d7cb456271e6e94cd3f6d4ea7c3b77f35a71b70bb27fb0405858e160083ba87f"), looks := false }, kinds := [], alts := [], goes := true, laidByText := true, laidKinds := [.data, .data], laidTests := true, laidLooks := .later }
def FnExactPairsUsedUptoCardSaid : Prop := Claim7.holds Tryd.pinned (.plain (OpenSpec.upto fnExactPairsUsedSpec)) fnExactPairsUsedUptoCard

/-- THE SECOND FORM's CARD OF 'laws.FnExactFarthestByPairs'. -/
def fnExactFarthestByPairsUptoCard : Claim7 := { stood := { row := fnExactFarthestByPairsUptoRow, standIns := [], harness := (true, "d7cb456271e6e94cd3f6d4ea7c3b77f35a71b70bb27fb0405858e160083ba87f"), looks := false }, kinds := [], alts := [], laidByText := true, laidKinds := [.data, .data], laidTests := true, laidLooks := .later }
def FnExactFarthestByPairsUptoCardSaid : Prop := Claim7.holds Tryd.pinned (.plain (OpenSpec.upto fnExactFarthestByPairsSpec)) fnExactFarthestByPairsUptoCard

/-- THE SECOND FORM's CARD OF 'laws.FnExactNearByPairs'. -/
def fnExactNearByPairsUptoCard : Claim7 := { stood := { row := fnExactNearByPairsUptoRow, standIns := [], harness := (true, "d7cb456271e6e94cd3f6d4ea7c3b77f35a71b70bb27fb0405858e160083ba87f"), looks := false }, kinds := [], alts := [], laidByText := true, laidKinds := [.data, .data], laidTests := true, laidLooks := .later }
def FnExactNearByPairsUptoCardSaid : Prop := Claim7.holds Tryd.pinned (.plain (OpenSpec.upto fnExactNearByPairsSpec)) fnExactNearByPairsUptoCard

/-- THE SECOND FORM's CARD OF 'laws.FnExactMostSaved'. -/
def fnExactMostSavedUptoCard : Claim7 := { stood := { row := fnExactMostSavedUptoRow, standIns := [], harness := (true, "d7cb456271e6e94cd3f6d4ea7c3b77f35a71b70bb27fb0405858e160083ba87f"), looks := false }, kinds := [], alts := [], laidByText := true, laidKinds := [.data, .data], laidTests := true, laidLooks := .later }
def FnExactMostSavedUptoCardSaid : Prop := Claim7.holds Tryd.pinned (.plain (OpenSpec.upto fnExactMostSavedSpec)) fnExactMostSavedUptoCard

/-- THE SECOND FORM's CARD OF 'laws.FnExactPlayPairMoves'. -/
def fnExactPlayPairMovesUptoCard : Claim7 := { stood := { row := fnExactPlayPairMovesUptoRow, standIns := [], harness := (true, "d7cb456271e6e94cd3f6d4ea7c3b77f35a71b70bb27fb0405858e160083ba87f"), looks := false }, kinds := [], alts := [], goes := true, laidByText := true, laidKinds := [.data, .data], laidTests := true, laidLooks := .later }
def FnExactPlayPairMovesUptoCardSaid : Prop := Claim7.holds Tryd.pinned (.plain (OpenSpec.upto fnExactPlayPairMovesSpec)) fnExactPlayPairMovesUptoCard
end Rows
end Go.Proofs.YtmbijomjilicgabDoor
