/-
  DERIVED. GIVEN WITH THE SEED: THE CARDS: each row of YtbgdhiieeegnjaaDoorRows.lean that lists a variable, with what it lists TIED to the program's text (the seventh form; the later family's looks); each row that meets fmt, with fmt's text TOLD by the authors' own Lean function (tested against real Go, not proved from fmt's source: count such statements apart). THE CARD IS WHAT COUNTS. Prove the row's statement (the work); the ties are given (YtbgdhiieeegnjaaDoorTie.lean); close each card by the builder's one call (the guide's Derived/Test/ToyasCard.lean, 'card_holds'). Laid BY PROGRAM, IN A SANDBOX (cutbox-door.mjs). By AI agents, Wed Nov 11 2026. No macro, syntax, notation, axiom, sorry.
-/
import Derived.Test.YtbgdhiieeegnjaaDoorRows
import GoSem.ClaimSeven
namespace Go.Proofs.YtbgdhiieeegnjaaDoor
namespace Rows

/-- THE TIED CARD OF 'laws.FnExactCountOn'. -/
def fnExactCountOnCard : Claim7 := { stood := { row := fnExactCountOnRow, standIns := [], harness := (true, "8402ee243a90ba1d29cf8c1ae6bf3e29ba765adaeb67dd10f222bc40dcc04dc5"), looks := false }, kinds := [], alts := [], laidByText := true, laidKinds := [.data, .data], laidTests := true, laidLooks := .later }
def FnExactCountOnCardSaid : Prop := Claim7.holds Tryd.pinned (.plain (OpenSpec.ofChange fnExactCountOnSpec)) fnExactCountOnCard

/-- THE TIED CARD OF 'laws.FnExactAllOn'. -/
def fnExactAllOnCard : Claim7 := { stood := { row := fnExactAllOnRow, standIns := [], harness := (true, "8402ee243a90ba1d29cf8c1ae6bf3e29ba765adaeb67dd10f222bc40dcc04dc5"), looks := false }, kinds := [], alts := [], laidByText := true, laidKinds := [.data, .data], laidTests := true, laidLooks := .later }
def FnExactAllOnCardSaid : Prop := Claim7.holds Tryd.pinned (.plain (OpenSpec.ofChange fnExactAllOnSpec)) fnExactAllOnCard

/-- THE TIED CARD OF 'laws.FnExactMovesOf'. -/
def fnExactMovesOfCard : Claim7 := { stood := { row := fnExactMovesOfRow, standIns := [], harness := (true, "8402ee243a90ba1d29cf8c1ae6bf3e29ba765adaeb67dd10f222bc40dcc04dc5"), looks := false }, kinds := [], alts := [], laidByText := true, laidKinds := [.data, .data], laidTests := true, laidLooks := .later }
def FnExactMovesOfCardSaid : Prop := Claim7.holds Tryd.pinned (.plain (OpenSpec.ofChange fnExactMovesOfSpec)) fnExactMovesOfCard

/-- THE TIED CARD OF 'laws.FnExactMoveRing'. -/
def fnExactMoveRingCard : Claim7 := { stood := { row := fnExactMoveRingRow, standIns := [], harness := (true, "8402ee243a90ba1d29cf8c1ae6bf3e29ba765adaeb67dd10f222bc40dcc04dc5"), looks := false }, kinds := [], alts := [], laidByText := true, laidKinds := [.data, .data], laidTests := true, laidLooks := .later }
def FnExactMoveRingCardSaid : Prop := Claim7.holds Tryd.pinned (.plain (OpenSpec.ofChange fnExactMoveRingSpec)) fnExactMoveRingCard

/-- THE TIED CARD OF 'laws.FnExactPlayMoves'. -/
def fnExactPlayMovesCard : Claim7 := { stood := { row := fnExactPlayMovesRow, standIns := [], harness := (true, "8402ee243a90ba1d29cf8c1ae6bf3e29ba765adaeb67dd10f222bc40dcc04dc5"), looks := false }, kinds := [], alts := [], laidByText := true, laidKinds := [.data, .data], laidTests := true, laidLooks := .later }
def FnExactPlayMovesCardSaid : Prop := Claim7.holds Tryd.pinned (.plain (OpenSpec.ofChange fnExactPlayMovesSpec)) fnExactPlayMovesCard

/-- THE TIED CARD OF 'laws.FnExactMoveThatFails'. -/
def fnExactMoveThatFailsCard : Claim7 := { stood := { row := fnExactMoveThatFailsRow, standIns := [], harness := (true, "8402ee243a90ba1d29cf8c1ae6bf3e29ba765adaeb67dd10f222bc40dcc04dc5"), looks := false }, kinds := [], alts := [], laidByText := true, laidKinds := [.data, .data], laidTests := true, laidLooks := .later }
def FnExactMoveThatFailsCardSaid : Prop := Claim7.holds Tryd.pinned (.plain (OpenSpec.ofChange fnExactMoveThatFailsSpec)) fnExactMoveThatFailsCard

/-- THE TIED CARD OF 'laws.FnExactNumberOfState'. -/
def fnExactNumberOfStateCard : Claim7 := { stood := { row := fnExactNumberOfStateRow, standIns := [], harness := (true, "8402ee243a90ba1d29cf8c1ae6bf3e29ba765adaeb67dd10f222bc40dcc04dc5"), looks := false }, kinds := [], alts := [], laidByText := true, laidKinds := [.data, .data], laidTests := true, laidLooks := .later }
def FnExactNumberOfStateCardSaid : Prop := Claim7.holds Tryd.pinned (.plain (OpenSpec.ofChange fnExactNumberOfStateSpec)) fnExactNumberOfStateCard

/-- THE TIED CARD OF 'laws.FnExactStateOfNumber'. -/
def fnExactStateOfNumberCard : Claim7 := { stood := { row := fnExactStateOfNumberRow, standIns := [], harness := (true, "8402ee243a90ba1d29cf8c1ae6bf3e29ba765adaeb67dd10f222bc40dcc04dc5"), looks := false }, kinds := [], alts := [], laidByText := true, laidKinds := [.data, .data], laidTests := true, laidLooks := .later }
def FnExactStateOfNumberCardSaid : Prop := Claim7.holds Tryd.pinned (.plain (OpenSpec.ofChange fnExactStateOfNumberSpec)) fnExactStateOfNumberCard

/-- THE TIED CARD OF 'laws.FnExactMovesToClear'. -/
def fnExactMovesToClearCard : Claim7 := { stood := { row := fnExactMovesToClearRow, standIns := [], harness := (true, "8402ee243a90ba1d29cf8c1ae6bf3e29ba765adaeb67dd10f222bc40dcc04dc5"), looks := false }, kinds := [], alts := [], laidByText := true, laidKinds := [.data, .data], laidTests := true, laidLooks := .later }
def FnExactMovesToClearCardSaid : Prop := Claim7.holds Tryd.pinned (.plain (OpenSpec.ofChange fnExactMovesToClearSpec)) fnExactMovesToClearCard

/-- THE TIED CARD OF 'laws.FnExactOtherEnd'. -/
def fnExactOtherEndCard : Claim7 := { stood := { row := fnExactOtherEndRow, standIns := [], harness := (true, "8402ee243a90ba1d29cf8c1ae6bf3e29ba765adaeb67dd10f222bc40dcc04dc5"), looks := false }, kinds := [], alts := [], laidByText := true, laidKinds := [.data, .data], laidTests := true, laidLooks := .later }
def FnExactOtherEndCardSaid : Prop := Claim7.holds Tryd.pinned (.plain (OpenSpec.ofChange fnExactOtherEndSpec)) fnExactOtherEndCard

/-- THE TIED CARD OF 'laws.FnExactFewestMoves'. -/
def fnExactFewestMovesCard : Claim7 := { stood := { row := fnExactFewestMovesRow, standIns := [], harness := (true, "8402ee243a90ba1d29cf8c1ae6bf3e29ba765adaeb67dd10f222bc40dcc04dc5"), looks := false }, kinds := [], alts := [], laidByText := true, laidKinds := [.data, .data], laidTests := true, laidLooks := .later }
def FnExactFewestMovesCardSaid : Prop := Claim7.holds Tryd.pinned (.plain (OpenSpec.ofChange fnExactFewestMovesSpec)) fnExactFewestMovesCard

/-- THE TIED CARD OF 'laws.FnExactMiddleOf'. -/
def fnExactMiddleOfCard : Claim7 := { stood := { row := fnExactMiddleOfRow, standIns := [], harness := (true, "8402ee243a90ba1d29cf8c1ae6bf3e29ba765adaeb67dd10f222bc40dcc04dc5"), looks := false }, kinds := [], alts := [], laidByText := true, laidKinds := [.data, .data], laidTests := true, laidLooks := .later }
def FnExactMiddleOfCardSaid : Prop := Claim7.holds Tryd.pinned (.plain (OpenSpec.ofChange fnExactMiddleOfSpec)) fnExactMiddleOfCard

/-- THE SECOND FORM's CARD OF 'laws.FnExactCountOn'. -/
def fnExactCountOnUptoCard : Claim7 := { stood := { row := fnExactCountOnUptoRow, standIns := [], harness := (true, "8402ee243a90ba1d29cf8c1ae6bf3e29ba765adaeb67dd10f222bc40dcc04dc5"), looks := false }, kinds := [], alts := [], laidByText := true, laidKinds := [.data, .data], laidTests := true, laidLooks := .later }
def FnExactCountOnUptoCardSaid : Prop := Claim7.holds Tryd.pinned (.plain (OpenSpec.upto fnExactCountOnSpec)) fnExactCountOnUptoCard

/-- THE SECOND FORM's CARD OF 'laws.FnExactAllOn'. -/
def fnExactAllOnUptoCard : Claim7 := { stood := { row := fnExactAllOnUptoRow, standIns := [], harness := (true, "8402ee243a90ba1d29cf8c1ae6bf3e29ba765adaeb67dd10f222bc40dcc04dc5"), looks := false }, kinds := [], alts := [], laidByText := true, laidKinds := [.data, .data], laidTests := true, laidLooks := .later }
def FnExactAllOnUptoCardSaid : Prop := Claim7.holds Tryd.pinned (.plain (OpenSpec.upto fnExactAllOnSpec)) fnExactAllOnUptoCard

/-- THE SECOND FORM's CARD OF 'laws.FnExactMovesOf'. -/
def fnExactMovesOfUptoCard : Claim7 := { stood := { row := fnExactMovesOfUptoRow, standIns := [], harness := (true, "8402ee243a90ba1d29cf8c1ae6bf3e29ba765adaeb67dd10f222bc40dcc04dc5"), looks := false }, kinds := [], alts := [], laidByText := true, laidKinds := [.data, .data], laidTests := true, laidLooks := .later }
def FnExactMovesOfUptoCardSaid : Prop := Claim7.holds Tryd.pinned (.plain (OpenSpec.upto fnExactMovesOfSpec)) fnExactMovesOfUptoCard

/-- THE SECOND FORM's CARD OF 'laws.FnExactMoveRing'. -/
def fnExactMoveRingUptoCard : Claim7 := { stood := { row := fnExactMoveRingUptoRow, standIns := [], harness := (true, "8402ee243a90ba1d29cf8c1ae6bf3e29ba765adaeb67dd10f222bc40dcc04dc5"), looks := false }, kinds := [], alts := [], laidByText := true, laidKinds := [.data, .data], laidTests := true, laidLooks := .later }
def FnExactMoveRingUptoCardSaid : Prop := Claim7.holds Tryd.pinned (.plain (OpenSpec.upto fnExactMoveRingSpec)) fnExactMoveRingUptoCard

/-- THE SECOND FORM's CARD OF 'laws.FnExactPlayMoves'. -/
def fnExactPlayMovesUptoCard : Claim7 := { stood := { row := fnExactPlayMovesUptoRow, standIns := [], harness := (true, "8402ee243a90ba1d29cf8c1ae6bf3e29ba765adaeb67dd10f222bc40dcc04dc5"), looks := false }, kinds := [], alts := [], laidByText := true, laidKinds := [.data, .data], laidTests := true, laidLooks := .later }
def FnExactPlayMovesUptoCardSaid : Prop := Claim7.holds Tryd.pinned (.plain (OpenSpec.upto fnExactPlayMovesSpec)) fnExactPlayMovesUptoCard

/-- THE SECOND FORM's CARD OF 'laws.FnExactMoveThatFails'. -/
def fnExactMoveThatFailsUptoCard : Claim7 := { stood := { row := fnExactMoveThatFailsUptoRow, standIns := [], harness := (true, "8402ee243a90ba1d29cf8c1ae6bf3e29ba765adaeb67dd10f222bc40dcc04dc5"), looks := false }, kinds := [], alts := [], laidByText := true, laidKinds := [.data, .data], laidTests := true, laidLooks := .later }
def FnExactMoveThatFailsUptoCardSaid : Prop := Claim7.holds Tryd.pinned (.plain (OpenSpec.upto fnExactMoveThatFailsSpec)) fnExactMoveThatFailsUptoCard

/-- THE SECOND FORM's CARD OF 'laws.FnExactNumberOfState'. -/
def fnExactNumberOfStateUptoCard : Claim7 := { stood := { row := fnExactNumberOfStateUptoRow, standIns := [], harness := (true, "8402ee243a90ba1d29cf8c1ae6bf3e29ba765adaeb67dd10f222bc40dcc04dc5"), looks := false }, kinds := [], alts := [], laidByText := true, laidKinds := [.data, .data], laidTests := true, laidLooks := .later }
def FnExactNumberOfStateUptoCardSaid : Prop := Claim7.holds Tryd.pinned (.plain (OpenSpec.upto fnExactNumberOfStateSpec)) fnExactNumberOfStateUptoCard

/-- THE SECOND FORM's CARD OF 'laws.FnExactStateOfNumber'. -/
def fnExactStateOfNumberUptoCard : Claim7 := { stood := { row := fnExactStateOfNumberUptoRow, standIns := [], harness := (true, "8402ee243a90ba1d29cf8c1ae6bf3e29ba765adaeb67dd10f222bc40dcc04dc5"), looks := false }, kinds := [], alts := [], laidByText := true, laidKinds := [.data, .data], laidTests := true, laidLooks := .later }
def FnExactStateOfNumberUptoCardSaid : Prop := Claim7.holds Tryd.pinned (.plain (OpenSpec.upto fnExactStateOfNumberSpec)) fnExactStateOfNumberUptoCard

/-- THE SECOND FORM's CARD OF 'laws.FnExactMovesToClear'. -/
def fnExactMovesToClearUptoCard : Claim7 := { stood := { row := fnExactMovesToClearUptoRow, standIns := [], harness := (true, "8402ee243a90ba1d29cf8c1ae6bf3e29ba765adaeb67dd10f222bc40dcc04dc5"), looks := false }, kinds := [], alts := [], laidByText := true, laidKinds := [.data, .data], laidTests := true, laidLooks := .later }
def FnExactMovesToClearUptoCardSaid : Prop := Claim7.holds Tryd.pinned (.plain (OpenSpec.upto fnExactMovesToClearSpec)) fnExactMovesToClearUptoCard

/-- THE SECOND FORM's CARD OF 'laws.FnExactOtherEnd'. -/
def fnExactOtherEndUptoCard : Claim7 := { stood := { row := fnExactOtherEndUptoRow, standIns := [], harness := (true, "8402ee243a90ba1d29cf8c1ae6bf3e29ba765adaeb67dd10f222bc40dcc04dc5"), looks := false }, kinds := [], alts := [], laidByText := true, laidKinds := [.data, .data], laidTests := true, laidLooks := .later }
def FnExactOtherEndUptoCardSaid : Prop := Claim7.holds Tryd.pinned (.plain (OpenSpec.upto fnExactOtherEndSpec)) fnExactOtherEndUptoCard

/-- THE SECOND FORM's CARD OF 'laws.FnExactFewestMoves'. -/
def fnExactFewestMovesUptoCard : Claim7 := { stood := { row := fnExactFewestMovesUptoRow, standIns := [], harness := (true, "8402ee243a90ba1d29cf8c1ae6bf3e29ba765adaeb67dd10f222bc40dcc04dc5"), looks := false }, kinds := [], alts := [], laidByText := true, laidKinds := [.data, .data], laidTests := true, laidLooks := .later }
def FnExactFewestMovesUptoCardSaid : Prop := Claim7.holds Tryd.pinned (.plain (OpenSpec.upto fnExactFewestMovesSpec)) fnExactFewestMovesUptoCard

/-- THE SECOND FORM's CARD OF 'laws.FnExactMiddleOf'. -/
def fnExactMiddleOfUptoCard : Claim7 := { stood := { row := fnExactMiddleOfUptoRow, standIns := [], harness := (true, "8402ee243a90ba1d29cf8c1ae6bf3e29ba765adaeb67dd10f222bc40dcc04dc5"), looks := false }, kinds := [], alts := [], laidByText := true, laidKinds := [.data, .data], laidTests := true, laidLooks := .later }
def FnExactMiddleOfUptoCardSaid : Prop := Claim7.holds Tryd.pinned (.plain (OpenSpec.upto fnExactMiddleOfSpec)) fnExactMiddleOfUptoCard
end Rows
end Go.Proofs.YtbgdhiieeegnjaaDoor
