/-
  DERIVED. GIVEN WITH THE SEED: THE CARDS: each row of YtbgdhiieeegnjabDoorRows.lean that lists a variable, with what it lists TIED to the program's text (the seventh form; the later family's looks); each row that meets fmt, with fmt's text TOLD by the authors' own Lean function (tested against real Go, not proved from fmt's source: count such statements apart). THE CARD IS WHAT COUNTS. Prove the row's statement (the work); the ties are given (YtbgdhiieeegnjabDoorTie.lean); close each card by the builder's one call (the guide's Derived/Test/ToyasCard.lean, 'card_holds'). Laid BY PROGRAM, IN A SANDBOX (cutbox-door.mjs). By AI agents, Wed Nov 11 2026. No macro, syntax, notation, axiom, sorry.
-/
import Derived.Test.YtbgdhiieeegnjabDoorRows
import GoSem.ClaimSeven
namespace Go.Proofs.YtbgdhiieeegnjabDoor
namespace Rows

/-- THE TIED CARD OF 'laws.FnExactNextMove'. -/
def fnExactNextMoveCard : Claim7 := { stood := { row := fnExactNextMoveRow, standIns := [], harness := (true, "beb4263ab9ae4aa35accca9fe5583ec58f1ff905711594d65084c58ff4c18be3"), looks := false }, kinds := [], alts := [], laidByText := true, laidKinds := [.data, .data], laidTests := true, laidLooks := .later }
def FnExactNextMoveCardSaid : Prop := Claim7.holds Tryd.pinned (.plain (OpenSpec.ofChange fnExactNextMoveSpec)) fnExactNextMoveCard

/-- THE TIED CARD OF 'laws.FnExactWayTo'. -/
def fnExactWayToCard : Claim7 := { stood := { row := fnExactWayToRow, standIns := [], harness := (true, "beb4263ab9ae4aa35accca9fe5583ec58f1ff905711594d65084c58ff4c18be3"), looks := false }, kinds := [], alts := [], laidByText := true, laidKinds := [.data, .data], laidTests := true, laidLooks := .later }
def FnExactWayToCardSaid : Prop := Claim7.holds Tryd.pinned (.plain (OpenSpec.ofChange fnExactWayToSpec)) fnExactWayToCard

/-- THE TIED CARD OF 'laws.FnExactFarthestFrom'. -/
def fnExactFarthestFromCard : Claim7 := { stood := { row := fnExactFarthestFromRow, standIns := [], harness := (true, "beb4263ab9ae4aa35accca9fe5583ec58f1ff905711594d65084c58ff4c18be3"), looks := false }, kinds := [], alts := [], laidByText := true, laidKinds := [.data, .data], laidTests := true, laidLooks := .later }
def FnExactFarthestFromCardSaid : Prop := Claim7.holds Tryd.pinned (.plain (OpenSpec.ofChange fnExactFarthestFromSpec)) fnExactFarthestFromCard

/-- THE TIED CARD OF 'laws.FnExactStatesBetween'. -/
def fnExactStatesBetweenCard : Claim7 := { stood := { row := fnExactStatesBetweenRow, standIns := [], harness := (true, "beb4263ab9ae4aa35accca9fe5583ec58f1ff905711594d65084c58ff4c18be3"), looks := false }, kinds := [], alts := [], laidByText := true, laidKinds := [.data, .data], laidTests := true, laidLooks := .later }
def FnExactStatesBetweenCardSaid : Prop := Claim7.holds Tryd.pinned (.plain (OpenSpec.ofChange fnExactStatesBetweenSpec)) fnExactStatesBetweenCard

/-- THE TIED CARD OF 'laws.FnExactTimesMoved'. -/
def fnExactTimesMovedCard : Claim7 := { stood := { row := fnExactTimesMovedRow, standIns := [], harness := (true, "beb4263ab9ae4aa35accca9fe5583ec58f1ff905711594d65084c58ff4c18be3"), looks := false }, kinds := [], alts := [], laidByText := true, laidKinds := [.data, .data], laidTests := true, laidLooks := .later }
def FnExactTimesMovedCardSaid : Prop := Claim7.holds Tryd.pinned (.plain (OpenSpec.ofChange fnExactTimesMovedSpec)) fnExactTimesMovedCard

/-- THE SECOND FORM's CARD OF 'laws.FnExactNextMove'. -/
def fnExactNextMoveUptoCard : Claim7 := { stood := { row := fnExactNextMoveUptoRow, standIns := [], harness := (true, "beb4263ab9ae4aa35accca9fe5583ec58f1ff905711594d65084c58ff4c18be3"), looks := false }, kinds := [], alts := [], laidByText := true, laidKinds := [.data, .data], laidTests := true, laidLooks := .later }
def FnExactNextMoveUptoCardSaid : Prop := Claim7.holds Tryd.pinned (.plain (OpenSpec.upto fnExactNextMoveSpec)) fnExactNextMoveUptoCard

/-- THE SECOND FORM's CARD OF 'laws.FnExactWayTo'. -/
def fnExactWayToUptoCard : Claim7 := { stood := { row := fnExactWayToUptoRow, standIns := [], harness := (true, "beb4263ab9ae4aa35accca9fe5583ec58f1ff905711594d65084c58ff4c18be3"), looks := false }, kinds := [], alts := [], laidByText := true, laidKinds := [.data, .data], laidTests := true, laidLooks := .later }
def FnExactWayToUptoCardSaid : Prop := Claim7.holds Tryd.pinned (.plain (OpenSpec.upto fnExactWayToSpec)) fnExactWayToUptoCard

/-- THE SECOND FORM's CARD OF 'laws.FnExactFarthestFrom'. -/
def fnExactFarthestFromUptoCard : Claim7 := { stood := { row := fnExactFarthestFromUptoRow, standIns := [], harness := (true, "beb4263ab9ae4aa35accca9fe5583ec58f1ff905711594d65084c58ff4c18be3"), looks := false }, kinds := [], alts := [], laidByText := true, laidKinds := [.data, .data], laidTests := true, laidLooks := .later }
def FnExactFarthestFromUptoCardSaid : Prop := Claim7.holds Tryd.pinned (.plain (OpenSpec.upto fnExactFarthestFromSpec)) fnExactFarthestFromUptoCard

/-- THE SECOND FORM's CARD OF 'laws.FnExactStatesBetween'. -/
def fnExactStatesBetweenUptoCard : Claim7 := { stood := { row := fnExactStatesBetweenUptoRow, standIns := [], harness := (true, "beb4263ab9ae4aa35accca9fe5583ec58f1ff905711594d65084c58ff4c18be3"), looks := false }, kinds := [], alts := [], laidByText := true, laidKinds := [.data, .data], laidTests := true, laidLooks := .later }
def FnExactStatesBetweenUptoCardSaid : Prop := Claim7.holds Tryd.pinned (.plain (OpenSpec.upto fnExactStatesBetweenSpec)) fnExactStatesBetweenUptoCard

/-- THE SECOND FORM's CARD OF 'laws.FnExactTimesMoved'. -/
def fnExactTimesMovedUptoCard : Claim7 := { stood := { row := fnExactTimesMovedUptoRow, standIns := [], harness := (true, "beb4263ab9ae4aa35accca9fe5583ec58f1ff905711594d65084c58ff4c18be3"), looks := false }, kinds := [], alts := [], laidByText := true, laidKinds := [.data, .data], laidTests := true, laidLooks := .later }
def FnExactTimesMovedUptoCardSaid : Prop := Claim7.holds Tryd.pinned (.plain (OpenSpec.upto fnExactTimesMovedSpec)) fnExactTimesMovedUptoCard
end Rows
end Go.Proofs.YtbgdhiieeegnjabDoor
