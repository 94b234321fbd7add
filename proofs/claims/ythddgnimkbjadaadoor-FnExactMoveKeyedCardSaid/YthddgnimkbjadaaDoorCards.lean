/-
  DERIVED. GIVEN WITH THE SEED: THE CARDS: each row of YthddgnimkbjadaaDoorRows.lean that lists a variable, with what it lists TIED to the program's text (the seventh form; the later family's looks); each row that meets fmt, with fmt's text TOLD by the authors' own Lean function (tested against real Go, not proved from fmt's source: count such statements apart). THE CARD IS WHAT COUNTS. Prove the row's statement (the work); the ties are given (YthddgnimkbjadaaDoorTie.lean); close each card by the builder's one call (the guide's Derived/Test/ToyasCard.lean, 'card_holds'). Laid BY PROGRAM, IN A SANDBOX (cutbox-door.mjs). By AI agents, Wed Nov 11 2026. No macro, syntax, notation, axiom, sorry.
-/
import Derived.Test.YthddgnimkbjadaaDoorRows
import GoSem.ClaimSeven
namespace Go.Proofs.YthddgnimkbjadaaDoor
namespace Rows

/-- THE TIED CARD OF 'laws.FnExactFitsKey'. -/
def fnExactFitsKeyCard : Claim7 := { stood := { row := fnExactFitsKeyRow, standIns := [], harness := (true, "c60e8bb80389f8fd0096713162b373bcfe5e289bd8aba79be8ab4378e7292e89"), looks := false }, kinds := [], alts := [], laidByText := true, laidKinds := [.data, .data], laidTests := true, laidLooks := .later }
def FnExactFitsKeyCardSaid : Prop := Claim7.holds Tryd.pinned (.plain (OpenSpec.ofChange fnExactFitsKeySpec)) fnExactFitsKeyCard

/-- THE TIED CARD OF 'laws.FnExactKeyedMoves'. -/
def fnExactKeyedMovesCard : Claim7 := { stood := { row := fnExactKeyedMovesRow, standIns := [], harness := (true, "c60e8bb80389f8fd0096713162b373bcfe5e289bd8aba79be8ab4378e7292e89"), looks := false }, kinds := [], alts := [], laidByText := true, laidKinds := [.data, .data], laidTests := true, laidLooks := .later }
def FnExactKeyedMovesCardSaid : Prop := Claim7.holds Tryd.pinned (.plain (OpenSpec.ofChange fnExactKeyedMovesSpec)) fnExactKeyedMovesCard

/-- THE TIED CARD OF 'laws.FnExactMoveKeyed'. -/
def fnExactMoveKeyedCard : Claim7 := { stood := { row := fnExactMoveKeyedRow, standIns := [], harness := (true, "c60e8bb80389f8fd0096713162b373bcfe5e289bd8aba79be8ab4378e7292e89"), looks := false }, kinds := [], alts := [], laidByText := true, laidKinds := [.data, .data], laidTests := true, laidLooks := .later }
def FnExactMoveKeyedCardSaid : Prop := Claim7.holds Tryd.pinned (.plain (OpenSpec.ofChange fnExactMoveKeyedSpec)) fnExactMoveKeyedCard

/-- THE SECOND FORM's CARD OF 'laws.FnExactFitsKey'. -/
def fnExactFitsKeyUptoCard : Claim7 := { stood := { row := fnExactFitsKeyUptoRow, standIns := [], harness := (true, "c60e8bb80389f8fd0096713162b373bcfe5e289bd8aba79be8ab4378e7292e89"), looks := false }, kinds := [], alts := [], laidByText := true, laidKinds := [.data, .data], laidTests := true, laidLooks := .later }
def FnExactFitsKeyUptoCardSaid : Prop := Claim7.holds Tryd.pinned (.plain (OpenSpec.upto fnExactFitsKeySpec)) fnExactFitsKeyUptoCard

/-- THE SECOND FORM's CARD OF 'laws.FnExactKeyedMoves'. -/
def fnExactKeyedMovesUptoCard : Claim7 := { stood := { row := fnExactKeyedMovesUptoRow, standIns := [], harness := (true, "c60e8bb80389f8fd0096713162b373bcfe5e289bd8aba79be8ab4378e7292e89"), looks := false }, kinds := [], alts := [], laidByText := true, laidKinds := [.data, .data], laidTests := true, laidLooks := .later }
def FnExactKeyedMovesUptoCardSaid : Prop := Claim7.holds Tryd.pinned (.plain (OpenSpec.upto fnExactKeyedMovesSpec)) fnExactKeyedMovesUptoCard

/-- THE SECOND FORM's CARD OF 'laws.FnExactMoveKeyed'. -/
def fnExactMoveKeyedUptoCard : Claim7 := { stood := { row := fnExactMoveKeyedUptoRow, standIns := [], harness := (true, "c60e8bb80389f8fd0096713162b373bcfe5e289bd8aba79be8ab4378e7292e89"), looks := false }, kinds := [], alts := [], laidByText := true, laidKinds := [.data, .data], laidTests := true, laidLooks := .later }
def FnExactMoveKeyedUptoCardSaid : Prop := Claim7.holds Tryd.pinned (.plain (OpenSpec.upto fnExactMoveKeyedSpec)) fnExactMoveKeyedUptoCard
end Rows
end Go.Proofs.YthddgnimkbjadaaDoor
