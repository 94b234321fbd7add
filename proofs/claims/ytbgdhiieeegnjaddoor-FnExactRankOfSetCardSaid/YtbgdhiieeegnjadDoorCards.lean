/-
  DERIVED. GIVEN WITH THE SEED: THE CARDS: each row of YtbgdhiieeegnjadDoorRows.lean that lists a variable, with what it lists TIED to the program's text (the seventh form; the later family's looks); each row that meets fmt, with fmt's text TOLD by the authors' own Lean function (tested against real Go, not proved from fmt's source: count such statements apart). THE CARD IS WHAT COUNTS. Prove the row's statement (the work); the ties are given (YtbgdhiieeegnjadDoorTie.lean); close each card by the builder's one call (the guide's Derived/Test/ToyasCard.lean, 'card_holds'). Laid BY PROGRAM, IN A SANDBOX (cutbox-door.mjs). By AI agents, Wed Nov 11 2026. No macro, syntax, notation, axiom, sorry.
-/
import Derived.Test.YtbgdhiieeegnjadDoorRows
import GoSem.ClaimSeven
namespace Go.Proofs.YtbgdhiieeegnjadDoor
namespace Rows

/-- THE TIED CARD OF 'laws.FnExactRankOfSet'. -/
def fnExactRankOfSetCard : Claim7 := { stood := { row := fnExactRankOfSetRow, standIns := [], harness := (true, "f614bcd372e4c9258bab351917f5bdab4d1e9223133971a7b490bc6c2ec2f147"), looks := false }, kinds := [], alts := [], laidByText := true, laidKinds := [.data], laidTests := true, laidLooks := .later }
def FnExactRankOfSetCardSaid : Prop := Claim7.holds Tryd.pinned (.plain (OpenSpec.ofChange fnExactRankOfSetSpec)) fnExactRankOfSetCard

/-- THE SECOND FORM's CARD OF 'laws.FnExactRankOfSet'. -/
def fnExactRankOfSetUptoCard : Claim7 := { stood := { row := fnExactRankOfSetUptoRow, standIns := [], harness := (true, "f614bcd372e4c9258bab351917f5bdab4d1e9223133971a7b490bc6c2ec2f147"), looks := false }, kinds := [], alts := [], laidByText := true, laidKinds := [.data], laidTests := true, laidLooks := .later }
def FnExactRankOfSetUptoCardSaid : Prop := Claim7.holds Tryd.pinned (.plain (OpenSpec.upto fnExactRankOfSetSpec)) fnExactRankOfSetUptoCard
end Rows
end Go.Proofs.YtbgdhiieeegnjadDoor
