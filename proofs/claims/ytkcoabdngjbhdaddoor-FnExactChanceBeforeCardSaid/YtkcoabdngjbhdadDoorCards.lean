/-
  DERIVED. GIVEN WITH THE SEED: THE CARDS: each row of YtkcoabdngjbhdadDoorRows.lean that lists a variable, with what it lists TIED to the program's text (the seventh form; the later family's looks); each row that meets fmt, with fmt's text TOLD by the authors' own Lean function (tested against real Go, not proved from fmt's source: count such statements apart). THE CARD IS WHAT COUNTS. Prove the row's statement (the work); the ties are given (YtkcoabdngjbhdadDoorTie.lean); close each card by the builder's one call (the guide's Derived/Test/ToyasCard.lean, 'card_holds'). Laid BY PROGRAM, IN A SANDBOX (cutbox-door.mjs). By AI agents, Wed Nov 11 2026. No macro, syntax, notation, axiom, sorry.
-/
import Derived.Test.YtkcoabdngjbhdadDoorRows
import GoSem.ClaimSeven
namespace Go.Proofs.YtkcoabdngjbhdadDoor
namespace Rows

/-- THE TIED CARD OF 'laws.FnExactChanceBefore'. -/
def fnExactChanceBeforeCard : Claim7 := { stood := { row := fnExactChanceBeforeRow, standIns := [], harness := (true, "e0bf6d369871ac1d66edf40b04402653f03aa3a588a6f67c1bc2000d4fb918ad"), looks := false }, kinds := [], alts := [], laidByText := true, laidKinds := [.data, .data], laidTests := true, laidLooks := .later }
def FnExactChanceBeforeCardSaid : Prop := Claim7.holds Tryd.pinned (.plain (OpenSpec.ofChange fnExactChanceBeforeSpec)) fnExactChanceBeforeCard

/-- THE SECOND FORM's CARD OF 'laws.FnExactChanceBefore'. -/
def fnExactChanceBeforeUptoCard : Claim7 := { stood := { row := fnExactChanceBeforeUptoRow, standIns := [], harness := (true, "e0bf6d369871ac1d66edf40b04402653f03aa3a588a6f67c1bc2000d4fb918ad"), looks := false }, kinds := [], alts := [], laidByText := true, laidKinds := [.data, .data], laidTests := true, laidLooks := .later }
def FnExactChanceBeforeUptoCardSaid : Prop := Claim7.holds Tryd.pinned (.plain (OpenSpec.upto fnExactChanceBeforeSpec)) fnExactChanceBeforeUptoCard
end Rows
end Go.Proofs.YtkcoabdngjbhdadDoor
