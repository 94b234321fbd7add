/-
  DERIVED. GIVEN WITH THE SEED: THE CARDS: each row of YtbgdhiieeegnjacDoorRows.lean that lists a variable, with what it lists TIED to the program's text (the seventh form; the later family's looks); each row that meets fmt, with fmt's text TOLD by the authors' own Lean function (tested against real Go, not proved from fmt's source: count such statements apart). THE CARD IS WHAT COUNTS. Prove the row's statement (the work); the ties are given (YtbgdhiieeegnjacDoorTie.lean); close each card by the builder's one call (the guide's Derived/Test/ToyasCard.lean, 'card_holds'). Laid BY PROGRAM, IN A SANDBOX (cutbox-door.mjs). By AI agents, Wed Nov 11 2026. No macro, syntax, notation, axiom, sorry.
-/
import Derived.Test.YtbgdhiieeegnjacDoorRows
import GoSem.ClaimSeven
namespace Go.Proofs.YtbgdhiieeegnjacDoor
namespace Rows

/-- THE TIED CARD OF 'laws.FnExactChangedDigit'. -/
def fnExactChangedDigitCard : Claim7 := { stood := { row := fnExactChangedDigitRow, standIns := [], harness := (true, "a5fa46d2af45a7097c7812bb064d752bf06e67f3859a3a52cd9fe7214be2a9cc"), looks := false }, kinds := [], alts := [], laidByText := true, laidKinds := [.data, .data], laidTests := true, laidLooks := .later }
def FnExactChangedDigitCardSaid : Prop := Claim7.holds Tryd.pinned (.plain (OpenSpec.ofChange fnExactChangedDigitSpec)) fnExactChangedDigitCard

/-- THE TIED CARD OF 'laws.FnExactReflectedText'. -/
def fnExactReflectedTextCard : Claim7 := { stood := { row := fnExactReflectedTextRow, standIns := [], harness := (true, "a5fa46d2af45a7097c7812bb064d752bf06e67f3859a3a52cd9fe7214be2a9cc"), looks := false }, kinds := [], alts := [], laidByText := true, laidKinds := [.data], laidTests := true, laidLooks := .later }
def FnExactReflectedTextCardSaid : Prop := Claim7.holds Tryd.pinned (.plain (OpenSpec.ofChange fnExactReflectedTextSpec)) fnExactReflectedTextCard

/-- THE TIED CARD OF 'laws.FnExactSetAt'. -/
def fnExactSetAtCard : Claim7 := { stood := { row := fnExactSetAtRow, standIns := [], harness := (true, "a5fa46d2af45a7097c7812bb064d752bf06e67f3859a3a52cd9fe7214be2a9cc"), looks := false }, kinds := [], alts := [], laidByText := true, laidKinds := [.data], laidTests := true, laidLooks := .later }
def FnExactSetAtCardSaid : Prop := Claim7.holds Tryd.pinned (.plain (OpenSpec.ofChange fnExactSetAtSpec)) fnExactSetAtCard

/-- THE SECOND FORM's CARD OF 'laws.FnExactChangedDigit'. -/
def fnExactChangedDigitUptoCard : Claim7 := { stood := { row := fnExactChangedDigitUptoRow, standIns := [], harness := (true, "a5fa46d2af45a7097c7812bb064d752bf06e67f3859a3a52cd9fe7214be2a9cc"), looks := false }, kinds := [], alts := [], laidByText := true, laidKinds := [.data, .data], laidTests := true, laidLooks := .later }
def FnExactChangedDigitUptoCardSaid : Prop := Claim7.holds Tryd.pinned (.plain (OpenSpec.upto fnExactChangedDigitSpec)) fnExactChangedDigitUptoCard

/-- THE SECOND FORM's CARD OF 'laws.FnExactReflectedText'. -/
def fnExactReflectedTextUptoCard : Claim7 := { stood := { row := fnExactReflectedTextUptoRow, standIns := [], harness := (true, "a5fa46d2af45a7097c7812bb064d752bf06e67f3859a3a52cd9fe7214be2a9cc"), looks := false }, kinds := [], alts := [], laidByText := true, laidKinds := [.data], laidTests := true, laidLooks := .later }
def FnExactReflectedTextUptoCardSaid : Prop := Claim7.holds Tryd.pinned (.plain (OpenSpec.upto fnExactReflectedTextSpec)) fnExactReflectedTextUptoCard

/-- THE SECOND FORM's CARD OF 'laws.FnExactSetAt'. -/
def fnExactSetAtUptoCard : Claim7 := { stood := { row := fnExactSetAtUptoRow, standIns := [], harness := (true, "a5fa46d2af45a7097c7812bb064d752bf06e67f3859a3a52cd9fe7214be2a9cc"), looks := false }, kinds := [], alts := [], laidByText := true, laidKinds := [.data], laidTests := true, laidLooks := .later }
def FnExactSetAtUptoCardSaid : Prop := Claim7.holds Tryd.pinned (.plain (OpenSpec.upto fnExactSetAtSpec)) fnExactSetAtUptoCard
end Rows
end Go.Proofs.YtbgdhiieeegnjacDoor
