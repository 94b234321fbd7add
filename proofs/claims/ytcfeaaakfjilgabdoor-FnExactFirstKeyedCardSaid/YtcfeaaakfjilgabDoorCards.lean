/-
  DERIVED. GIVEN WITH THE SEED: THE CARDS: each row of YtcfeaaakfjilgabDoorRows.lean that lists a variable, with what it lists TIED to the program's text (the seventh form; the later family's looks); each row that meets fmt, with fmt's text TOLD by the authors' own Lean function (tested against real Go, not proved from fmt's source: count such statements apart). THE CARD IS WHAT COUNTS. Prove the row's statement (the work); the ties are given (YtcfeaaakfjilgabDoorTie.lean); close each card by the builder's one call (the guide's Derived/Test/ToyasCard.lean, 'card_holds'). Laid BY PROGRAM, IN A SANDBOX (cutbox-door.mjs). By AI agents, Wed Nov 11 2026. No macro, syntax, notation, axiom, sorry.
-/
import Derived.Test.YtcfeaaakfjilgabDoorRows
import GoSem.ClaimSeven
namespace Go.Proofs.YtcfeaaakfjilgabDoor
namespace Rows

/-- THE TIED CARD OF 'laws.FnExactFirstKeyed'. -/
def fnExactFirstKeyedCard : Claim7 := { stood := { row := fnExactFirstKeyedRow, standIns := [], harness := (true, "dffa14c37e79e2ee0b49ac0a39b907b8a239ed98f847873bf20f32eb118867d3"), looks := false }, kinds := [], alts := [], laidByText := true, laidKinds := [.data, .data], laidTests := true, laidLooks := .later }
def FnExactFirstKeyedCardSaid : Prop := Claim7.holds Tryd.pinned (.plain (OpenSpec.ofChange fnExactFirstKeyedSpec)) fnExactFirstKeyedCard

/-- THE TIED CARD OF 'laws.FnExactFarthestByKeys'. -/
def fnExactFarthestByKeysCard : Claim7 := { stood := { row := fnExactFarthestByKeysRow, standIns := [], harness := (true, "dffa14c37e79e2ee0b49ac0a39b907b8a239ed98f847873bf20f32eb118867d3"), looks := false }, kinds := [], alts := [], laidByText := true, laidKinds := [.data, .data], laidTests := true, laidLooks := .later }
def FnExactFarthestByKeysCardSaid : Prop := Claim7.holds Tryd.pinned (.plain (OpenSpec.ofChange fnExactFarthestByKeysSpec)) fnExactFarthestByKeysCard

/-- THE TIED CARD OF 'laws.FnExactParseKeys'. -/
def fnExactParseKeysCard : Claim7 := { stood := { row := fnExactParseKeysRow, standIns := [], harness := (true, "dffa14c37e79e2ee0b49ac0a39b907b8a239ed98f847873bf20f32eb118867d3"), looks := false }, kinds := [], alts := [], laidByText := true, laidKinds := [.data, .pinned], laidTests := true, laidLooks := .later }
def FnExactParseKeysCardSaid : Prop := Claim7.holds Tryd.pinned (.plain (OpenSpec.ofChange fnExactParseKeysSpec)) fnExactParseKeysCard

/-- THE TIED CARD OF 'laws.FnExactParseBolts'. -/
def fnExactParseBoltsCard : Claim7 := { stood := { row := fnExactParseBoltsRow, standIns := [], harness := (true, "dffa14c37e79e2ee0b49ac0a39b907b8a239ed98f847873bf20f32eb118867d3"), looks := false }, kinds := [], alts := [], laidByText := true, laidKinds := [.data, .pinned], laidTests := true, laidLooks := .later }
def FnExactParseBoltsCardSaid : Prop := Claim7.holds Tryd.pinned (.plain (OpenSpec.ofChange fnExactParseBoltsSpec)) fnExactParseBoltsCard

/-- THE TIED CARD OF 'laws.FnExactCountKeyedWays'. -/
def fnExactCountKeyedWaysCard : Claim7 := { stood := { row := fnExactCountKeyedWaysRow, standIns := [], harness := (true, "dffa14c37e79e2ee0b49ac0a39b907b8a239ed98f847873bf20f32eb118867d3"), looks := false }, kinds := [], alts := [], laidByText := true, laidKinds := [.data, .data], laidTests := true, laidLooks := .later }
def FnExactCountKeyedWaysCardSaid : Prop := Claim7.holds Tryd.pinned (.plain (OpenSpec.ofChange fnExactCountKeyedWaysSpec)) fnExactCountKeyedWaysCard

/-- THE SECOND FORM's CARD OF 'laws.FnExactFirstKeyed'. -/
def fnExactFirstKeyedUptoCard : Claim7 := { stood := { row := fnExactFirstKeyedUptoRow, standIns := [], harness := (true, "dffa14c37e79e2ee0b49ac0a39b907b8a239ed98f847873bf20f32eb118867d3"), looks := false }, kinds := [], alts := [], laidByText := true, laidKinds := [.data, .data], laidTests := true, laidLooks := .later }
def FnExactFirstKeyedUptoCardSaid : Prop := Claim7.holds Tryd.pinned (.plain (OpenSpec.upto fnExactFirstKeyedSpec)) fnExactFirstKeyedUptoCard

/-- THE SECOND FORM's CARD OF 'laws.FnExactFarthestByKeys'. -/
def fnExactFarthestByKeysUptoCard : Claim7 := { stood := { row := fnExactFarthestByKeysUptoRow, standIns := [], harness := (true, "dffa14c37e79e2ee0b49ac0a39b907b8a239ed98f847873bf20f32eb118867d3"), looks := false }, kinds := [], alts := [], laidByText := true, laidKinds := [.data, .data], laidTests := true, laidLooks := .later }
def FnExactFarthestByKeysUptoCardSaid : Prop := Claim7.holds Tryd.pinned (.plain (OpenSpec.upto fnExactFarthestByKeysSpec)) fnExactFarthestByKeysUptoCard

/-- THE SECOND FORM's CARD OF 'laws.FnExactParseKeys'. -/
def fnExactParseKeysUptoCard : Claim7 := { stood := { row := fnExactParseKeysUptoRow, standIns := [], harness := (true, "dffa14c37e79e2ee0b49ac0a39b907b8a239ed98f847873bf20f32eb118867d3"), looks := false }, kinds := [], alts := [], laidByText := true, laidKinds := [.data, .pinned], laidTests := true, laidLooks := .later }
def FnExactParseKeysUptoCardSaid : Prop := Claim7.holds Tryd.pinned (.plain (OpenSpec.upto fnExactParseKeysSpec)) fnExactParseKeysUptoCard

/-- THE SECOND FORM's CARD OF 'laws.FnExactParseBolts'. -/
def fnExactParseBoltsUptoCard : Claim7 := { stood := { row := fnExactParseBoltsUptoRow, standIns := [], harness := (true, "dffa14c37e79e2ee0b49ac0a39b907b8a239ed98f847873bf20f32eb118867d3"), looks := false }, kinds := [], alts := [], laidByText := true, laidKinds := [.data, .pinned], laidTests := true, laidLooks := .later }
def FnExactParseBoltsUptoCardSaid : Prop := Claim7.holds Tryd.pinned (.plain (OpenSpec.upto fnExactParseBoltsSpec)) fnExactParseBoltsUptoCard

/-- THE SECOND FORM's CARD OF 'laws.FnExactCountKeyedWays'. -/
def fnExactCountKeyedWaysUptoCard : Claim7 := { stood := { row := fnExactCountKeyedWaysUptoRow, standIns := [], harness := (true, "dffa14c37e79e2ee0b49ac0a39b907b8a239ed98f847873bf20f32eb118867d3"), looks := false }, kinds := [], alts := [], laidByText := true, laidKinds := [.data, .data], laidTests := true, laidLooks := .later }
def FnExactCountKeyedWaysUptoCardSaid : Prop := Claim7.holds Tryd.pinned (.plain (OpenSpec.upto fnExactCountKeyedWaysSpec)) fnExactCountKeyedWaysUptoCard
end Rows
end Go.Proofs.YtcfeaaakfjilgabDoor
