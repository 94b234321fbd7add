/-
  DERIVED. GIVEN WITH THE SEED: THE CARDS: each row of YthddgnimkbjadabDoorRows.lean that lists a variable, with what it lists TIED to the program's text (the seventh form; the later family's looks); each row that meets fmt, with fmt's text TOLD by the authors' own Lean function (tested against real Go, not proved from fmt's source: count such statements apart). THE CARD IS WHAT COUNTS. Prove the row's statement (the work); the ties are given (YthddgnimkbjadabDoorTie.lean); close each card by the builder's one call (the guide's Derived/Test/ToyasCard.lean, 'card_holds'). Laid BY PROGRAM, IN A SANDBOX (cutbox-door.mjs). By AI agents, Wed Nov 11 2026. No macro, syntax, notation, axiom, sorry.
-/
import Derived.Test.YthddgnimkbjadabDoorRows
import GoSem.ClaimSeven
namespace Go.Proofs.YthddgnimkbjadabDoor
namespace Rows

/-- THE TIED CARD OF 'laws.FnExactFewestKeyed'. -/
def fnExactFewestKeyedCard : Claim7 := { stood := { row := fnExactFewestKeyedRow, standIns := [], harness := (true, "3b38c13d9e2bfead90eaad6385f1860ba59232e81659b103d1ef1fab5ac8ea8c"), looks := false }, kinds := [], alts := [], laidByText := true, laidKinds := [.data, .data], laidTests := true, laidLooks := .later }
def FnExactFewestKeyedCardSaid : Prop := Claim7.holds Tryd.pinned (.plain (OpenSpec.ofChange fnExactFewestKeyedSpec)) fnExactFewestKeyedCard

/-- THE TIED CARD OF 'laws.FnExactFirstKeyed'. -/
def fnExactFirstKeyedCard : Claim7 := { stood := { row := fnExactFirstKeyedRow, standIns := [], harness := (true, "3b38c13d9e2bfead90eaad6385f1860ba59232e81659b103d1ef1fab5ac8ea8c"), looks := false }, kinds := [], alts := [], laidByText := true, laidKinds := [.data, .data], laidTests := true, laidLooks := .later }
def FnExactFirstKeyedCardSaid : Prop := Claim7.holds Tryd.pinned (.plain (OpenSpec.ofChange fnExactFirstKeyedSpec)) fnExactFirstKeyedCard

/-- THE TIED CARD OF 'laws.FnExactCountKeyedWays'. -/
def fnExactCountKeyedWaysCard : Claim7 := { stood := { row := fnExactCountKeyedWaysRow, standIns := [], harness := (true, "3b38c13d9e2bfead90eaad6385f1860ba59232e81659b103d1ef1fab5ac8ea8c"), looks := false }, kinds := [], alts := [], laidByText := true, laidKinds := [.data, .data], laidTests := true, laidLooks := .later }
def FnExactCountKeyedWaysCardSaid : Prop := Claim7.holds Tryd.pinned (.plain (OpenSpec.ofChange fnExactCountKeyedWaysSpec)) fnExactCountKeyedWaysCard

/-- THE TIED CARD OF 'laws.FnExactCountReachedBy'. -/
def fnExactCountReachedByCard : Claim7 := { stood := { row := fnExactCountReachedByRow, standIns := [], harness := (true, "3b38c13d9e2bfead90eaad6385f1860ba59232e81659b103d1ef1fab5ac8ea8c"), looks := false }, kinds := [], alts := [], laidByText := true, laidKinds := [.data, .data], laidTests := true, laidLooks := .later }
def FnExactCountReachedByCardSaid : Prop := Claim7.holds Tryd.pinned (.plain (OpenSpec.ofChange fnExactCountReachedBySpec)) fnExactCountReachedByCard

/-- THE TIED CARD OF 'laws.FnExactFarthestByKeys'. -/
def fnExactFarthestByKeysCard : Claim7 := { stood := { row := fnExactFarthestByKeysRow, standIns := [], harness := (true, "3b38c13d9e2bfead90eaad6385f1860ba59232e81659b103d1ef1fab5ac8ea8c"), looks := false }, kinds := [], alts := [], laidByText := true, laidKinds := [.data, .data], laidTests := true, laidLooks := .later }
def FnExactFarthestByKeysCardSaid : Prop := Claim7.holds Tryd.pinned (.plain (OpenSpec.ofChange fnExactFarthestByKeysSpec)) fnExactFarthestByKeysCard

/-- THE SECOND FORM's CARD OF 'laws.FnExactFewestKeyed'. -/
def fnExactFewestKeyedUptoCard : Claim7 := { stood := { row := fnExactFewestKeyedUptoRow, standIns := [], harness := (true, "3b38c13d9e2bfead90eaad6385f1860ba59232e81659b103d1ef1fab5ac8ea8c"), looks := false }, kinds := [], alts := [], laidByText := true, laidKinds := [.data, .data], laidTests := true, laidLooks := .later }
def FnExactFewestKeyedUptoCardSaid : Prop := Claim7.holds Tryd.pinned (.plain (OpenSpec.upto fnExactFewestKeyedSpec)) fnExactFewestKeyedUptoCard

/-- THE SECOND FORM's CARD OF 'laws.FnExactFirstKeyed'. -/
def fnExactFirstKeyedUptoCard : Claim7 := { stood := { row := fnExactFirstKeyedUptoRow, standIns := [], harness := (true, "3b38c13d9e2bfead90eaad6385f1860ba59232e81659b103d1ef1fab5ac8ea8c"), looks := false }, kinds := [], alts := [], laidByText := true, laidKinds := [.data, .data], laidTests := true, laidLooks := .later }
def FnExactFirstKeyedUptoCardSaid : Prop := Claim7.holds Tryd.pinned (.plain (OpenSpec.upto fnExactFirstKeyedSpec)) fnExactFirstKeyedUptoCard

/-- THE SECOND FORM's CARD OF 'laws.FnExactCountKeyedWays'. -/
def fnExactCountKeyedWaysUptoCard : Claim7 := { stood := { row := fnExactCountKeyedWaysUptoRow, standIns := [], harness := (true, "3b38c13d9e2bfead90eaad6385f1860ba59232e81659b103d1ef1fab5ac8ea8c"), looks := false }, kinds := [], alts := [], laidByText := true, laidKinds := [.data, .data], laidTests := true, laidLooks := .later }
def FnExactCountKeyedWaysUptoCardSaid : Prop := Claim7.holds Tryd.pinned (.plain (OpenSpec.upto fnExactCountKeyedWaysSpec)) fnExactCountKeyedWaysUptoCard

/-- THE SECOND FORM's CARD OF 'laws.FnExactCountReachedBy'. -/
def fnExactCountReachedByUptoCard : Claim7 := { stood := { row := fnExactCountReachedByUptoRow, standIns := [], harness := (true, "3b38c13d9e2bfead90eaad6385f1860ba59232e81659b103d1ef1fab5ac8ea8c"), looks := false }, kinds := [], alts := [], laidByText := true, laidKinds := [.data, .data], laidTests := true, laidLooks := .later }
def FnExactCountReachedByUptoCardSaid : Prop := Claim7.holds Tryd.pinned (.plain (OpenSpec.upto fnExactCountReachedBySpec)) fnExactCountReachedByUptoCard

/-- THE SECOND FORM's CARD OF 'laws.FnExactFarthestByKeys'. -/
def fnExactFarthestByKeysUptoCard : Claim7 := { stood := { row := fnExactFarthestByKeysUptoRow, standIns := [], harness := (true, "3b38c13d9e2bfead90eaad6385f1860ba59232e81659b103d1ef1fab5ac8ea8c"), looks := false }, kinds := [], alts := [], laidByText := true, laidKinds := [.data, .data], laidTests := true, laidLooks := .later }
def FnExactFarthestByKeysUptoCardSaid : Prop := Claim7.holds Tryd.pinned (.plain (OpenSpec.upto fnExactFarthestByKeysSpec)) fnExactFarthestByKeysUptoCard
end Rows
end Go.Proofs.YthddgnimkbjadabDoor
