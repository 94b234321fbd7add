/-
  DERIVED. GIVEN WITH THE SEED: THE CARDS: each row of YtfnhmacnghkgiadDoorRows.lean that lists a variable, with what it lists TIED to the program's text (the seventh form; the later family's looks); each row that meets fmt, with fmt's text TOLD by the authors' own Lean function (tested against real Go, not proved from fmt's source: count such statements apart). THE CARD IS WHAT COUNTS. Prove the row's statement (the work); the ties are given (YtfnhmacnghkgiadDoorTie.lean); close each card by the builder's one call (the guide's Derived/Test/ToyasCard.lean, 'card_holds'). Laid BY PROGRAM, IN A SANDBOX (cutbox-door.mjs). By AI agents, Wed Nov 11 2026. No macro, syntax, notation, axiom, sorry.
-/
import Derived.Test.YtfnhmacnghkgiadDoorRows
import GoSem.ClaimSeven
namespace Go.Proofs.YtfnhmacnghkgiadDoor
namespace Rows

/-- THE TIED CARD OF 'laws.FnExactMeanToClear'. -/
def fnExactMeanToClearCard : Claim7 := { stood := { row := fnExactMeanToClearRow, standIns := [], harness := (true, "687600bec5bea3cae923e007b0646683a3648d07520d860fd19e0b47a46c5a25"), looks := false }, kinds := [], alts := [], laidByText := true, laidKinds := [.data, .data], laidTests := true, laidLooks := .later }
def FnExactMeanToClearCardSaid : Prop := Claim7.holds Tryd.pinned (.plain (OpenSpec.ofChange fnExactMeanToClearSpec)) fnExactMeanToClearCard

/-- THE TIED CARD OF 'laws.FnExactMeanFrom'. -/
def fnExactMeanFromCard : Claim7 := { stood := { row := fnExactMeanFromRow, standIns := [], harness := (true, "687600bec5bea3cae923e007b0646683a3648d07520d860fd19e0b47a46c5a25"), looks := false }, kinds := [], alts := [], laidByText := true, laidKinds := [.data, .data], laidTests := true, laidLooks := .later }
def FnExactMeanFromCardSaid : Prop := Claim7.holds Tryd.pinned (.plain (OpenSpec.ofChange fnExactMeanFromSpec)) fnExactMeanFromCard

/-- THE TIED CARD OF 'laws.FnExactChanceBefore'. -/
def fnExactChanceBeforeCard : Claim7 := { stood := { row := fnExactChanceBeforeRow, standIns := [], harness := (true, "687600bec5bea3cae923e007b0646683a3648d07520d860fd19e0b47a46c5a25"), looks := false }, kinds := [], alts := [], laidByText := true, laidKinds := [.data, .data], laidTests := true, laidLooks := .later }
def FnExactChanceBeforeCardSaid : Prop := Claim7.holds Tryd.pinned (.plain (OpenSpec.ofChange fnExactChanceBeforeSpec)) fnExactChanceBeforeCard

/-- THE TIED CARD OF 'laws.FnExactCountWithOn'. -/
def fnExactCountWithOnCard : Claim7 := { stood := { row := fnExactCountWithOnRow, standIns := [], harness := (true, "687600bec5bea3cae923e007b0646683a3648d07520d860fd19e0b47a46c5a25"), looks := false }, kinds := [], alts := [], laidByText := true, laidKinds := [.data, .data], laidTests := true, laidLooks := .later }
def FnExactCountWithOnCardSaid : Prop := Claim7.holds Tryd.pinned (.plain (OpenSpec.ofChange fnExactCountWithOnSpec)) fnExactCountWithOnCard

/-- THE TIED CARD OF 'laws.FnExactLeastWithOn'. -/
def fnExactLeastWithOnCard : Claim7 := { stood := { row := fnExactLeastWithOnRow, standIns := [], harness := (true, "687600bec5bea3cae923e007b0646683a3648d07520d860fd19e0b47a46c5a25"), looks := false }, kinds := [], alts := [], laidByText := true, laidKinds := [.data, .data], laidTests := true, laidLooks := .later }
def FnExactLeastWithOnCardSaid : Prop := Claim7.holds Tryd.pinned (.plain (OpenSpec.ofChange fnExactLeastWithOnSpec)) fnExactLeastWithOnCard

/-- THE TIED CARD OF 'laws.FnExactGreatestWithOn'. -/
def fnExactGreatestWithOnCard : Claim7 := { stood := { row := fnExactGreatestWithOnRow, standIns := [], harness := (true, "687600bec5bea3cae923e007b0646683a3648d07520d860fd19e0b47a46c5a25"), looks := false }, kinds := [], alts := [], laidByText := true, laidKinds := [.data, .data], laidTests := true, laidLooks := .later }
def FnExactGreatestWithOnCardSaid : Prop := Claim7.holds Tryd.pinned (.plain (OpenSpec.ofChange fnExactGreatestWithOnSpec)) fnExactGreatestWithOnCard

/-- THE TIED CARD OF 'laws.FnExactSumWithOn'. -/
def fnExactSumWithOnCard : Claim7 := { stood := { row := fnExactSumWithOnRow, standIns := [], harness := (true, "687600bec5bea3cae923e007b0646683a3648d07520d860fd19e0b47a46c5a25"), looks := false }, kinds := [], alts := [], laidByText := true, laidKinds := [.data, .data], laidTests := true, laidLooks := .later }
def FnExactSumWithOnCardSaid : Prop := Claim7.holds Tryd.pinned (.plain (OpenSpec.ofChange fnExactSumWithOnSpec)) fnExactSumWithOnCard

/-- THE SECOND FORM's CARD OF 'laws.FnExactMeanToClear'. -/
def fnExactMeanToClearUptoCard : Claim7 := { stood := { row := fnExactMeanToClearUptoRow, standIns := [], harness := (true, "687600bec5bea3cae923e007b0646683a3648d07520d860fd19e0b47a46c5a25"), looks := false }, kinds := [], alts := [], laidByText := true, laidKinds := [.data, .data], laidTests := true, laidLooks := .later }
def FnExactMeanToClearUptoCardSaid : Prop := Claim7.holds Tryd.pinned (.plain (OpenSpec.upto fnExactMeanToClearSpec)) fnExactMeanToClearUptoCard

/-- THE SECOND FORM's CARD OF 'laws.FnExactMeanFrom'. -/
def fnExactMeanFromUptoCard : Claim7 := { stood := { row := fnExactMeanFromUptoRow, standIns := [], harness := (true, "687600bec5bea3cae923e007b0646683a3648d07520d860fd19e0b47a46c5a25"), looks := false }, kinds := [], alts := [], laidByText := true, laidKinds := [.data, .data], laidTests := true, laidLooks := .later }
def FnExactMeanFromUptoCardSaid : Prop := Claim7.holds Tryd.pinned (.plain (OpenSpec.upto fnExactMeanFromSpec)) fnExactMeanFromUptoCard

/-- THE SECOND FORM's CARD OF 'laws.FnExactChanceBefore'. -/
def fnExactChanceBeforeUptoCard : Claim7 := { stood := { row := fnExactChanceBeforeUptoRow, standIns := [], harness := (true, "687600bec5bea3cae923e007b0646683a3648d07520d860fd19e0b47a46c5a25"), looks := false }, kinds := [], alts := [], laidByText := true, laidKinds := [.data, .data], laidTests := true, laidLooks := .later }
def FnExactChanceBeforeUptoCardSaid : Prop := Claim7.holds Tryd.pinned (.plain (OpenSpec.upto fnExactChanceBeforeSpec)) fnExactChanceBeforeUptoCard

/-- THE SECOND FORM's CARD OF 'laws.FnExactCountWithOn'. -/
def fnExactCountWithOnUptoCard : Claim7 := { stood := { row := fnExactCountWithOnUptoRow, standIns := [], harness := (true, "687600bec5bea3cae923e007b0646683a3648d07520d860fd19e0b47a46c5a25"), looks := false }, kinds := [], alts := [], laidByText := true, laidKinds := [.data, .data], laidTests := true, laidLooks := .later }
def FnExactCountWithOnUptoCardSaid : Prop := Claim7.holds Tryd.pinned (.plain (OpenSpec.upto fnExactCountWithOnSpec)) fnExactCountWithOnUptoCard

/-- THE SECOND FORM's CARD OF 'laws.FnExactLeastWithOn'. -/
def fnExactLeastWithOnUptoCard : Claim7 := { stood := { row := fnExactLeastWithOnUptoRow, standIns := [], harness := (true, "687600bec5bea3cae923e007b0646683a3648d07520d860fd19e0b47a46c5a25"), looks := false }, kinds := [], alts := [], laidByText := true, laidKinds := [.data, .data], laidTests := true, laidLooks := .later }
def FnExactLeastWithOnUptoCardSaid : Prop := Claim7.holds Tryd.pinned (.plain (OpenSpec.upto fnExactLeastWithOnSpec)) fnExactLeastWithOnUptoCard

/-- THE SECOND FORM's CARD OF 'laws.FnExactGreatestWithOn'. -/
def fnExactGreatestWithOnUptoCard : Claim7 := { stood := { row := fnExactGreatestWithOnUptoRow, standIns := [], harness := (true, "687600bec5bea3cae923e007b0646683a3648d07520d860fd19e0b47a46c5a25"), looks := false }, kinds := [], alts := [], laidByText := true, laidKinds := [.data, .data], laidTests := true, laidLooks := .later }
def FnExactGreatestWithOnUptoCardSaid : Prop := Claim7.holds Tryd.pinned (.plain (OpenSpec.upto fnExactGreatestWithOnSpec)) fnExactGreatestWithOnUptoCard

/-- THE SECOND FORM's CARD OF 'laws.FnExactSumWithOn'. -/
def fnExactSumWithOnUptoCard : Claim7 := { stood := { row := fnExactSumWithOnUptoRow, standIns := [], harness := (true, "687600bec5bea3cae923e007b0646683a3648d07520d860fd19e0b47a46c5a25"), looks := false }, kinds := [], alts := [], laidByText := true, laidKinds := [.data, .data], laidTests := true, laidLooks := .later }
def FnExactSumWithOnUptoCardSaid : Prop := Claim7.holds Tryd.pinned (.plain (OpenSpec.upto fnExactSumWithOnSpec)) fnExactSumWithOnUptoCard
end Rows
end Go.Proofs.YtfnhmacnghkgiadDoor
