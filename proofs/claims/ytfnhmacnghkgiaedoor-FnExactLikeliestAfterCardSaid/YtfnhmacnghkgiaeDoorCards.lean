/-
  DERIVED. GIVEN WITH THE SEED: THE CARDS: each row of YtfnhmacnghkgiaeDoorRows.lean that lists a variable, with what it lists TIED to the program's text (the seventh form; the later family's looks); each row that meets fmt, with fmt's text TOLD by the authors' own Lean function (tested against real Go, not proved from fmt's source: count such statements apart). THE CARD IS WHAT COUNTS. Prove the row's statement (the work); the ties are given (YtfnhmacnghkgiaeDoorTie.lean); close each card by the builder's one call (the guide's Derived/Test/ToyasCard.lean, 'card_holds'). Laid BY PROGRAM, IN A SANDBOX (cutbox-door.mjs). By AI agents, Wed Nov 11 2026. No macro, syntax, notation, axiom, sorry.
-/
import Derived.Test.YtfnhmacnghkgiaeDoorRows
import GoSem.ClaimSeven
namespace Go.Proofs.YtfnhmacnghkgiaeDoor
namespace Rows

/-- THE TIED CARD OF 'laws.FnExactStatesWithOn'. -/
def fnExactStatesWithOnCard : Claim7 := { stood := { row := fnExactStatesWithOnRow, standIns := [], harness := (true, "203727beada8441a95398b6dbfbccac04a7548648d0c0d75c97ea5c2d41cda24"), looks := false }, kinds := [], alts := [], laidByText := true, laidKinds := [.data, .data], laidTests := true, laidLooks := .later }
def FnExactStatesWithOnCardSaid : Prop := Claim7.holds Tryd.pinned (.plain (OpenSpec.ofChange fnExactStatesWithOnSpec)) fnExactStatesWithOnCard

/-- THE TIED CARD OF 'laws.FnExactWalksTo'. -/
def fnExactWalksToCard : Claim7 := { stood := { row := fnExactWalksToRow, standIns := [], harness := (true, "203727beada8441a95398b6dbfbccac04a7548648d0c0d75c97ea5c2d41cda24"), looks := false }, kinds := [], alts := [], laidByText := true, laidKinds := [.data, .data], laidTests := true, laidLooks := .later }
def FnExactWalksToCardSaid : Prop := Claim7.holds Tryd.pinned (.plain (OpenSpec.ofChange fnExactWalksToSpec)) fnExactWalksToCard

/-- THE TIED CARD OF 'laws.FnExactChanceAfter'. -/
def fnExactChanceAfterCard : Claim7 := { stood := { row := fnExactChanceAfterRow, standIns := [], harness := (true, "203727beada8441a95398b6dbfbccac04a7548648d0c0d75c97ea5c2d41cda24"), looks := false }, kinds := [], alts := [], laidByText := true, laidKinds := [.data, .data], laidTests := true, laidLooks := .later }
def FnExactChanceAfterCardSaid : Prop := Claim7.holds Tryd.pinned (.plain (OpenSpec.ofChange fnExactChanceAfterSpec)) fnExactChanceAfterCard

/-- THE TIED CARD OF 'laws.FnExactLikeliestAfter'. -/
def fnExactLikeliestAfterCard : Claim7 := { stood := { row := fnExactLikeliestAfterRow, standIns := [], harness := (true, "203727beada8441a95398b6dbfbccac04a7548648d0c0d75c97ea5c2d41cda24"), looks := false }, kinds := [], alts := [], laidByText := true, laidKinds := [.data, .data], laidTests := true, laidLooks := .later }
def FnExactLikeliestAfterCardSaid : Prop := Claim7.holds Tryd.pinned (.plain (OpenSpec.ofChange fnExactLikeliestAfterSpec)) fnExactLikeliestAfterCard

/-- THE TIED CARD OF 'laws.FnExactMeanOnAlong'. -/
def fnExactMeanOnAlongCard : Claim7 := { stood := { row := fnExactMeanOnAlongRow, standIns := [], harness := (true, "203727beada8441a95398b6dbfbccac04a7548648d0c0d75c97ea5c2d41cda24"), looks := false }, kinds := [], alts := [], laidByText := true, laidKinds := [.data, .data], laidTests := true, laidLooks := .later }
def FnExactMeanOnAlongCardSaid : Prop := Claim7.holds Tryd.pinned (.plain (OpenSpec.ofChange fnExactMeanOnAlongSpec)) fnExactMeanOnAlongCard

/-- THE SECOND FORM's CARD OF 'laws.FnExactStatesWithOn'. -/
def fnExactStatesWithOnUptoCard : Claim7 := { stood := { row := fnExactStatesWithOnUptoRow, standIns := [], harness := (true, "203727beada8441a95398b6dbfbccac04a7548648d0c0d75c97ea5c2d41cda24"), looks := false }, kinds := [], alts := [], laidByText := true, laidKinds := [.data, .data], laidTests := true, laidLooks := .later }
def FnExactStatesWithOnUptoCardSaid : Prop := Claim7.holds Tryd.pinned (.plain (OpenSpec.upto fnExactStatesWithOnSpec)) fnExactStatesWithOnUptoCard

/-- THE SECOND FORM's CARD OF 'laws.FnExactWalksTo'. -/
def fnExactWalksToUptoCard : Claim7 := { stood := { row := fnExactWalksToUptoRow, standIns := [], harness := (true, "203727beada8441a95398b6dbfbccac04a7548648d0c0d75c97ea5c2d41cda24"), looks := false }, kinds := [], alts := [], laidByText := true, laidKinds := [.data, .data], laidTests := true, laidLooks := .later }
def FnExactWalksToUptoCardSaid : Prop := Claim7.holds Tryd.pinned (.plain (OpenSpec.upto fnExactWalksToSpec)) fnExactWalksToUptoCard

/-- THE SECOND FORM's CARD OF 'laws.FnExactChanceAfter'. -/
def fnExactChanceAfterUptoCard : Claim7 := { stood := { row := fnExactChanceAfterUptoRow, standIns := [], harness := (true, "203727beada8441a95398b6dbfbccac04a7548648d0c0d75c97ea5c2d41cda24"), looks := false }, kinds := [], alts := [], laidByText := true, laidKinds := [.data, .data], laidTests := true, laidLooks := .later }
def FnExactChanceAfterUptoCardSaid : Prop := Claim7.holds Tryd.pinned (.plain (OpenSpec.upto fnExactChanceAfterSpec)) fnExactChanceAfterUptoCard

/-- THE SECOND FORM's CARD OF 'laws.FnExactLikeliestAfter'. -/
def fnExactLikeliestAfterUptoCard : Claim7 := { stood := { row := fnExactLikeliestAfterUptoRow, standIns := [], harness := (true, "203727beada8441a95398b6dbfbccac04a7548648d0c0d75c97ea5c2d41cda24"), looks := false }, kinds := [], alts := [], laidByText := true, laidKinds := [.data, .data], laidTests := true, laidLooks := .later }
def FnExactLikeliestAfterUptoCardSaid : Prop := Claim7.holds Tryd.pinned (.plain (OpenSpec.upto fnExactLikeliestAfterSpec)) fnExactLikeliestAfterUptoCard

/-- THE SECOND FORM's CARD OF 'laws.FnExactMeanOnAlong'. -/
def fnExactMeanOnAlongUptoCard : Claim7 := { stood := { row := fnExactMeanOnAlongUptoRow, standIns := [], harness := (true, "203727beada8441a95398b6dbfbccac04a7548648d0c0d75c97ea5c2d41cda24"), looks := false }, kinds := [], alts := [], laidByText := true, laidKinds := [.data, .data], laidTests := true, laidLooks := .later }
def FnExactMeanOnAlongUptoCardSaid : Prop := Claim7.holds Tryd.pinned (.plain (OpenSpec.upto fnExactMeanOnAlongSpec)) fnExactMeanOnAlongUptoCard
end Rows
end Go.Proofs.YtfnhmacnghkgiaeDoor
