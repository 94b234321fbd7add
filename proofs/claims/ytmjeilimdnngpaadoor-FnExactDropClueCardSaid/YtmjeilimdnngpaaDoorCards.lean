/-
  DERIVED. GIVEN WITH THE SEED: THE CARDS: each row of YtmjeilimdnngpaaDoorRows.lean that lists a variable, with what it lists TIED to the program's text (the seventh form; the later family's looks); each row that meets fmt, with fmt's text TOLD by the authors' own Lean function (tested against real Go, not proved from fmt's source: count such statements apart). THE CARD IS WHAT COUNTS. Prove the row's statement (the work); the ties are given (YtmjeilimdnngpaaDoorTie.lean); close each card by the builder's one call (the guide's Derived/Test/ToyasCard.lean, 'card_holds'). Laid BY PROGRAM, IN A SANDBOX (cutbox-door.mjs). By AI agents, Wed Nov 11 2026. No macro, syntax, notation, axiom, sorry.
-/
import Derived.Test.YtmjeilimdnngpaaDoorRows
import GoSem.ClaimSeven
namespace Go.Proofs.YtmjeilimdnngpaaDoor
namespace Rows

/-- THE TIED CARD OF 'laws.FnExactNeedlessClues'. -/
def fnExactNeedlessCluesCard : Claim7 := { stood := { row := fnExactNeedlessCluesRow, standIns := [], harness := (true, "88913b41ddcf487df67b390b832cc721b5defed89a65b0abf31231483c861b35"), looks := true }, kinds := [], alts := [], laidByText := true, laidKinds := [.data, .data], laidTests := true, laidLooks := .later }
def FnExactNeedlessCluesCardSaid : Prop := Claim7.holds Tryd.pinned (.plain (OpenSpec.ofChange fnExactNeedlessCluesSpec)) fnExactNeedlessCluesCard

/-- THE TIED CARD OF 'laws.FnExactDropClue'. -/
def fnExactDropClueCard : Claim7 := { stood := { row := fnExactDropClueRow, standIns := [], harness := (true, "88913b41ddcf487df67b390b832cc721b5defed89a65b0abf31231483c861b35"), looks := true }, kinds := [], alts := [], laidByText := true, laidKinds := [.data, .data], laidTests := true, laidLooks := .later }
def FnExactDropClueCardSaid : Prop := Claim7.holds Tryd.pinned (.plain (OpenSpec.ofChange fnExactDropClueSpec)) fnExactDropClueCard

/-- THE TIED CARD OF 'laws.FnExactAddClue'. -/
def fnExactAddClueCard : Claim7 := { stood := { row := fnExactAddClueRow, standIns := [], harness := (true, "88913b41ddcf487df67b390b832cc721b5defed89a65b0abf31231483c861b35"), looks := true }, kinds := [], alts := [], laidByText := true, laidKinds := [.data, .data], laidTests := true, laidLooks := .later }
def FnExactAddClueCardSaid : Prop := Claim7.holds Tryd.pinned (.plain (OpenSpec.ofChange fnExactAddClueSpec)) fnExactAddClueCard

/-- THE TIED CARD OF 'laws.FnExactLeftByClues'. -/
def fnExactLeftByCluesCard : Claim7 := { stood := { row := fnExactLeftByCluesRow, standIns := [], harness := (true, "88913b41ddcf487df67b390b832cc721b5defed89a65b0abf31231483c861b35"), looks := true }, kinds := [], alts := [], laidByText := true, laidKinds := [.data, .data], laidTests := true, laidLooks := .later }
def FnExactLeftByCluesCardSaid : Prop := Claim7.holds Tryd.pinned (.plain (OpenSpec.ofChange fnExactLeftByCluesSpec)) fnExactLeftByCluesCard

/-- THE TIED CARD OF 'laws.FnExactBestClue'. -/
def fnExactBestClueCard : Claim7 := { stood := { row := fnExactBestClueRow, standIns := [], harness := (true, "88913b41ddcf487df67b390b832cc721b5defed89a65b0abf31231483c861b35"), looks := true }, kinds := [], alts := [], laidByText := true, laidKinds := [.data, .data], laidTests := true, laidLooks := .later }
def FnExactBestClueCardSaid : Prop := Claim7.holds Tryd.pinned (.plain (OpenSpec.ofChange fnExactBestClueSpec)) fnExactBestClueCard

/-- THE TIED CARD OF 'laws.FnExactHarderPuzzle'. -/
def fnExactHarderPuzzleCard : Claim7 := { stood := { row := fnExactHarderPuzzleRow, standIns := [], harness := (true, "88913b41ddcf487df67b390b832cc721b5defed89a65b0abf31231483c861b35"), looks := true }, kinds := [], alts := [], laidByText := true, laidKinds := [.data, .data], laidTests := true, laidLooks := .later }
def FnExactHarderPuzzleCardSaid : Prop := Claim7.holds Tryd.pinned (.plain (OpenSpec.ofChange fnExactHarderPuzzleSpec)) fnExactHarderPuzzleCard

/-- THE TIED CARD OF 'laws.FnExactMakePuzzle'. -/
def fnExactMakePuzzleCard : Claim7 := { stood := { row := fnExactMakePuzzleRow, standIns := [], harness := (true, "88913b41ddcf487df67b390b832cc721b5defed89a65b0abf31231483c861b35"), looks := true }, kinds := [], alts := [], laidByText := true, laidKinds := [.data, .data], laidTests := true, laidLooks := .later }
def FnExactMakePuzzleCardSaid : Prop := Claim7.holds Tryd.pinned (.plain (OpenSpec.ofChange fnExactMakePuzzleSpec)) fnExactMakePuzzleCard

/-- THE TIED CARD OF 'laws.FnExactPuzzleText'. -/
def fnExactPuzzleTextCard : Claim7 := { stood := { row := fnExactPuzzleTextRow, standIns := [], harness := (true, "88913b41ddcf487df67b390b832cc721b5defed89a65b0abf31231483c861b35"), looks := true }, kinds := [], alts := [], laidByText := true, laidKinds := [.data, .data, .data], laidTests := true, laidLooks := .later }
def FnExactPuzzleTextCardSaid : Prop := Claim7.holds Tryd.pinned (.plain (OpenSpec.ofChange fnExactPuzzleTextSpec)) fnExactPuzzleTextCard

/-- THE SECOND FORM's CARD OF 'laws.FnExactNeedlessClues'. -/
def fnExactNeedlessCluesUptoCard : Claim7 := { stood := { row := fnExactNeedlessCluesUptoRow, standIns := [], harness := (true, "88913b41ddcf487df67b390b832cc721b5defed89a65b0abf31231483c861b35"), looks := true }, kinds := [], alts := [], laidByText := true, laidKinds := [.data, .data], laidTests := true, laidLooks := .later }
def FnExactNeedlessCluesUptoCardSaid : Prop := Claim7.holds Tryd.pinned (.plain (OpenSpec.upto fnExactNeedlessCluesSpec)) fnExactNeedlessCluesUptoCard

/-- THE SECOND FORM's CARD OF 'laws.FnExactDropClue'. -/
def fnExactDropClueUptoCard : Claim7 := { stood := { row := fnExactDropClueUptoRow, standIns := [], harness := (true, "88913b41ddcf487df67b390b832cc721b5defed89a65b0abf31231483c861b35"), looks := true }, kinds := [], alts := [], laidByText := true, laidKinds := [.data, .data], laidTests := true, laidLooks := .later }
def FnExactDropClueUptoCardSaid : Prop := Claim7.holds Tryd.pinned (.plain (OpenSpec.upto fnExactDropClueSpec)) fnExactDropClueUptoCard

/-- THE SECOND FORM's CARD OF 'laws.FnExactAddClue'. -/
def fnExactAddClueUptoCard : Claim7 := { stood := { row := fnExactAddClueUptoRow, standIns := [], harness := (true, "88913b41ddcf487df67b390b832cc721b5defed89a65b0abf31231483c861b35"), looks := true }, kinds := [], alts := [], laidByText := true, laidKinds := [.data, .data], laidTests := true, laidLooks := .later }
def FnExactAddClueUptoCardSaid : Prop := Claim7.holds Tryd.pinned (.plain (OpenSpec.upto fnExactAddClueSpec)) fnExactAddClueUptoCard

/-- THE SECOND FORM's CARD OF 'laws.FnExactLeftByClues'. -/
def fnExactLeftByCluesUptoCard : Claim7 := { stood := { row := fnExactLeftByCluesUptoRow, standIns := [], harness := (true, "88913b41ddcf487df67b390b832cc721b5defed89a65b0abf31231483c861b35"), looks := true }, kinds := [], alts := [], laidByText := true, laidKinds := [.data, .data], laidTests := true, laidLooks := .later }
def FnExactLeftByCluesUptoCardSaid : Prop := Claim7.holds Tryd.pinned (.plain (OpenSpec.upto fnExactLeftByCluesSpec)) fnExactLeftByCluesUptoCard

/-- THE SECOND FORM's CARD OF 'laws.FnExactBestClue'. -/
def fnExactBestClueUptoCard : Claim7 := { stood := { row := fnExactBestClueUptoRow, standIns := [], harness := (true, "88913b41ddcf487df67b390b832cc721b5defed89a65b0abf31231483c861b35"), looks := true }, kinds := [], alts := [], laidByText := true, laidKinds := [.data, .data], laidTests := true, laidLooks := .later }
def FnExactBestClueUptoCardSaid : Prop := Claim7.holds Tryd.pinned (.plain (OpenSpec.upto fnExactBestClueSpec)) fnExactBestClueUptoCard

/-- THE SECOND FORM's CARD OF 'laws.FnExactHarderPuzzle'. -/
def fnExactHarderPuzzleUptoCard : Claim7 := { stood := { row := fnExactHarderPuzzleUptoRow, standIns := [], harness := (true, "88913b41ddcf487df67b390b832cc721b5defed89a65b0abf31231483c861b35"), looks := true }, kinds := [], alts := [], laidByText := true, laidKinds := [.data, .data], laidTests := true, laidLooks := .later }
def FnExactHarderPuzzleUptoCardSaid : Prop := Claim7.holds Tryd.pinned (.plain (OpenSpec.upto fnExactHarderPuzzleSpec)) fnExactHarderPuzzleUptoCard

/-- THE SECOND FORM's CARD OF 'laws.FnExactMakePuzzle'. -/
def fnExactMakePuzzleUptoCard : Claim7 := { stood := { row := fnExactMakePuzzleUptoRow, standIns := [], harness := (true, "88913b41ddcf487df67b390b832cc721b5defed89a65b0abf31231483c861b35"), looks := true }, kinds := [], alts := [], laidByText := true, laidKinds := [.data, .data], laidTests := true, laidLooks := .later }
def FnExactMakePuzzleUptoCardSaid : Prop := Claim7.holds Tryd.pinned (.plain (OpenSpec.upto fnExactMakePuzzleSpec)) fnExactMakePuzzleUptoCard

/-- THE SECOND FORM's CARD OF 'laws.FnExactPuzzleText'. -/
def fnExactPuzzleTextUptoCard : Claim7 := { stood := { row := fnExactPuzzleTextUptoRow, standIns := [], harness := (true, "88913b41ddcf487df67b390b832cc721b5defed89a65b0abf31231483c861b35"), looks := true }, kinds := [], alts := [], laidByText := true, laidKinds := [.data, .data, .data], laidTests := true, laidLooks := .later }
def FnExactPuzzleTextUptoCardSaid : Prop := Claim7.holds Tryd.pinned (.plain (OpenSpec.upto fnExactPuzzleTextSpec)) fnExactPuzzleTextUptoCard
end Rows
end Go.Proofs.YtmjeilimdnngpaaDoor
