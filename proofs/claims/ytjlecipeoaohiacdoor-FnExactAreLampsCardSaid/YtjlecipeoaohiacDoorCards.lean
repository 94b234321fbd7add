/-
  DERIVED. GIVEN WITH THE SEED: THE CARDS: each row of YtjlecipeoaohiacDoorRows.lean that lists a variable, with what it lists TIED to the program's text (the seventh form; the later family's looks); each row that meets fmt, with fmt's text TOLD by the authors' own Lean function (tested against real Go, not proved from fmt's source: count such statements apart). THE CARD IS WHAT COUNTS. Prove the row's statement (the work); the ties are given (YtjlecipeoaohiacDoorTie.lean); close each card by the builder's one call (the guide's Derived/Test/ToyasCard.lean, 'card_holds'). Laid BY PROGRAM, IN A SANDBOX (cutbox-door.mjs). By AI agents, Wed Nov 11 2026. No macro, syntax, notation, axiom, sorry.
-/
import Derived.Test.YtjlecipeoaohiacDoorRows
import GoSem.ClaimSeven
namespace Go.Proofs.YtjlecipeoaohiacDoor
namespace Rows

/-- THE TIED CARD OF 'laws.FnExactAreLamps'. -/
def fnExactAreLampsCard : Claim7 := { stood := { row := fnExactAreLampsRow, standIns := [], harness := (true, "17c90a99f191588fb3b5df1617d3f2b1851a55bf1c4205cb980a7c213c763fd8"), looks := false }, kinds := [], alts := [], laidByText := true, laidKinds := [.data, .pinned], laidTests := true, laidLooks := .later }
def FnExactAreLampsCardSaid : Prop := Claim7.holds Tryd.pinned (.plain (OpenSpec.ofChange fnExactAreLampsSpec)) fnExactAreLampsCard

/-- THE TIED CARD OF 'laws.FnExactLampsNeeded'. -/
def fnExactLampsNeededCard : Claim7 := { stood := { row := fnExactLampsNeededRow, standIns := [], harness := (true, "17c90a99f191588fb3b5df1617d3f2b1851a55bf1c4205cb980a7c213c763fd8"), looks := false }, kinds := [], alts := [], laidByText := true, laidKinds := [.data, .pinned], laidTests := true, laidLooks := .later }
def FnExactLampsNeededCardSaid : Prop := Claim7.holds Tryd.pinned (.plain (OpenSpec.ofChange fnExactLampsNeededSpec)) fnExactLampsNeededCard

/-- THE TIED CARD OF 'laws.FnExactOtherLamps'. -/
def fnExactOtherLampsCard : Claim7 := { stood := { row := fnExactOtherLampsRow, standIns := [], harness := (true, "17c90a99f191588fb3b5df1617d3f2b1851a55bf1c4205cb980a7c213c763fd8"), looks := false }, kinds := [], alts := [], laidByText := true, laidKinds := [.data, .pinned], laidTests := true, laidLooks := .later }
def FnExactOtherLampsCardSaid : Prop := Claim7.holds Tryd.pinned (.plain (OpenSpec.ofChange fnExactOtherLampsSpec)) fnExactOtherLampsCard

/-- THE TIED CARD OF 'laws.FnExactLampsText'. -/
def fnExactLampsTextCard : Claim7 := { stood := { row := fnExactLampsTextRow, standIns := [], harness := (true, "17c90a99f191588fb3b5df1617d3f2b1851a55bf1c4205cb980a7c213c763fd8"), looks := false }, kinds := [], alts := [], laidByText := true, laidKinds := [.data, .pinned], laidTests := true, laidLooks := .later }
def FnExactLampsTextCardSaid : Prop := Claim7.holds Tryd.pinned (.plain (OpenSpec.ofChange fnExactLampsTextSpec)) fnExactLampsTextCard

/-- THE TIED CARD OF 'laws.FnExactTickOnce'. -/
def fnExactTickOnceCard : Claim7 := { stood := { row := fnExactTickOnceRow, standIns := [], harness := (true, "17c90a99f191588fb3b5df1617d3f2b1851a55bf1c4205cb980a7c213c763fd8"), looks := false }, kinds := [], alts := [], laidByText := true, laidKinds := [.data, .pinned], laidTests := true, laidLooks := .later }
def FnExactTickOnceCardSaid : Prop := Claim7.holds Tryd.pinned (.plain (OpenSpec.ofChange fnExactTickOnceSpec)) fnExactTickOnceCard

/-- THE TIED CARD OF 'laws.FnExactStillStates'. -/
def fnExactStillStatesCard : Claim7 := { stood := { row := fnExactStillStatesRow, standIns := [], harness := (true, "17c90a99f191588fb3b5df1617d3f2b1851a55bf1c4205cb980a7c213c763fd8"), looks := false }, kinds := [], alts := [], laidByText := true, laidKinds := [.data, .pinned], laidTests := true, laidLooks := .later }
def FnExactStillStatesCardSaid : Prop := Claim7.holds Tryd.pinned (.plain (OpenSpec.ofChange fnExactStillStatesSpec)) fnExactStillStatesCard

/-- THE TIED CARD OF 'laws.FnExactStatesBefore'. -/
def fnExactStatesBeforeCard : Claim7 := { stood := { row := fnExactStatesBeforeRow, standIns := [], harness := (true, "17c90a99f191588fb3b5df1617d3f2b1851a55bf1c4205cb980a7c213c763fd8"), looks := false }, kinds := [], alts := [], laidByText := true, laidKinds := [.data, .pinned], laidTests := true, laidLooks := .later }
def FnExactStatesBeforeCardSaid : Prop := Claim7.holds Tryd.pinned (.plain (OpenSpec.ofChange fnExactStatesBeforeSpec)) fnExactStatesBeforeCard

/-- THE TIED CARD OF 'laws.FnExactParseLamps'. -/
def fnExactParseLampsCard : Claim7 := { stood := { row := fnExactParseLampsRow, standIns := [], harness := (true, "17c90a99f191588fb3b5df1617d3f2b1851a55bf1c4205cb980a7c213c763fd8"), looks := false }, kinds := [], alts := [], laidByText := true, laidKinds := [.data, .pinned], laidTests := true, laidLooks := .later }
def FnExactParseLampsCardSaid : Prop := Claim7.holds Tryd.pinned (.plain (OpenSpec.ofChange fnExactParseLampsSpec)) fnExactParseLampsCard

/-- THE SECOND FORM's CARD OF 'laws.FnExactAreLamps'. -/
def fnExactAreLampsUptoCard : Claim7 := { stood := { row := fnExactAreLampsUptoRow, standIns := [], harness := (true, "17c90a99f191588fb3b5df1617d3f2b1851a55bf1c4205cb980a7c213c763fd8"), looks := false }, kinds := [], alts := [], laidByText := true, laidKinds := [.data, .pinned], laidTests := true, laidLooks := .later }
def FnExactAreLampsUptoCardSaid : Prop := Claim7.holds Tryd.pinned (.plain (OpenSpec.upto fnExactAreLampsSpec)) fnExactAreLampsUptoCard

/-- THE SECOND FORM's CARD OF 'laws.FnExactLampsNeeded'. -/
def fnExactLampsNeededUptoCard : Claim7 := { stood := { row := fnExactLampsNeededUptoRow, standIns := [], harness := (true, "17c90a99f191588fb3b5df1617d3f2b1851a55bf1c4205cb980a7c213c763fd8"), looks := false }, kinds := [], alts := [], laidByText := true, laidKinds := [.data, .pinned], laidTests := true, laidLooks := .later }
def FnExactLampsNeededUptoCardSaid : Prop := Claim7.holds Tryd.pinned (.plain (OpenSpec.upto fnExactLampsNeededSpec)) fnExactLampsNeededUptoCard

/-- THE SECOND FORM's CARD OF 'laws.FnExactOtherLamps'. -/
def fnExactOtherLampsUptoCard : Claim7 := { stood := { row := fnExactOtherLampsUptoRow, standIns := [], harness := (true, "17c90a99f191588fb3b5df1617d3f2b1851a55bf1c4205cb980a7c213c763fd8"), looks := false }, kinds := [], alts := [], laidByText := true, laidKinds := [.data, .pinned], laidTests := true, laidLooks := .later }
def FnExactOtherLampsUptoCardSaid : Prop := Claim7.holds Tryd.pinned (.plain (OpenSpec.upto fnExactOtherLampsSpec)) fnExactOtherLampsUptoCard

/-- THE SECOND FORM's CARD OF 'laws.FnExactLampsText'. -/
def fnExactLampsTextUptoCard : Claim7 := { stood := { row := fnExactLampsTextUptoRow, standIns := [], harness := (true, "17c90a99f191588fb3b5df1617d3f2b1851a55bf1c4205cb980a7c213c763fd8"), looks := false }, kinds := [], alts := [], laidByText := true, laidKinds := [.data, .pinned], laidTests := true, laidLooks := .later }
def FnExactLampsTextUptoCardSaid : Prop := Claim7.holds Tryd.pinned (.plain (OpenSpec.upto fnExactLampsTextSpec)) fnExactLampsTextUptoCard

/-- THE SECOND FORM's CARD OF 'laws.FnExactTickOnce'. -/
def fnExactTickOnceUptoCard : Claim7 := { stood := { row := fnExactTickOnceUptoRow, standIns := [], harness := (true, "17c90a99f191588fb3b5df1617d3f2b1851a55bf1c4205cb980a7c213c763fd8"), looks := false }, kinds := [], alts := [], laidByText := true, laidKinds := [.data, .pinned], laidTests := true, laidLooks := .later }
def FnExactTickOnceUptoCardSaid : Prop := Claim7.holds Tryd.pinned (.plain (OpenSpec.upto fnExactTickOnceSpec)) fnExactTickOnceUptoCard

/-- THE SECOND FORM's CARD OF 'laws.FnExactStillStates'. -/
def fnExactStillStatesUptoCard : Claim7 := { stood := { row := fnExactStillStatesUptoRow, standIns := [], harness := (true, "17c90a99f191588fb3b5df1617d3f2b1851a55bf1c4205cb980a7c213c763fd8"), looks := false }, kinds := [], alts := [], laidByText := true, laidKinds := [.data, .pinned], laidTests := true, laidLooks := .later }
def FnExactStillStatesUptoCardSaid : Prop := Claim7.holds Tryd.pinned (.plain (OpenSpec.upto fnExactStillStatesSpec)) fnExactStillStatesUptoCard

/-- THE SECOND FORM's CARD OF 'laws.FnExactStatesBefore'. -/
def fnExactStatesBeforeUptoCard : Claim7 := { stood := { row := fnExactStatesBeforeUptoRow, standIns := [], harness := (true, "17c90a99f191588fb3b5df1617d3f2b1851a55bf1c4205cb980a7c213c763fd8"), looks := false }, kinds := [], alts := [], laidByText := true, laidKinds := [.data, .pinned], laidTests := true, laidLooks := .later }
def FnExactStatesBeforeUptoCardSaid : Prop := Claim7.holds Tryd.pinned (.plain (OpenSpec.upto fnExactStatesBeforeSpec)) fnExactStatesBeforeUptoCard

/-- THE SECOND FORM's CARD OF 'laws.FnExactParseLamps'. -/
def fnExactParseLampsUptoCard : Claim7 := { stood := { row := fnExactParseLampsUptoRow, standIns := [], harness := (true, "17c90a99f191588fb3b5df1617d3f2b1851a55bf1c4205cb980a7c213c763fd8"), looks := false }, kinds := [], alts := [], laidByText := true, laidKinds := [.data, .pinned], laidTests := true, laidLooks := .later }
def FnExactParseLampsUptoCardSaid : Prop := Claim7.holds Tryd.pinned (.plain (OpenSpec.upto fnExactParseLampsSpec)) fnExactParseLampsUptoCard
end Rows
end Go.Proofs.YtjlecipeoaohiacDoor
