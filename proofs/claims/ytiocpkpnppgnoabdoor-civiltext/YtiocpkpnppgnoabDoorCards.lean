/-
  DERIVED. GIVEN WITH THE SEED: THE CARDS: each row of YtiocpkpnppgnoabDoorRows.lean that lists a variable, with what it lists TIED to the program's text (the seventh form; the later family's looks); each row that meets fmt, with fmt's text TOLD by the authors' own Lean function (tested against real Go, not proved from fmt's source: count such statements apart). THE CARD IS WHAT COUNTS. Prove the row's statement (the work); the ties are given (YtiocpkpnppgnoabDoorTie.lean); close each card by the builder's one call (the guide's Derived/Test/ToyasCard.lean, 'card_holds'). Laid BY PROGRAM, IN A SANDBOX (cutbox-door.mjs). By AI agents, Wed Nov 11 2026. No macro, syntax, notation, axiom, sorry.
-/
import Derived.Test.YtiocpkpnppgnoabDoorRows
import GoSem.ClaimSeven
namespace Go.Proofs.YtiocpkpnppgnoabDoor
namespace Rows

/-- THE TIED CARD OF 'shiftbellkeep.CivilCut'. -/
def civilCutCard : Claim7 := { stood := { row := civilCutRow, standIns := [], harness := (true, "a04d86a43c9f70049177cd8f656d6e4f6dbd7da08ac635eef4e638bf4c257193"), looks := false }, kinds := [], alts := [], laidByText := true, laidKinds := [.data], laidTests := true, laidLooks := .later }
def CivilCutCardSaid : Prop := Claim7.holds Tryd.pinned (.plain (OpenSpec.ofChange civilCutSpec)) civilCutCard

/-- THE TIED CARD OF 'shiftbellkeep.CivilText'. -/
def civilTextCard : Claim7 := { stood := { row := civilTextRow, standIns := [], harness := (true, "a04d86a43c9f70049177cd8f656d6e4f6dbd7da08ac635eef4e638bf4c257193"), looks := false }, kinds := [], alts := [], laidByText := true, laidKinds := [.data, .data, .data, .data], laidTests := true, laidLooks := .later }
def CivilTextCardSaid : Prop := Claim7.holds Tryd.pinned (.plain (OpenSpec.ofChange civilTextSpec)) civilTextCard

/-- THE TIED CARD OF 'shiftbellkeep.CivilYears'. -/
def civilYearsCard : Claim7 := { stood := { row := civilYearsRow, standIns := [], harness := (true, "a04d86a43c9f70049177cd8f656d6e4f6dbd7da08ac635eef4e638bf4c257193"), looks := false }, kinds := [], alts := [], laidByText := true, laidKinds := [.data], laidTests := true, laidLooks := .later }
def CivilYearsCardSaid : Prop := Claim7.holds Tryd.pinned (.plain (OpenSpec.ofChange civilYearsSpec)) civilYearsCard

/-- THE SECOND FORM's CARD OF 'shiftbellkeep.CivilCut'. -/
def civilCutUptoCard : Claim7 := { stood := { row := civilCutUptoRow, standIns := [], harness := (true, "a04d86a43c9f70049177cd8f656d6e4f6dbd7da08ac635eef4e638bf4c257193"), looks := false }, kinds := [], alts := [], laidByText := true, laidKinds := [.data], laidTests := true, laidLooks := .later }
def CivilCutUptoCardSaid : Prop := Claim7.holds Tryd.pinned (.plain (OpenSpec.upto civilCutSpec)) civilCutUptoCard

/-- THE SECOND FORM's CARD OF 'shiftbellkeep.CivilText'. -/
def civilTextUptoCard : Claim7 := { stood := { row := civilTextUptoRow, standIns := [], harness := (true, "a04d86a43c9f70049177cd8f656d6e4f6dbd7da08ac635eef4e638bf4c257193"), looks := false }, kinds := [], alts := [], laidByText := true, laidKinds := [.data, .data, .data, .data], laidTests := true, laidLooks := .later }
def CivilTextUptoCardSaid : Prop := Claim7.holds Tryd.pinned (.plain (OpenSpec.upto civilTextSpec)) civilTextUptoCard

/-- THE SECOND FORM's CARD OF 'shiftbellkeep.CivilYears'. -/
def civilYearsUptoCard : Claim7 := { stood := { row := civilYearsUptoRow, standIns := [], harness := (true, "a04d86a43c9f70049177cd8f656d6e4f6dbd7da08ac635eef4e638bf4c257193"), looks := false }, kinds := [], alts := [], laidByText := true, laidKinds := [.data], laidTests := true, laidLooks := .later }
def CivilYearsUptoCardSaid : Prop := Claim7.holds Tryd.pinned (.plain (OpenSpec.upto civilYearsSpec)) civilYearsUptoCard
end Rows
end Go.Proofs.YtiocpkpnppgnoabDoor
