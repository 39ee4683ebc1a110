/-
  DERIVED. GIVEN WITH THE SEED: THE CARDS: each row of YtbcfdleijpicgaaDoorRows.lean that lists a variable, with what it lists TIED to the program's text (the seventh form; the later family's looks); each row that meets fmt, with fmt's text TOLD by the authors' own Lean function (tested against real Go, not proved from fmt's source: count such statements apart). THE CARD IS WHAT COUNTS. Prove the row's statement (the work); the ties are given (YtbcfdleijpicgaaDoorTie.lean); close each card by the builder's one call (the guide's Derived/Test/ToyasCard.lean, 'card_holds'). Laid BY PROGRAM, IN A SANDBOX (cutbox-door.mjs). By AI agents, Wed Nov 11 2026. No macro, syntax, notation, axiom, sorry.
-/
import Derived.Test.YtbcfdleijpicgaaDoorRows
import GoSem.ClaimSeven
namespace Go.Proofs.YtbcfdleijpicgaaDoor
namespace Rows

/-- THE TIED CARD OF 'shiftbelllaw.CivilReads'. -/
def civilReadsCard : Claim7 := { stood := { row := civilReadsRow, standIns := [], harness := (true, "706db24dd1c849095b1a742f0760fa82b6afe21ec21e0db0eb8cdd3f7e5ed908"), looks := false }, kinds := [], alts := [], laidByText := true, laidKinds := [.data, .data, .data, .data], laidTests := true, laidLooks := .later }
def CivilReadsCardSaid : Prop := Claim7.holds Tryd.pinned (.plain (OpenSpec.ofChange civilReadsSpec)) civilReadsCard

/-- THE TIED CARD OF 'shiftbellkeep.CivilText'. -/
def civilTextCard : Claim7 := { stood := { row := civilTextRow, standIns := [], harness := (true, "706db24dd1c849095b1a742f0760fa82b6afe21ec21e0db0eb8cdd3f7e5ed908"), looks := false }, kinds := [], alts := [], laidByText := true, laidKinds := [.data, .data, .data, .data], laidTests := true, laidLooks := .later }
def CivilTextCardSaid : Prop := Claim7.holds Tryd.pinned (.plain (OpenSpec.ofChange civilTextSpec)) civilTextCard

/-- THE TIED CARD OF 'shiftbelllaw.CronTells'. -/
def cronTellsCard : Claim7 := { stood := { row := cronTellsRow, standIns := [], harness := (true, "706db24dd1c849095b1a742f0760fa82b6afe21ec21e0db0eb8cdd3f7e5ed908"), looks := false }, kinds := [], alts := [], laidByText := true, laidKinds := [.data, .data, .data, .data, .data, .pinned], laidTests := true, laidLooks := .later }
def CronTellsCardSaid : Prop := Claim7.holds Tryd.pinned (.plain (OpenSpec.ofChange cronTellsSpec)) cronTellsCard

/-- THE TIED CARD OF 'shiftbellkeep.CronBack'. -/
def cronBackCard : Claim7 := { stood := { row := cronBackRow, standIns := [], harness := (true, "706db24dd1c849095b1a742f0760fa82b6afe21ec21e0db0eb8cdd3f7e5ed908"), looks := false }, kinds := [], alts := [], laidByText := true, laidKinds := [.data, .data, .data, .data, .data, .data, .pinned], laidTests := true, laidLooks := .later }
def CronBackCardSaid : Prop := Claim7.holds Tryd.pinned (.plain (OpenSpec.ofChange cronBackSpec)) cronBackCard

/-- THE TIED CARD OF 'shiftbellkeep.CronOne'. -/
def cronOneCard : Claim7 := { stood := { row := cronOneRow, standIns := [], harness := (true, "706db24dd1c849095b1a742f0760fa82b6afe21ec21e0db0eb8cdd3f7e5ed908"), looks := false }, kinds := [], alts := [], laidByText := true, laidKinds := [.data, .data, .data, .data, .data, .data, .pinned], laidTests := true, laidLooks := .later }
def CronOneCardSaid : Prop := Claim7.holds Tryd.pinned (.plain (OpenSpec.ofChange cronOneSpec)) cronOneCard

/-- THE TIED CARD OF 'shiftbellkeep.CronLeast'. -/
def cronLeastCard : Claim7 := { stood := { row := cronLeastRow, standIns := [], harness := (true, "706db24dd1c849095b1a742f0760fa82b6afe21ec21e0db0eb8cdd3f7e5ed908"), looks := false }, kinds := [], alts := [], laidByText := true, laidKinds := [.data, .data, .data], laidTests := true, laidLooks := .later }
def CronLeastCardSaid : Prop := Claim7.holds Tryd.pinned (.plain (OpenSpec.ofChange cronLeastSpec)) cronLeastCard

/-- THE SECOND FORM's CARD OF 'shiftbelllaw.CivilReads'. -/
def civilReadsUptoCard : Claim7 := { stood := { row := civilReadsUptoRow, standIns := [], harness := (true, "706db24dd1c849095b1a742f0760fa82b6afe21ec21e0db0eb8cdd3f7e5ed908"), looks := false }, kinds := [], alts := [], laidByText := true, laidKinds := [.data, .data, .data, .data], laidTests := true, laidLooks := .later }
def CivilReadsUptoCardSaid : Prop := Claim7.holds Tryd.pinned (.plain (OpenSpec.upto civilReadsSpec)) civilReadsUptoCard

/-- THE SECOND FORM's CARD OF 'shiftbellkeep.CivilText'. -/
def civilTextUptoCard : Claim7 := { stood := { row := civilTextUptoRow, standIns := [], harness := (true, "706db24dd1c849095b1a742f0760fa82b6afe21ec21e0db0eb8cdd3f7e5ed908"), looks := false }, kinds := [], alts := [], laidByText := true, laidKinds := [.data, .data, .data, .data], laidTests := true, laidLooks := .later }
def CivilTextUptoCardSaid : Prop := Claim7.holds Tryd.pinned (.plain (OpenSpec.upto civilTextSpec)) civilTextUptoCard

/-- THE SECOND FORM's CARD OF 'shiftbelllaw.CronTells'. -/
def cronTellsUptoCard : Claim7 := { stood := { row := cronTellsUptoRow, standIns := [], harness := (true, "706db24dd1c849095b1a742f0760fa82b6afe21ec21e0db0eb8cdd3f7e5ed908"), looks := false }, kinds := [], alts := [], laidByText := true, laidKinds := [.data, .data, .data, .data, .data, .pinned], laidTests := true, laidLooks := .later }
def CronTellsUptoCardSaid : Prop := Claim7.holds Tryd.pinned (.plain (OpenSpec.upto cronTellsSpec)) cronTellsUptoCard

/-- THE SECOND FORM's CARD OF 'shiftbellkeep.CronBack'. -/
def cronBackUptoCard : Claim7 := { stood := { row := cronBackUptoRow, standIns := [], harness := (true, "706db24dd1c849095b1a742f0760fa82b6afe21ec21e0db0eb8cdd3f7e5ed908"), looks := false }, kinds := [], alts := [], laidByText := true, laidKinds := [.data, .data, .data, .data, .data, .data, .pinned], laidTests := true, laidLooks := .later }
def CronBackUptoCardSaid : Prop := Claim7.holds Tryd.pinned (.plain (OpenSpec.upto cronBackSpec)) cronBackUptoCard

/-- THE SECOND FORM's CARD OF 'shiftbellkeep.CronOne'. -/
def cronOneUptoCard : Claim7 := { stood := { row := cronOneUptoRow, standIns := [], harness := (true, "706db24dd1c849095b1a742f0760fa82b6afe21ec21e0db0eb8cdd3f7e5ed908"), looks := false }, kinds := [], alts := [], laidByText := true, laidKinds := [.data, .data, .data, .data, .data, .data, .pinned], laidTests := true, laidLooks := .later }
def CronOneUptoCardSaid : Prop := Claim7.holds Tryd.pinned (.plain (OpenSpec.upto cronOneSpec)) cronOneUptoCard

/-- THE SECOND FORM's CARD OF 'shiftbellkeep.CronLeast'. -/
def cronLeastUptoCard : Claim7 := { stood := { row := cronLeastUptoRow, standIns := [], harness := (true, "706db24dd1c849095b1a742f0760fa82b6afe21ec21e0db0eb8cdd3f7e5ed908"), looks := false }, kinds := [], alts := [], laidByText := true, laidKinds := [.data, .data, .data], laidTests := true, laidLooks := .later }
def CronLeastUptoCardSaid : Prop := Claim7.holds Tryd.pinned (.plain (OpenSpec.upto cronLeastSpec)) cronLeastUptoCard
end Rows
end Go.Proofs.YtbcfdleijpicgaaDoor
