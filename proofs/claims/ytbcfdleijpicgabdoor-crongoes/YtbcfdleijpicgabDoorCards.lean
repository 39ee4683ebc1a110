/-
  DERIVED. GIVEN WITH THE SEED: THE CARDS: each row of YtbcfdleijpicgabDoorRows.lean that lists a variable, with what it lists TIED to the program's text (the seventh form; the later family's looks); each row that meets fmt, with fmt's text TOLD by the authors' own Lean function (tested against real Go, not proved from fmt's source: count such statements apart). THE CARD IS WHAT COUNTS. Prove the row's statement (the work); the ties are given (YtbcfdleijpicgabDoorTie.lean); close each card by the builder's one call (the guide's Derived/Test/ToyasCard.lean, 'card_holds'). Laid BY PROGRAM, IN A SANDBOX (cutbox-door.mjs). By AI agents, Wed Nov 11 2026. No macro, syntax, notation, axiom, sorry.
-/
import Derived.Test.YtbcfdleijpicgabDoorRows
import GoSem.ClaimSeven
namespace Go.Proofs.YtbcfdleijpicgabDoor
namespace Rows

/-- THE TIED CARD OF 'shiftbellkeep.CronNow'. -/
def cronNowCard : Claim7 := { stood := { row := cronNowRow, standIns := [], harness := (true, "c2f04534d9b29da5a36b70edc2dfa90f899d6db7c3ffc050f2d945e490180dbb"), looks := false }, kinds := [], alts := [], laidByText := true, laidKinds := [.data, .data, .data], laidTests := true, laidLooks := .later }
def CronNowCardSaid : Prop := Claim7.holds Tryd.pinned (.plain (OpenSpec.ofChange cronNowSpec)) cronNowCard

/-- THE TIED CARD OF 'shiftbellkeep.CronWider'. -/
def cronWiderCard : Claim7 := { stood := { row := cronWiderRow, standIns := [], harness := (true, "c2f04534d9b29da5a36b70edc2dfa90f899d6db7c3ffc050f2d945e490180dbb"), looks := false }, kinds := [], alts := [], laidByText := true, laidKinds := [.data, .data, .data], laidTests := true, laidLooks := .later }
def CronWiderCardSaid : Prop := Claim7.holds Tryd.pinned (.plain (OpenSpec.ofChange cronWiderSpec)) cronWiderCard

/-- THE TIED CARD OF 'shiftbellkeep.CronAgain'. -/
def cronAgainCard : Claim7 := { stood := { row := cronAgainRow, standIns := [], harness := (true, "c2f04534d9b29da5a36b70edc2dfa90f899d6db7c3ffc050f2d945e490180dbb"), looks := false }, kinds := [], alts := [], laidByText := true, laidKinds := [.data, .data, .data], laidTests := true, laidLooks := .later }
def CronAgainCardSaid : Prop := Claim7.holds Tryd.pinned (.plain (OpenSpec.ofChange cronAgainSpec)) cronAgainCard

/-- THE TIED CARD OF 'shiftbelllaw.CronGoes'. -/
def cronGoesCard : Claim7 := { stood := { row := cronGoesRow, standIns := [], harness := (true, "c2f04534d9b29da5a36b70edc2dfa90f899d6db7c3ffc050f2d945e490180dbb"), looks := false }, kinds := [], alts := [], laidByText := true, laidKinds := [.data, .data, .data], laidTests := true, laidLooks := .later }
def CronGoesCardSaid : Prop := Claim7.holds Tryd.pinned (.plain (OpenSpec.ofChange cronGoesSpec)) cronGoesCard

/-- THE SECOND FORM's CARD OF 'shiftbellkeep.CronNow'. -/
def cronNowUptoCard : Claim7 := { stood := { row := cronNowUptoRow, standIns := [], harness := (true, "c2f04534d9b29da5a36b70edc2dfa90f899d6db7c3ffc050f2d945e490180dbb"), looks := false }, kinds := [], alts := [], laidByText := true, laidKinds := [.data, .data, .data], laidTests := true, laidLooks := .later }
def CronNowUptoCardSaid : Prop := Claim7.holds Tryd.pinned (.plain (OpenSpec.upto cronNowSpec)) cronNowUptoCard

/-- THE SECOND FORM's CARD OF 'shiftbellkeep.CronWider'. -/
def cronWiderUptoCard : Claim7 := { stood := { row := cronWiderUptoRow, standIns := [], harness := (true, "c2f04534d9b29da5a36b70edc2dfa90f899d6db7c3ffc050f2d945e490180dbb"), looks := false }, kinds := [], alts := [], laidByText := true, laidKinds := [.data, .data, .data], laidTests := true, laidLooks := .later }
def CronWiderUptoCardSaid : Prop := Claim7.holds Tryd.pinned (.plain (OpenSpec.upto cronWiderSpec)) cronWiderUptoCard

/-- THE SECOND FORM's CARD OF 'shiftbellkeep.CronAgain'. -/
def cronAgainUptoCard : Claim7 := { stood := { row := cronAgainUptoRow, standIns := [], harness := (true, "c2f04534d9b29da5a36b70edc2dfa90f899d6db7c3ffc050f2d945e490180dbb"), looks := false }, kinds := [], alts := [], laidByText := true, laidKinds := [.data, .data, .data], laidTests := true, laidLooks := .later }
def CronAgainUptoCardSaid : Prop := Claim7.holds Tryd.pinned (.plain (OpenSpec.upto cronAgainSpec)) cronAgainUptoCard

/-- THE SECOND FORM's CARD OF 'shiftbelllaw.CronGoes'. -/
def cronGoesUptoCard : Claim7 := { stood := { row := cronGoesUptoRow, standIns := [], harness := (true, "c2f04534d9b29da5a36b70edc2dfa90f899d6db7c3ffc050f2d945e490180dbb"), looks := false }, kinds := [], alts := [], laidByText := true, laidKinds := [.data, .data, .data], laidTests := true, laidLooks := .later }
def CronGoesUptoCardSaid : Prop := Claim7.holds Tryd.pinned (.plain (OpenSpec.upto cronGoesSpec)) cronGoesUptoCard
end Rows
end Go.Proofs.YtbcfdleijpicgabDoor
