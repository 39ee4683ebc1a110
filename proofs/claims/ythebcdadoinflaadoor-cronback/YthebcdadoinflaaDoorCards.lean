/-
  DERIVED. GIVEN WITH THE SEED: THE CARDS: each row of YthebcdadoinflaaDoorRows.lean that lists a variable, with what it lists TIED to the program's text (the seventh form; the later family's looks); each row that meets fmt, with fmt's text TOLD by the authors' own Lean function (tested against real Go, not proved from fmt's source: count such statements apart). THE CARD IS WHAT COUNTS. Prove the row's statement (the work); the ties are given (YthebcdadoinflaaDoorTie.lean); close each card by the builder's one call (the guide's Derived/Test/ToyasCard.lean, 'card_holds'). Laid BY PROGRAM, IN A SANDBOX (cutbox-door.mjs). By AI agents, Wed Nov 11 2026. No macro, syntax, notation, axiom, sorry.
-/
import Derived.Test.YthebcdadoinflaaDoorRows
import GoSem.ClaimSeven
namespace Go.Proofs.YthebcdadoinflaaDoor
namespace Rows

/-- THE TIED CARD OF 'shiftbelllaw.CronTells'. -/
def cronTellsCard : Claim7 := { stood := { row := cronTellsRow, standIns := [], harness := (true, "66d0e69f077a887cb4ee1339dc6ae2329dd4f3cb6716c3f1eb428fda025ad17f"), looks := false }, kinds := [], alts := [], laidByText := true, laidKinds := [.data, .data, .data, .data, .data, .pinned], laidTests := true, laidLooks := .later }
def CronTellsCardSaid : Prop := Claim7.holds Tryd.pinned (.plain (OpenSpec.ofChange cronTellsSpec)) cronTellsCard

/-- THE TIED CARD OF 'shiftbellkeep.CronBack'. -/
def cronBackCard : Claim7 := { stood := { row := cronBackRow, standIns := [], harness := (true, "66d0e69f077a887cb4ee1339dc6ae2329dd4f3cb6716c3f1eb428fda025ad17f"), looks := false }, kinds := [], alts := [], laidByText := true, laidKinds := [.data, .data, .data, .data, .data, .data, .pinned], laidTests := true, laidLooks := .later }
def CronBackCardSaid : Prop := Claim7.holds Tryd.pinned (.plain (OpenSpec.ofChange cronBackSpec)) cronBackCard

/-- THE TIED CARD OF 'shiftbellkeep.CronOne'. -/
def cronOneCard : Claim7 := { stood := { row := cronOneRow, standIns := [], harness := (true, "66d0e69f077a887cb4ee1339dc6ae2329dd4f3cb6716c3f1eb428fda025ad17f"), looks := false }, kinds := [], alts := [], laidByText := true, laidKinds := [.data, .data, .data, .data, .data, .data, .pinned], laidTests := true, laidLooks := .later }
def CronOneCardSaid : Prop := Claim7.holds Tryd.pinned (.plain (OpenSpec.ofChange cronOneSpec)) cronOneCard

/-- THE SECOND FORM's CARD OF 'shiftbelllaw.CronTells'. -/
def cronTellsUptoCard : Claim7 := { stood := { row := cronTellsUptoRow, standIns := [], harness := (true, "66d0e69f077a887cb4ee1339dc6ae2329dd4f3cb6716c3f1eb428fda025ad17f"), looks := false }, kinds := [], alts := [], laidByText := true, laidKinds := [.data, .data, .data, .data, .data, .pinned], laidTests := true, laidLooks := .later }
def CronTellsUptoCardSaid : Prop := Claim7.holds Tryd.pinned (.plain (OpenSpec.upto cronTellsSpec)) cronTellsUptoCard

/-- THE SECOND FORM's CARD OF 'shiftbellkeep.CronBack'. -/
def cronBackUptoCard : Claim7 := { stood := { row := cronBackUptoRow, standIns := [], harness := (true, "66d0e69f077a887cb4ee1339dc6ae2329dd4f3cb6716c3f1eb428fda025ad17f"), looks := false }, kinds := [], alts := [], laidByText := true, laidKinds := [.data, .data, .data, .data, .data, .data, .pinned], laidTests := true, laidLooks := .later }
def CronBackUptoCardSaid : Prop := Claim7.holds Tryd.pinned (.plain (OpenSpec.upto cronBackSpec)) cronBackUptoCard

/-- THE SECOND FORM's CARD OF 'shiftbellkeep.CronOne'. -/
def cronOneUptoCard : Claim7 := { stood := { row := cronOneUptoRow, standIns := [], harness := (true, "66d0e69f077a887cb4ee1339dc6ae2329dd4f3cb6716c3f1eb428fda025ad17f"), looks := false }, kinds := [], alts := [], laidByText := true, laidKinds := [.data, .data, .data, .data, .data, .data, .pinned], laidTests := true, laidLooks := .later }
def CronOneUptoCardSaid : Prop := Claim7.holds Tryd.pinned (.plain (OpenSpec.upto cronOneSpec)) cronOneUptoCard
end Rows
end Go.Proofs.YthebcdadoinflaaDoor
