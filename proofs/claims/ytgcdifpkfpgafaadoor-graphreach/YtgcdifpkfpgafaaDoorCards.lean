/-
  DERIVED. GIVEN WITH THE SEED: THE CARDS: each row of YtgcdifpkfpgafaaDoorRows.lean that lists a variable, with what it lists TIED to the program's text (the seventh form; the later family's looks); each row that meets fmt, with fmt's text TOLD by the authors' own Lean function (tested against real Go, not proved from fmt's source: count such statements apart). THE CARD IS WHAT COUNTS. Prove the row's statement (the work); the ties are given (YtgcdifpkfpgafaaDoorTie.lean); close each card by the builder's one call (the guide's Derived/Test/ToyasCard.lean, 'card_holds'). Laid BY PROGRAM, IN A SANDBOX (cutbox-door.mjs). By AI agents, Wed Nov 11 2026. No macro, syntax, notation, axiom, sorry.
-/
import Derived.Test.YtgcdifpkfpgafaaDoorRows
import GoSem.ClaimSeven
namespace Go.Proofs.YtgcdifpkfpgafaaDoor
namespace Rows

/-- THE TIED CARD OF 'shiftbelllaw.GraphTells'. -/
def graphTellsCard : Claim7 := { stood := { row := graphTellsRow, standIns := [], harness := (true, "ff6638cc06b207a39c3c7b537c31d29fb8fbf85916a5beda887719ce4f14313d"), looks := false }, kinds := [], alts := [], laidByText := true, laidKinds := [.data], laidTests := true, laidLooks := .later }
def GraphTellsCardSaid : Prop := Claim7.holds Tryd.pinned (.plain (OpenSpec.ofChange graphTellsSpec)) graphTellsCard

/-- THE TIED CARD OF 'shiftbelllaw.GraphCloses'. -/
def graphClosesCard : Claim7 := { stood := { row := graphClosesRow, standIns := [], harness := (true, "ff6638cc06b207a39c3c7b537c31d29fb8fbf85916a5beda887719ce4f14313d"), looks := false }, kinds := [], alts := [], laidByText := true, laidKinds := [.data], laidTests := true, laidLooks := .later }
def GraphClosesCardSaid : Prop := Claim7.holds Tryd.pinned (.plain (OpenSpec.ofChange graphClosesSpec)) graphClosesCard

/-- THE TIED CARD OF 'shiftbellkeep.GraphOrder'. -/
def graphOrderCard : Claim7 := { stood := { row := graphOrderRow, standIns := [], harness := (true, "ff6638cc06b207a39c3c7b537c31d29fb8fbf85916a5beda887719ce4f14313d"), looks := false }, kinds := [], alts := [], laidByText := true, laidKinds := [.data], laidTests := true, laidLooks := .later }
def GraphOrderCardSaid : Prop := Claim7.holds Tryd.pinned (.plain (OpenSpec.ofChange graphOrderSpec)) graphOrderCard

/-- THE TIED CARD OF 'shiftbellkeep.GraphReach'. -/
def graphReachCard : Claim7 := { stood := { row := graphReachRow, standIns := [], harness := (true, "ff6638cc06b207a39c3c7b537c31d29fb8fbf85916a5beda887719ce4f14313d"), looks := false }, kinds := [], alts := [], laidByText := true, laidKinds := [.data], laidTests := true, laidLooks := .later }
def GraphReachCardSaid : Prop := Claim7.holds Tryd.pinned (.plain (OpenSpec.ofChange graphReachSpec)) graphReachCard

/-- THE TIED CARD OF 'shiftbellkeep.GraphThin'. -/
def graphThinCard : Claim7 := { stood := { row := graphThinRow, standIns := [], harness := (true, "ff6638cc06b207a39c3c7b537c31d29fb8fbf85916a5beda887719ce4f14313d"), looks := false }, kinds := [], alts := [], laidByText := true, laidKinds := [.data], laidTests := true, laidLooks := .later }
def GraphThinCardSaid : Prop := Claim7.holds Tryd.pinned (.plain (OpenSpec.ofChange graphThinSpec)) graphThinCard

/-- THE TIED CARD OF 'shiftbellkeep.GraphTurn'. -/
def graphTurnCard : Claim7 := { stood := { row := graphTurnRow, standIns := [], harness := (true, "ff6638cc06b207a39c3c7b537c31d29fb8fbf85916a5beda887719ce4f14313d"), looks := false }, kinds := [], alts := [], laidByText := true, laidKinds := [.data], laidTests := true, laidLooks := .later }
def GraphTurnCardSaid : Prop := Claim7.holds Tryd.pinned (.plain (OpenSpec.ofChange graphTurnSpec)) graphTurnCard

/-- THE SECOND FORM's CARD OF 'shiftbelllaw.GraphTells'. -/
def graphTellsUptoCard : Claim7 := { stood := { row := graphTellsUptoRow, standIns := [], harness := (true, "ff6638cc06b207a39c3c7b537c31d29fb8fbf85916a5beda887719ce4f14313d"), looks := false }, kinds := [], alts := [], laidByText := true, laidKinds := [.data], laidTests := true, laidLooks := .later }
def GraphTellsUptoCardSaid : Prop := Claim7.holds Tryd.pinned (.plain (OpenSpec.upto graphTellsSpec)) graphTellsUptoCard

/-- THE SECOND FORM's CARD OF 'shiftbelllaw.GraphCloses'. -/
def graphClosesUptoCard : Claim7 := { stood := { row := graphClosesUptoRow, standIns := [], harness := (true, "ff6638cc06b207a39c3c7b537c31d29fb8fbf85916a5beda887719ce4f14313d"), looks := false }, kinds := [], alts := [], laidByText := true, laidKinds := [.data], laidTests := true, laidLooks := .later }
def GraphClosesUptoCardSaid : Prop := Claim7.holds Tryd.pinned (.plain (OpenSpec.upto graphClosesSpec)) graphClosesUptoCard

/-- THE SECOND FORM's CARD OF 'shiftbellkeep.GraphOrder'. -/
def graphOrderUptoCard : Claim7 := { stood := { row := graphOrderUptoRow, standIns := [], harness := (true, "ff6638cc06b207a39c3c7b537c31d29fb8fbf85916a5beda887719ce4f14313d"), looks := false }, kinds := [], alts := [], laidByText := true, laidKinds := [.data], laidTests := true, laidLooks := .later }
def GraphOrderUptoCardSaid : Prop := Claim7.holds Tryd.pinned (.plain (OpenSpec.upto graphOrderSpec)) graphOrderUptoCard

/-- THE SECOND FORM's CARD OF 'shiftbellkeep.GraphReach'. -/
def graphReachUptoCard : Claim7 := { stood := { row := graphReachUptoRow, standIns := [], harness := (true, "ff6638cc06b207a39c3c7b537c31d29fb8fbf85916a5beda887719ce4f14313d"), looks := false }, kinds := [], alts := [], laidByText := true, laidKinds := [.data], laidTests := true, laidLooks := .later }
def GraphReachUptoCardSaid : Prop := Claim7.holds Tryd.pinned (.plain (OpenSpec.upto graphReachSpec)) graphReachUptoCard

/-- THE SECOND FORM's CARD OF 'shiftbellkeep.GraphThin'. -/
def graphThinUptoCard : Claim7 := { stood := { row := graphThinUptoRow, standIns := [], harness := (true, "ff6638cc06b207a39c3c7b537c31d29fb8fbf85916a5beda887719ce4f14313d"), looks := false }, kinds := [], alts := [], laidByText := true, laidKinds := [.data], laidTests := true, laidLooks := .later }
def GraphThinUptoCardSaid : Prop := Claim7.holds Tryd.pinned (.plain (OpenSpec.upto graphThinSpec)) graphThinUptoCard

/-- THE SECOND FORM's CARD OF 'shiftbellkeep.GraphTurn'. -/
def graphTurnUptoCard : Claim7 := { stood := { row := graphTurnUptoRow, standIns := [], harness := (true, "ff6638cc06b207a39c3c7b537c31d29fb8fbf85916a5beda887719ce4f14313d"), looks := false }, kinds := [], alts := [], laidByText := true, laidKinds := [.data], laidTests := true, laidLooks := .later }
def GraphTurnUptoCardSaid : Prop := Claim7.holds Tryd.pinned (.plain (OpenSpec.upto graphTurnSpec)) graphTurnUptoCard
end Rows
end Go.Proofs.YtgcdifpkfpgafaaDoor
