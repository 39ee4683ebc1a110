/-
  DERIVED. GIVEN WITH THE SEED: THE CARDS: each row of YtncjnmlgkhngaaaDoorRows.lean that lists a variable, with what it lists TIED to the program's text (the seventh form; the later family's looks); each row that meets fmt, with fmt's text TOLD by the authors' own Lean function (tested against real Go, not proved from fmt's source: count such statements apart). THE CARD IS WHAT COUNTS. Prove the row's statement (the work); the ties are given (YtncjnmlgkhngaaaDoorTie.lean); close each card by the builder's one call (the guide's Derived/Test/ToyasCard.lean, 'card_holds'). Laid BY PROGRAM, IN A SANDBOX (cutbox-door.mjs). By AI agents, Wed Nov 11 2026. No macro, syntax, notation, axiom, sorry.
-/
import Derived.Test.YtncjnmlgkhngaaaDoorRows
import GoSem.ClaimSeven
namespace Go.Proofs.YtncjnmlgkhngaaaDoor
namespace Rows

/-- THE TIED CARD OF 'shiftbelllaw.GraphTells'. -/
def graphTellsCard : Claim7 := { stood := { row := graphTellsRow, standIns := [], harness := (true, "a66b4ff84d26ff895a564bb3c605f5de5d40d7f9aa9fa3c9f3959867a39df459"), looks := false }, kinds := [], alts := [], laidByText := true, laidKinds := [.data], laidTests := true, laidLooks := .later }
def GraphTellsCardSaid : Prop := Claim7.holds Tryd.pinned (.plain (OpenSpec.ofChange graphTellsSpec)) graphTellsCard

/-- THE TIED CARD OF 'shiftbelllaw.GraphCloses'. -/
def graphClosesCard : Claim7 := { stood := { row := graphClosesRow, standIns := [], harness := (true, "a66b4ff84d26ff895a564bb3c605f5de5d40d7f9aa9fa3c9f3959867a39df459"), looks := false }, kinds := [], alts := [], laidByText := true, laidKinds := [.data], laidTests := true, laidLooks := .later }
def GraphClosesCardSaid : Prop := Claim7.holds Tryd.pinned (.plain (OpenSpec.ofChange graphClosesSpec)) graphClosesCard

/-- THE TIED CARD OF 'shiftbellkeep.GraphThin'. -/
def graphThinCard : Claim7 := { stood := { row := graphThinRow, standIns := [], harness := (true, "a66b4ff84d26ff895a564bb3c605f5de5d40d7f9aa9fa3c9f3959867a39df459"), looks := false }, kinds := [], alts := [], laidByText := true, laidKinds := [.data], laidTests := true, laidLooks := .later }
def GraphThinCardSaid : Prop := Claim7.holds Tryd.pinned (.plain (OpenSpec.ofChange graphThinSpec)) graphThinCard

/-- THE TIED CARD OF 'shiftbelllaw.PathTells'. -/
def pathTellsCard : Claim7 := { stood := { row := pathTellsRow, standIns := [], harness := (true, "a66b4ff84d26ff895a564bb3c605f5de5d40d7f9aa9fa3c9f3959867a39df459"), looks := false }, kinds := [], alts := [], laidByText := true, laidKinds := [.data], laidTests := true, laidLooks := .later }
def PathTellsCardSaid : Prop := Claim7.holds Tryd.pinned (.plain (OpenSpec.ofChange pathTellsSpec)) pathTellsCard

/-- THE TIED CARD OF 'shiftbellkeep.PathLeast'. -/
def pathLeastCard : Claim7 := { stood := { row := pathLeastRow, standIns := [], harness := (true, "a66b4ff84d26ff895a564bb3c605f5de5d40d7f9aa9fa3c9f3959867a39df459"), looks := false }, kinds := [], alts := [], laidByText := true, laidKinds := [.data], laidTests := true, laidLooks := .later }
def PathLeastCardSaid : Prop := Claim7.holds Tryd.pinned (.plain (OpenSpec.ofChange pathLeastSpec)) pathLeastCard

/-- THE TIED CARD OF 'shiftbellkeep.PathWay'. -/
def pathWayCard : Claim7 := { stood := { row := pathWayRow, standIns := [], harness := (true, "a66b4ff84d26ff895a564bb3c605f5de5d40d7f9aa9fa3c9f3959867a39df459"), looks := false }, kinds := [], alts := [], laidByText := true, laidKinds := [.data], laidTests := true, laidLooks := .later }
def PathWayCardSaid : Prop := Claim7.holds Tryd.pinned (.plain (OpenSpec.ofChange pathWaySpec)) pathWayCard

/-- THE SECOND FORM's CARD OF 'shiftbelllaw.GraphTells'. -/
def graphTellsUptoCard : Claim7 := { stood := { row := graphTellsUptoRow, standIns := [], harness := (true, "a66b4ff84d26ff895a564bb3c605f5de5d40d7f9aa9fa3c9f3959867a39df459"), looks := false }, kinds := [], alts := [], laidByText := true, laidKinds := [.data], laidTests := true, laidLooks := .later }
def GraphTellsUptoCardSaid : Prop := Claim7.holds Tryd.pinned (.plain (OpenSpec.upto graphTellsSpec)) graphTellsUptoCard

/-- THE SECOND FORM's CARD OF 'shiftbelllaw.GraphCloses'. -/
def graphClosesUptoCard : Claim7 := { stood := { row := graphClosesUptoRow, standIns := [], harness := (true, "a66b4ff84d26ff895a564bb3c605f5de5d40d7f9aa9fa3c9f3959867a39df459"), looks := false }, kinds := [], alts := [], laidByText := true, laidKinds := [.data], laidTests := true, laidLooks := .later }
def GraphClosesUptoCardSaid : Prop := Claim7.holds Tryd.pinned (.plain (OpenSpec.upto graphClosesSpec)) graphClosesUptoCard

/-- THE SECOND FORM's CARD OF 'shiftbellkeep.GraphThin'. -/
def graphThinUptoCard : Claim7 := { stood := { row := graphThinUptoRow, standIns := [], harness := (true, "a66b4ff84d26ff895a564bb3c605f5de5d40d7f9aa9fa3c9f3959867a39df459"), looks := false }, kinds := [], alts := [], laidByText := true, laidKinds := [.data], laidTests := true, laidLooks := .later }
def GraphThinUptoCardSaid : Prop := Claim7.holds Tryd.pinned (.plain (OpenSpec.upto graphThinSpec)) graphThinUptoCard

/-- THE SECOND FORM's CARD OF 'shiftbelllaw.PathTells'. -/
def pathTellsUptoCard : Claim7 := { stood := { row := pathTellsUptoRow, standIns := [], harness := (true, "a66b4ff84d26ff895a564bb3c605f5de5d40d7f9aa9fa3c9f3959867a39df459"), looks := false }, kinds := [], alts := [], laidByText := true, laidKinds := [.data], laidTests := true, laidLooks := .later }
def PathTellsUptoCardSaid : Prop := Claim7.holds Tryd.pinned (.plain (OpenSpec.upto pathTellsSpec)) pathTellsUptoCard

/-- THE SECOND FORM's CARD OF 'shiftbellkeep.PathLeast'. -/
def pathLeastUptoCard : Claim7 := { stood := { row := pathLeastUptoRow, standIns := [], harness := (true, "a66b4ff84d26ff895a564bb3c605f5de5d40d7f9aa9fa3c9f3959867a39df459"), looks := false }, kinds := [], alts := [], laidByText := true, laidKinds := [.data], laidTests := true, laidLooks := .later }
def PathLeastUptoCardSaid : Prop := Claim7.holds Tryd.pinned (.plain (OpenSpec.upto pathLeastSpec)) pathLeastUptoCard

/-- THE SECOND FORM's CARD OF 'shiftbellkeep.PathWay'. -/
def pathWayUptoCard : Claim7 := { stood := { row := pathWayUptoRow, standIns := [], harness := (true, "a66b4ff84d26ff895a564bb3c605f5de5d40d7f9aa9fa3c9f3959867a39df459"), looks := false }, kinds := [], alts := [], laidByText := true, laidKinds := [.data], laidTests := true, laidLooks := .later }
def PathWayUptoCardSaid : Prop := Claim7.holds Tryd.pinned (.plain (OpenSpec.upto pathWaySpec)) pathWayUptoCard
end Rows
end Go.Proofs.YtncjnmlgkhngaaaDoor
