/-
  DERIVED. GIVEN WITH THE SEED: THE CARDS: each row of YthfpdbogbmccjaaDoorRows.lean that lists a variable, with what it lists TIED to the program's text (the seventh form; the later family's looks); each row that meets fmt, with fmt's text TOLD by the authors' own Lean function (tested against real Go, not proved from fmt's source: count such statements apart). THE CARD IS WHAT COUNTS. Prove the row's statement (the work); the ties are given (YthfpdbogbmccjaaDoorTie.lean); close each card by the builder's one call (the guide's Derived/Test/ToyasCard.lean, 'card_holds'). Laid BY PROGRAM, IN A SANDBOX (cutbox-door.mjs). By AI agents, Wed Nov 11 2026. No macro, syntax, notation, axiom, sorry.
-/
import Derived.Test.YthfpdbogbmccjaaDoorRows
import GoSem.ClaimSeven
namespace Go.Proofs.YthfpdbogbmccjaaDoor
namespace Rows

/-- THE TIED CARD OF 'shiftbelllaw.ListGraphs'. -/
def listGraphsCard : Claim7 := { stood := { row := listGraphsRow, standIns := [], harness := (true, "47b1cc6ab8c0d89e7b0507d46f19b8665e826ea7d351c537e95b6bc0fd77b1e7"), looks := false }, kinds := [], alts := [], laidByText := true, laidKinds := [.data], laidTests := true, laidLooks := .later }
def ListGraphsCardSaid : Prop := Claim7.holds Tryd.pinned (.plain (OpenSpec.ofChange listGraphsSpec)) listGraphsCard

/-- THE TIED CARD OF 'shiftbellkeep.ListGraph'. -/
def listGraphCard : Claim7 := { stood := { row := listGraphRow, standIns := [], harness := (true, "47b1cc6ab8c0d89e7b0507d46f19b8665e826ea7d351c537e95b6bc0fd77b1e7"), looks := false }, kinds := [], alts := [], laidByText := true, laidKinds := [.data], laidTests := true, laidLooks := .later }
def ListGraphCardSaid : Prop := Claim7.holds Tryd.pinned (.plain (OpenSpec.ofChange listGraphSpec)) listGraphCard

/-- THE SECOND FORM's CARD OF 'shiftbelllaw.ListGraphs'. -/
def listGraphsUptoCard : Claim7 := { stood := { row := listGraphsUptoRow, standIns := [], harness := (true, "47b1cc6ab8c0d89e7b0507d46f19b8665e826ea7d351c537e95b6bc0fd77b1e7"), looks := false }, kinds := [], alts := [], laidByText := true, laidKinds := [.data], laidTests := true, laidLooks := .later }
def ListGraphsUptoCardSaid : Prop := Claim7.holds Tryd.pinned (.plain (OpenSpec.upto listGraphsSpec)) listGraphsUptoCard

/-- THE SECOND FORM's CARD OF 'shiftbellkeep.ListGraph'. -/
def listGraphUptoCard : Claim7 := { stood := { row := listGraphUptoRow, standIns := [], harness := (true, "47b1cc6ab8c0d89e7b0507d46f19b8665e826ea7d351c537e95b6bc0fd77b1e7"), looks := false }, kinds := [], alts := [], laidByText := true, laidKinds := [.data], laidTests := true, laidLooks := .later }
def ListGraphUptoCardSaid : Prop := Claim7.holds Tryd.pinned (.plain (OpenSpec.upto listGraphSpec)) listGraphUptoCard
end Rows
end Go.Proofs.YthfpdbogbmccjaaDoor
