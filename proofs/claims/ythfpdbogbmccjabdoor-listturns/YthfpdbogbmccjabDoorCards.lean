/-
  DERIVED. GIVEN WITH THE SEED: THE CARDS: each row of YthfpdbogbmccjabDoorRows.lean that lists a variable, with what it lists TIED to the program's text (the seventh form; the later family's looks); each row that meets fmt, with fmt's text TOLD by the authors' own Lean function (tested against real Go, not proved from fmt's source: count such statements apart). THE CARD IS WHAT COUNTS. Prove the row's statement (the work); the ties are given (YthfpdbogbmccjabDoorTie.lean); close each card by the builder's one call (the guide's Derived/Test/ToyasCard.lean, 'card_holds'). Laid BY PROGRAM, IN A SANDBOX (cutbox-door.mjs). By AI agents, Wed Nov 11 2026. No macro, syntax, notation, axiom, sorry.
-/
import Derived.Test.YthfpdbogbmccjabDoorRows
import GoSem.ClaimSeven
namespace Go.Proofs.YthfpdbogbmccjabDoor
namespace Rows

/-- THE TIED CARD OF 'shiftbellkeep.ListTurns'. -/
def listTurnsCard : Claim7 := { stood := { row := listTurnsRow, standIns := [], harness := (true, "2aae7f98d20587a6da34b722d7924004c0cacb1edb95ed16baf1f573a413774c"), looks := false }, kinds := [], alts := [], laidByText := true, laidKinds := [.data], laidTests := true, laidLooks := .later }
def ListTurnsCardSaid : Prop := Claim7.holds Tryd.pinned (.plain (OpenSpec.ofChange listTurnsSpec)) listTurnsCard

/-- THE SECOND FORM's CARD OF 'shiftbellkeep.ListTurns'. -/
def listTurnsUptoCard : Claim7 := { stood := { row := listTurnsUptoRow, standIns := [], harness := (true, "2aae7f98d20587a6da34b722d7924004c0cacb1edb95ed16baf1f573a413774c"), looks := false }, kinds := [], alts := [], laidByText := true, laidKinds := [.data], laidTests := true, laidLooks := .later }
def ListTurnsUptoCardSaid : Prop := Claim7.holds Tryd.pinned (.plain (OpenSpec.upto listTurnsSpec)) listTurnsUptoCard
end Rows
end Go.Proofs.YthfpdbogbmccjabDoor
