/-
  DERIVED. GIVEN WITH THE SEED: THE CARDS: each row of YtncjnmlgkhngaabDoorRows.lean that lists a variable, with what it lists TIED to the program's text (the seventh form; the later family's looks); each row that meets fmt, with fmt's text TOLD by the authors' own Lean function (tested against real Go, not proved from fmt's source: count such statements apart). THE CARD IS WHAT COUNTS. Prove the row's statement (the work); the ties are given (YtncjnmlgkhngaabDoorTie.lean); close each card by the builder's one call (the guide's Derived/Test/ToyasCard.lean, 'card_holds'). Laid BY PROGRAM, IN A SANDBOX (cutbox-door.mjs). By AI agents, Wed Nov 11 2026. No macro, syntax, notation, axiom, sorry.
-/
import Derived.Test.YtncjnmlgkhngaabDoorRows
import GoSem.ClaimSeven
namespace Go.Proofs.YtncjnmlgkhngaabDoor
namespace Rows

/-- THE TIED CARD OF 'shiftbellkeep.PathSlack'. -/
def pathSlackCard : Claim7 := { stood := { row := pathSlackRow, standIns := [], harness := (true, "d892160073a12b5965be700abdd7de6a8dae8493aa9ed48afe3b326bd13c15cd"), looks := false }, kinds := [], alts := [], laidByText := true, laidKinds := [.data], laidTests := true, laidLooks := .later }
def PathSlackCardSaid : Prop := Claim7.holds Tryd.pinned (.plain (OpenSpec.ofChange pathSlackSpec)) pathSlackCard

/-- THE TIED CARD OF 'shiftbellkeep.PathChain'. -/
def pathChainCard : Claim7 := { stood := { row := pathChainRow, standIns := [], harness := (true, "d892160073a12b5965be700abdd7de6a8dae8493aa9ed48afe3b326bd13c15cd"), looks := false }, kinds := [], alts := [], laidByText := true, laidKinds := [.data], laidTests := true, laidLooks := .later }
def PathChainCardSaid : Prop := Claim7.holds Tryd.pinned (.plain (OpenSpec.ofChange pathChainSpec)) pathChainCard

/-- THE TIED CARD OF 'shiftbellkeep.PathScale'. -/
def pathScaleCard : Claim7 := { stood := { row := pathScaleRow, standIns := [], harness := (true, "d892160073a12b5965be700abdd7de6a8dae8493aa9ed48afe3b326bd13c15cd"), looks := false }, kinds := [], alts := [], laidByText := true, laidKinds := [.data], laidTests := true, laidLooks := .later }
def PathScaleCardSaid : Prop := Claim7.holds Tryd.pinned (.plain (OpenSpec.ofChange pathScaleSpec)) pathScaleCard

/-- THE SECOND FORM's CARD OF 'shiftbellkeep.PathSlack'. -/
def pathSlackUptoCard : Claim7 := { stood := { row := pathSlackUptoRow, standIns := [], harness := (true, "d892160073a12b5965be700abdd7de6a8dae8493aa9ed48afe3b326bd13c15cd"), looks := false }, kinds := [], alts := [], laidByText := true, laidKinds := [.data], laidTests := true, laidLooks := .later }
def PathSlackUptoCardSaid : Prop := Claim7.holds Tryd.pinned (.plain (OpenSpec.upto pathSlackSpec)) pathSlackUptoCard

/-- THE SECOND FORM's CARD OF 'shiftbellkeep.PathChain'. -/
def pathChainUptoCard : Claim7 := { stood := { row := pathChainUptoRow, standIns := [], harness := (true, "d892160073a12b5965be700abdd7de6a8dae8493aa9ed48afe3b326bd13c15cd"), looks := false }, kinds := [], alts := [], laidByText := true, laidKinds := [.data], laidTests := true, laidLooks := .later }
def PathChainUptoCardSaid : Prop := Claim7.holds Tryd.pinned (.plain (OpenSpec.upto pathChainSpec)) pathChainUptoCard

/-- THE SECOND FORM's CARD OF 'shiftbellkeep.PathScale'. -/
def pathScaleUptoCard : Claim7 := { stood := { row := pathScaleUptoRow, standIns := [], harness := (true, "d892160073a12b5965be700abdd7de6a8dae8493aa9ed48afe3b326bd13c15cd"), looks := false }, kinds := [], alts := [], laidByText := true, laidKinds := [.data], laidTests := true, laidLooks := .later }
def PathScaleUptoCardSaid : Prop := Claim7.holds Tryd.pinned (.plain (OpenSpec.upto pathScaleSpec)) pathScaleUptoCard
end Rows
end Go.Proofs.YtncjnmlgkhngaabDoor
