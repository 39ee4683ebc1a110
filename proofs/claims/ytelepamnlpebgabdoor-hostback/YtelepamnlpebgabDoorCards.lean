/-
  DERIVED. GIVEN WITH THE SEED: THE CARDS: each row of YtelepamnlpebgabDoorRows.lean that lists a variable, with what it lists TIED to the program's text (the seventh form; the later family's looks); each row that meets fmt, with fmt's text TOLD by the authors' own Lean function (tested against real Go, not proved from fmt's source: count such statements apart). THE CARD IS WHAT COUNTS. Prove the row's statement (the work); the ties are given (YtelepamnlpebgabDoorTie.lean); close each card by the builder's one call (the guide's Derived/Test/ToyasCard.lean, 'card_holds'). Laid BY PROGRAM, IN A SANDBOX (cutbox-door.mjs). By AI agents, Wed Nov 11 2026. No macro, syntax, notation, axiom, sorry.
-/
import Derived.Test.YtelepamnlpebgabDoorRows
import GoSem.ClaimSeven
namespace Go.Proofs.YtelepamnlpebgabDoor
namespace Rows

/-- THE TIED CARD OF 'shiftbelllaw.HostTells'. -/
def hostTellsCard : Claim7 := { stood := { row := hostTellsRow, standIns := [], harness := (true, "39291f212dab89159acf80c9a2970e273639036577a301f66deb70fa2b9ee759"), looks := false }, kinds := [], alts := [], laidByText := true, laidKinds := [.data, .data, .pinned], laidTests := true, laidLooks := .later }
def HostTellsCardSaid : Prop := Claim7.holds Tryd.pinned (.plain (OpenSpec.ofChange hostTellsSpec)) hostTellsCard

/-- THE TIED CARD OF 'shiftbellkeep.HostBack'. -/
def hostBackCard : Claim7 := { stood := { row := hostBackRow, standIns := [], harness := (true, "39291f212dab89159acf80c9a2970e273639036577a301f66deb70fa2b9ee759"), looks := false }, kinds := [], alts := [], laidByText := true, laidKinds := [.data, .data, .pinned], laidTests := true, laidLooks := .later }
def HostBackCardSaid : Prop := Claim7.holds Tryd.pinned (.plain (OpenSpec.ofChange hostBackSpec)) hostBackCard

/-- THE TIED CARD OF 'shiftbellkeep.HostFit'. -/
def hostFitCard : Claim7 := { stood := { row := hostFitRow, standIns := [], harness := (true, "39291f212dab89159acf80c9a2970e273639036577a301f66deb70fa2b9ee759"), looks := false }, kinds := [], alts := [], laidByText := true, laidKinds := [.data, .data, .pinned], laidTests := true, laidLooks := .later }
def HostFitCardSaid : Prop := Claim7.holds Tryd.pinned (.plain (OpenSpec.ofChange hostFitSpec)) hostFitCard

/-- THE TIED CARD OF 'shiftbellkeep.HostBest'. -/
def hostBestCard : Claim7 := { stood := { row := hostBestRow, standIns := [], harness := (true, "39291f212dab89159acf80c9a2970e273639036577a301f66deb70fa2b9ee759"), looks := false }, kinds := [], alts := [], laidByText := true, laidKinds := [.data, .data, .pinned], laidTests := true, laidLooks := .later }
def HostBestCardSaid : Prop := Claim7.holds Tryd.pinned (.plain (OpenSpec.ofChange hostBestSpec)) hostBestCard

/-- THE TIED CARD OF 'shiftbellkeep.HostLess'. -/
def hostLessCard : Claim7 := { stood := { row := hostLessRow, standIns := [], harness := (true, "39291f212dab89159acf80c9a2970e273639036577a301f66deb70fa2b9ee759"), looks := false }, kinds := [], alts := [], laidByText := true, laidKinds := [.data, .data, .pinned], laidTests := true, laidLooks := .later }
def HostLessCardSaid : Prop := Claim7.holds Tryd.pinned (.plain (OpenSpec.ofChange hostLessSpec)) hostLessCard

/-- THE SECOND FORM's CARD OF 'shiftbelllaw.HostTells'. -/
def hostTellsUptoCard : Claim7 := { stood := { row := hostTellsUptoRow, standIns := [], harness := (true, "39291f212dab89159acf80c9a2970e273639036577a301f66deb70fa2b9ee759"), looks := false }, kinds := [], alts := [], laidByText := true, laidKinds := [.data, .data, .pinned], laidTests := true, laidLooks := .later }
def HostTellsUptoCardSaid : Prop := Claim7.holds Tryd.pinned (.plain (OpenSpec.upto hostTellsSpec)) hostTellsUptoCard

/-- THE SECOND FORM's CARD OF 'shiftbellkeep.HostBack'. -/
def hostBackUptoCard : Claim7 := { stood := { row := hostBackUptoRow, standIns := [], harness := (true, "39291f212dab89159acf80c9a2970e273639036577a301f66deb70fa2b9ee759"), looks := false }, kinds := [], alts := [], laidByText := true, laidKinds := [.data, .data, .pinned], laidTests := true, laidLooks := .later }
def HostBackUptoCardSaid : Prop := Claim7.holds Tryd.pinned (.plain (OpenSpec.upto hostBackSpec)) hostBackUptoCard

/-- THE SECOND FORM's CARD OF 'shiftbellkeep.HostFit'. -/
def hostFitUptoCard : Claim7 := { stood := { row := hostFitUptoRow, standIns := [], harness := (true, "39291f212dab89159acf80c9a2970e273639036577a301f66deb70fa2b9ee759"), looks := false }, kinds := [], alts := [], laidByText := true, laidKinds := [.data, .data, .pinned], laidTests := true, laidLooks := .later }
def HostFitUptoCardSaid : Prop := Claim7.holds Tryd.pinned (.plain (OpenSpec.upto hostFitSpec)) hostFitUptoCard

/-- THE SECOND FORM's CARD OF 'shiftbellkeep.HostBest'. -/
def hostBestUptoCard : Claim7 := { stood := { row := hostBestUptoRow, standIns := [], harness := (true, "39291f212dab89159acf80c9a2970e273639036577a301f66deb70fa2b9ee759"), looks := false }, kinds := [], alts := [], laidByText := true, laidKinds := [.data, .data, .pinned], laidTests := true, laidLooks := .later }
def HostBestUptoCardSaid : Prop := Claim7.holds Tryd.pinned (.plain (OpenSpec.upto hostBestSpec)) hostBestUptoCard

/-- THE SECOND FORM's CARD OF 'shiftbellkeep.HostLess'. -/
def hostLessUptoCard : Claim7 := { stood := { row := hostLessUptoRow, standIns := [], harness := (true, "39291f212dab89159acf80c9a2970e273639036577a301f66deb70fa2b9ee759"), looks := false }, kinds := [], alts := [], laidByText := true, laidKinds := [.data, .data, .pinned], laidTests := true, laidLooks := .later }
def HostLessUptoCardSaid : Prop := Claim7.holds Tryd.pinned (.plain (OpenSpec.upto hostLessSpec)) hostLessUptoCard
end Rows
end Go.Proofs.YtelepamnlpebgabDoor
