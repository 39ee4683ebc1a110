/-
  DERIVED. GIVEN WITH THE SEED: THE CARDS: each row of YtelepamnlpebgaaDoorRows.lean that lists a variable, with what it lists TIED to the program's text (the seventh form; the later family's looks); each row that meets fmt, with fmt's text TOLD by the authors' own Lean function (tested against real Go, not proved from fmt's source: count such statements apart). THE CARD IS WHAT COUNTS. Prove the row's statement (the work); the ties are given (YtelepamnlpebgaaDoorTie.lean); close each card by the builder's one call (the guide's Derived/Test/ToyasCard.lean, 'card_holds'). Laid BY PROGRAM, IN A SANDBOX (cutbox-door.mjs). By AI agents, Wed Nov 11 2026. No macro, syntax, notation, axiom, sorry.
-/
import Derived.Test.YtelepamnlpebgaaDoorRows
import GoSem.ClaimSeven
namespace Go.Proofs.YtelepamnlpebgaaDoor
namespace Rows

/-- THE TIED CARD OF 'shiftbelllaw.AskTells'. -/
def askTellsCard : Claim7 := { stood := { row := askTellsRow, standIns := [], harness := (true, "7a5fb256047557e15e9534f035ca52872def98c5b9bee97346d9f3736412e457"), looks := false }, kinds := [], alts := [], laidByText := true, laidKinds := [.data, .data, .data, .data, .data, .pinned], laidTests := true, laidLooks := .later }
def AskTellsCardSaid : Prop := Claim7.holds Tryd.pinned (.plain (OpenSpec.ofChange askTellsSpec)) askTellsCard

/-- THE TIED CARD OF 'shiftbelllaw.AskHolds'. -/
def askHoldsCard : Claim7 := { stood := { row := askHoldsRow, standIns := [], harness := (true, "7a5fb256047557e15e9534f035ca52872def98c5b9bee97346d9f3736412e457"), looks := false }, kinds := [], alts := [], laidByText := true, laidKinds := [.data, .data, .pinned], laidTests := true, laidLooks := .later }
def AskHoldsCardSaid : Prop := Claim7.holds Tryd.pinned (.plain (OpenSpec.ofChange askHoldsSpec)) askHoldsCard

/-- THE TIED CARD OF 'shiftbellkeep.AskBack'. -/
def askBackCard : Claim7 := { stood := { row := askBackRow, standIns := [], harness := (true, "7a5fb256047557e15e9534f035ca52872def98c5b9bee97346d9f3736412e457"), looks := false }, kinds := [], alts := [], laidByText := true, laidKinds := [.data, .data, .data, .data, .data, .pinned], laidTests := true, laidLooks := .later }
def AskBackCardSaid : Prop := Claim7.holds Tryd.pinned (.plain (OpenSpec.ofChange askBackSpec)) askBackCard

/-- THE TIED CARD OF 'shiftbellkeep.AskNorm'. -/
def askNormCard : Claim7 := { stood := { row := askNormRow, standIns := [], harness := (true, "7a5fb256047557e15e9534f035ca52872def98c5b9bee97346d9f3736412e457"), looks := false }, kinds := [], alts := [], laidByText := true, laidKinds := [.data, .data, .data, .data, .data, .pinned], laidTests := true, laidLooks := .later }
def AskNormCardSaid : Prop := Claim7.holds Tryd.pinned (.plain (OpenSpec.ofChange askNormSpec)) askNormCard

/-- THE TIED CARD OF 'shiftbellkeep.AskAlike'. -/
def askAlikeCard : Claim7 := { stood := { row := askAlikeRow, standIns := [], harness := (true, "7a5fb256047557e15e9534f035ca52872def98c5b9bee97346d9f3736412e457"), looks := false }, kinds := [], alts := [], laidByText := true, laidKinds := [.data, .data, .data, .data, .data, .pinned], laidTests := true, laidLooks := .later }
def AskAlikeCardSaid : Prop := Claim7.holds Tryd.pinned (.plain (OpenSpec.ofChange askAlikeSpec)) askAlikeCard

/-- THE TIED CARD OF 'shiftbellkeep.AskAnd'. -/
def askAndCard : Claim7 := { stood := { row := askAndRow, standIns := [], harness := (true, "7a5fb256047557e15e9534f035ca52872def98c5b9bee97346d9f3736412e457"), looks := false }, kinds := [], alts := [], laidByText := true, laidKinds := [.data, .data, .data, .data, .data, .pinned], laidTests := true, laidLooks := .later }
def AskAndCardSaid : Prop := Claim7.holds Tryd.pinned (.plain (OpenSpec.ofChange askAndSpec)) askAndCard

/-- THE SECOND FORM's CARD OF 'shiftbelllaw.AskTells'. -/
def askTellsUptoCard : Claim7 := { stood := { row := askTellsUptoRow, standIns := [], harness := (true, "7a5fb256047557e15e9534f035ca52872def98c5b9bee97346d9f3736412e457"), looks := false }, kinds := [], alts := [], laidByText := true, laidKinds := [.data, .data, .data, .data, .data, .pinned], laidTests := true, laidLooks := .later }
def AskTellsUptoCardSaid : Prop := Claim7.holds Tryd.pinned (.plain (OpenSpec.upto askTellsSpec)) askTellsUptoCard

/-- THE SECOND FORM's CARD OF 'shiftbelllaw.AskHolds'. -/
def askHoldsUptoCard : Claim7 := { stood := { row := askHoldsUptoRow, standIns := [], harness := (true, "7a5fb256047557e15e9534f035ca52872def98c5b9bee97346d9f3736412e457"), looks := false }, kinds := [], alts := [], laidByText := true, laidKinds := [.data, .data, .pinned], laidTests := true, laidLooks := .later }
def AskHoldsUptoCardSaid : Prop := Claim7.holds Tryd.pinned (.plain (OpenSpec.upto askHoldsSpec)) askHoldsUptoCard

/-- THE SECOND FORM's CARD OF 'shiftbellkeep.AskBack'. -/
def askBackUptoCard : Claim7 := { stood := { row := askBackUptoRow, standIns := [], harness := (true, "7a5fb256047557e15e9534f035ca52872def98c5b9bee97346d9f3736412e457"), looks := false }, kinds := [], alts := [], laidByText := true, laidKinds := [.data, .data, .data, .data, .data, .pinned], laidTests := true, laidLooks := .later }
def AskBackUptoCardSaid : Prop := Claim7.holds Tryd.pinned (.plain (OpenSpec.upto askBackSpec)) askBackUptoCard

/-- THE SECOND FORM's CARD OF 'shiftbellkeep.AskNorm'. -/
def askNormUptoCard : Claim7 := { stood := { row := askNormUptoRow, standIns := [], harness := (true, "7a5fb256047557e15e9534f035ca52872def98c5b9bee97346d9f3736412e457"), looks := false }, kinds := [], alts := [], laidByText := true, laidKinds := [.data, .data, .data, .data, .data, .pinned], laidTests := true, laidLooks := .later }
def AskNormUptoCardSaid : Prop := Claim7.holds Tryd.pinned (.plain (OpenSpec.upto askNormSpec)) askNormUptoCard

/-- THE SECOND FORM's CARD OF 'shiftbellkeep.AskAlike'. -/
def askAlikeUptoCard : Claim7 := { stood := { row := askAlikeUptoRow, standIns := [], harness := (true, "7a5fb256047557e15e9534f035ca52872def98c5b9bee97346d9f3736412e457"), looks := false }, kinds := [], alts := [], laidByText := true, laidKinds := [.data, .data, .data, .data, .data, .pinned], laidTests := true, laidLooks := .later }
def AskAlikeUptoCardSaid : Prop := Claim7.holds Tryd.pinned (.plain (OpenSpec.upto askAlikeSpec)) askAlikeUptoCard

/-- THE SECOND FORM's CARD OF 'shiftbellkeep.AskAnd'. -/
def askAndUptoCard : Claim7 := { stood := { row := askAndUptoRow, standIns := [], harness := (true, "7a5fb256047557e15e9534f035ca52872def98c5b9bee97346d9f3736412e457"), looks := false }, kinds := [], alts := [], laidByText := true, laidKinds := [.data, .data, .data, .data, .data, .pinned], laidTests := true, laidLooks := .later }
def AskAndUptoCardSaid : Prop := Claim7.holds Tryd.pinned (.plain (OpenSpec.upto askAndSpec)) askAndUptoCard
end Rows
end Go.Proofs.YtelepamnlpebgaaDoor
