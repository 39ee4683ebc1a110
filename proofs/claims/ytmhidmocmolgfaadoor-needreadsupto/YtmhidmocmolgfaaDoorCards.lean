/-
  DERIVED. GIVEN WITH THE SEED: THE CARDS: each row of YtmhidmocmolgfaaDoorRows.lean that lists a variable, with what it lists TIED to the program's text (the seventh form; the later family's looks); each row that meets fmt, with fmt's text TOLD by the authors' own Lean function (tested against real Go, not proved from fmt's source: count such statements apart). THE CARD IS WHAT COUNTS. Prove the row's statement (the work); the ties are given (YtmhidmocmolgfaaDoorTie.lean); close each card by the builder's one call (the guide's Derived/Test/ToyasCard.lean, 'card_holds'). Laid BY PROGRAM, IN A SANDBOX (cutbox-door.mjs). By AI agents, Wed Nov 11 2026. No macro, syntax, notation, axiom, sorry.
-/
import Derived.Test.YtmhidmocmolgfaaDoorRows
import GoSem.ClaimSeven
namespace Go.Proofs.YtmhidmocmolgfaaDoor
namespace Rows

/-- THE TIED CARD OF 'shiftbelllaw.NeedReads'. -/
def needReadsCard : Claim7 := { stood := { row := needReadsRow, standIns := [], harness := (true, "c7f53a833a76e9e55f5889ecda3c6a53620e4317deaf067769f0aaa11f6cd57b"), looks := false }, kinds := [], alts := [], laidByText := true, laidKinds := [.data, .data, .data, .data], laidTests := true, laidLooks := .later }
def NeedReadsCardSaid : Prop := Claim7.holds Tryd.pinned (.plain (OpenSpec.ofChange needReadsSpec)) needReadsCard

/-- THE TIED CARD OF 'shiftbellkeep.NeedText'. -/
def needTextCard : Claim7 := { stood := { row := needTextRow, standIns := [], harness := (true, "c7f53a833a76e9e55f5889ecda3c6a53620e4317deaf067769f0aaa11f6cd57b"), looks := false }, kinds := [], alts := [], laidByText := true, laidKinds := [.data, .data, .data, .data], laidTests := true, laidLooks := .later }
def NeedTextCardSaid : Prop := Claim7.holds Tryd.pinned (.plain (OpenSpec.ofChange needTextSpec)) needTextCard

/-- THE TIED CARD OF 'shiftbelllaw.AskTells'. -/
def askTellsCard : Claim7 := { stood := { row := askTellsRow, standIns := [], harness := (true, "c7f53a833a76e9e55f5889ecda3c6a53620e4317deaf067769f0aaa11f6cd57b"), looks := false }, kinds := [], alts := [], laidByText := true, laidKinds := [.data, .data, .data, .data, .data, .pinned], laidTests := true, laidLooks := .later }
def AskTellsCardSaid : Prop := Claim7.holds Tryd.pinned (.plain (OpenSpec.ofChange askTellsSpec)) askTellsCard

/-- THE TIED CARD OF 'shiftbelllaw.AskHolds'. -/
def askHoldsCard : Claim7 := { stood := { row := askHoldsRow, standIns := [], harness := (true, "c7f53a833a76e9e55f5889ecda3c6a53620e4317deaf067769f0aaa11f6cd57b"), looks := false }, kinds := [], alts := [], laidByText := true, laidKinds := [.data, .data, .pinned], laidTests := true, laidLooks := .later }
def AskHoldsCardSaid : Prop := Claim7.holds Tryd.pinned (.plain (OpenSpec.ofChange askHoldsSpec)) askHoldsCard

/-- THE TIED CARD OF 'shiftbellkeep.AskBack'. -/
def askBackCard : Claim7 := { stood := { row := askBackRow, standIns := [], harness := (true, "c7f53a833a76e9e55f5889ecda3c6a53620e4317deaf067769f0aaa11f6cd57b"), looks := false }, kinds := [], alts := [], laidByText := true, laidKinds := [.data, .data, .data, .data, .data, .pinned], laidTests := true, laidLooks := .later }
def AskBackCardSaid : Prop := Claim7.holds Tryd.pinned (.plain (OpenSpec.ofChange askBackSpec)) askBackCard

/-- THE TIED CARD OF 'shiftbellkeep.AskNorm'. -/
def askNormCard : Claim7 := { stood := { row := askNormRow, standIns := [], harness := (true, "c7f53a833a76e9e55f5889ecda3c6a53620e4317deaf067769f0aaa11f6cd57b"), looks := false }, kinds := [], alts := [], laidByText := true, laidKinds := [.data, .data, .data, .data, .data, .pinned], laidTests := true, laidLooks := .later }
def AskNormCardSaid : Prop := Claim7.holds Tryd.pinned (.plain (OpenSpec.ofChange askNormSpec)) askNormCard

/-- THE SECOND FORM's CARD OF 'shiftbelllaw.NeedReads'. -/
def needReadsUptoCard : Claim7 := { stood := { row := needReadsUptoRow, standIns := [], harness := (true, "c7f53a833a76e9e55f5889ecda3c6a53620e4317deaf067769f0aaa11f6cd57b"), looks := false }, kinds := [], alts := [], laidByText := true, laidKinds := [.data, .data, .data, .data], laidTests := true, laidLooks := .later }
def NeedReadsUptoCardSaid : Prop := Claim7.holds Tryd.pinned (.plain (OpenSpec.upto needReadsSpec)) needReadsUptoCard

/-- THE SECOND FORM's CARD OF 'shiftbellkeep.NeedText'. -/
def needTextUptoCard : Claim7 := { stood := { row := needTextUptoRow, standIns := [], harness := (true, "c7f53a833a76e9e55f5889ecda3c6a53620e4317deaf067769f0aaa11f6cd57b"), looks := false }, kinds := [], alts := [], laidByText := true, laidKinds := [.data, .data, .data, .data], laidTests := true, laidLooks := .later }
def NeedTextUptoCardSaid : Prop := Claim7.holds Tryd.pinned (.plain (OpenSpec.upto needTextSpec)) needTextUptoCard

/-- THE SECOND FORM's CARD OF 'shiftbelllaw.AskTells'. -/
def askTellsUptoCard : Claim7 := { stood := { row := askTellsUptoRow, standIns := [], harness := (true, "c7f53a833a76e9e55f5889ecda3c6a53620e4317deaf067769f0aaa11f6cd57b"), looks := false }, kinds := [], alts := [], laidByText := true, laidKinds := [.data, .data, .data, .data, .data, .pinned], laidTests := true, laidLooks := .later }
def AskTellsUptoCardSaid : Prop := Claim7.holds Tryd.pinned (.plain (OpenSpec.upto askTellsSpec)) askTellsUptoCard

/-- THE SECOND FORM's CARD OF 'shiftbelllaw.AskHolds'. -/
def askHoldsUptoCard : Claim7 := { stood := { row := askHoldsUptoRow, standIns := [], harness := (true, "c7f53a833a76e9e55f5889ecda3c6a53620e4317deaf067769f0aaa11f6cd57b"), looks := false }, kinds := [], alts := [], laidByText := true, laidKinds := [.data, .data, .pinned], laidTests := true, laidLooks := .later }
def AskHoldsUptoCardSaid : Prop := Claim7.holds Tryd.pinned (.plain (OpenSpec.upto askHoldsSpec)) askHoldsUptoCard

/-- THE SECOND FORM's CARD OF 'shiftbellkeep.AskBack'. -/
def askBackUptoCard : Claim7 := { stood := { row := askBackUptoRow, standIns := [], harness := (true, "c7f53a833a76e9e55f5889ecda3c6a53620e4317deaf067769f0aaa11f6cd57b"), looks := false }, kinds := [], alts := [], laidByText := true, laidKinds := [.data, .data, .data, .data, .data, .pinned], laidTests := true, laidLooks := .later }
def AskBackUptoCardSaid : Prop := Claim7.holds Tryd.pinned (.plain (OpenSpec.upto askBackSpec)) askBackUptoCard

/-- THE SECOND FORM's CARD OF 'shiftbellkeep.AskNorm'. -/
def askNormUptoCard : Claim7 := { stood := { row := askNormUptoRow, standIns := [], harness := (true, "c7f53a833a76e9e55f5889ecda3c6a53620e4317deaf067769f0aaa11f6cd57b"), looks := false }, kinds := [], alts := [], laidByText := true, laidKinds := [.data, .data, .data, .data, .data, .pinned], laidTests := true, laidLooks := .later }
def AskNormUptoCardSaid : Prop := Claim7.holds Tryd.pinned (.plain (OpenSpec.upto askNormSpec)) askNormUptoCard
end Rows
end Go.Proofs.YtmhidmocmolgfaaDoor
