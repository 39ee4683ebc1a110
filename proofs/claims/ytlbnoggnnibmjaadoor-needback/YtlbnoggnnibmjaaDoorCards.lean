/-
  DERIVED. GIVEN WITH THE SEED: THE CARDS: each row of YtlbnoggnnibmjaaDoorRows.lean that lists a variable, with what it lists TIED to the program's text (the seventh form; the later family's looks); each row that meets fmt, with fmt's text TOLD by the authors' own Lean function (tested against real Go, not proved from fmt's source: count such statements apart). THE CARD IS WHAT COUNTS. Prove the row's statement (the work); the ties are given (YtlbnoggnnibmjaaDoorTie.lean); close each card by the builder's one call (the guide's Derived/Test/ToyasCard.lean, 'card_holds'). Laid BY PROGRAM, IN A SANDBOX (cutbox-door.mjs). By AI agents, Wed Nov 11 2026. No macro, syntax, notation, axiom, sorry.
-/
import Derived.Test.YtlbnoggnnibmjaaDoorRows
import GoSem.ClaimSeven
namespace Go.Proofs.YtlbnoggnnibmjaaDoor
namespace Rows

/-- THE TIED CARD OF 'shiftbelllaw.NeedReads'. -/
def needReadsCard : Claim7 := { stood := { row := needReadsRow, standIns := [], harness := (true, "e15df6241174c37ae7c2a1379f37545ee26babb63d5a4eb248177884248effa5"), looks := false }, kinds := [], alts := [], laidByText := true, laidKinds := [.data, .data, .data, .data], laidTests := true, laidLooks := .later }
def NeedReadsCardSaid : Prop := Claim7.holds Tryd.pinned (.plain (OpenSpec.ofChange needReadsSpec)) needReadsCard

/-- THE TIED CARD OF 'shiftbellkeep.NeedSums'. -/
def needSumsCard : Claim7 := { stood := { row := needSumsRow, standIns := [], harness := (true, "e15df6241174c37ae7c2a1379f37545ee26babb63d5a4eb248177884248effa5"), looks := false }, kinds := [], alts := [], laidByText := true, laidKinds := [.data, .data, .data, .data], laidTests := true, laidLooks := .later }
def NeedSumsCardSaid : Prop := Claim7.holds Tryd.pinned (.plain (OpenSpec.ofChange needSumsSpec)) needSumsCard

/-- THE TIED CARD OF 'shiftbellkeep.NeedBack'. -/
def needBackCard : Claim7 := { stood := { row := needBackRow, standIns := [], harness := (true, "e15df6241174c37ae7c2a1379f37545ee26babb63d5a4eb248177884248effa5"), looks := false }, kinds := [], alts := [], laidByText := true, laidKinds := [.data, .data, .data, .data], laidTests := true, laidLooks := .later }
def NeedBackCardSaid : Prop := Claim7.holds Tryd.pinned (.plain (OpenSpec.ofChange needBackSpec)) needBackCard

/-- THE TIED CARD OF 'shiftbellkeep.NeedOrder'. -/
def needOrderCard : Claim7 := { stood := { row := needOrderRow, standIns := [], harness := (true, "e15df6241174c37ae7c2a1379f37545ee26babb63d5a4eb248177884248effa5"), looks := false }, kinds := [], alts := [], laidByText := true, laidKinds := [.data, .data, .data, .data], laidTests := true, laidLooks := .later }
def NeedOrderCardSaid : Prop := Claim7.holds Tryd.pinned (.plain (OpenSpec.ofChange needOrderSpec)) needOrderCard

/-- THE TIED CARD OF 'shiftbellkeep.NeedText'. -/
def needTextCard : Claim7 := { stood := { row := needTextRow, standIns := [], harness := (true, "e15df6241174c37ae7c2a1379f37545ee26babb63d5a4eb248177884248effa5"), looks := false }, kinds := [], alts := [], laidByText := true, laidKinds := [.data, .data, .data, .data], laidTests := true, laidLooks := .later }
def NeedTextCardSaid : Prop := Claim7.holds Tryd.pinned (.plain (OpenSpec.ofChange needTextSpec)) needTextCard

/-- THE SECOND FORM's CARD OF 'shiftbelllaw.NeedReads'. -/
def needReadsUptoCard : Claim7 := { stood := { row := needReadsUptoRow, standIns := [], harness := (true, "e15df6241174c37ae7c2a1379f37545ee26babb63d5a4eb248177884248effa5"), looks := false }, kinds := [], alts := [], laidByText := true, laidKinds := [.data, .data, .data, .data], laidTests := true, laidLooks := .later }
def NeedReadsUptoCardSaid : Prop := Claim7.holds Tryd.pinned (.plain (OpenSpec.upto needReadsSpec)) needReadsUptoCard

/-- THE SECOND FORM's CARD OF 'shiftbellkeep.NeedSums'. -/
def needSumsUptoCard : Claim7 := { stood := { row := needSumsUptoRow, standIns := [], harness := (true, "e15df6241174c37ae7c2a1379f37545ee26babb63d5a4eb248177884248effa5"), looks := false }, kinds := [], alts := [], laidByText := true, laidKinds := [.data, .data, .data, .data], laidTests := true, laidLooks := .later }
def NeedSumsUptoCardSaid : Prop := Claim7.holds Tryd.pinned (.plain (OpenSpec.upto needSumsSpec)) needSumsUptoCard

/-- THE SECOND FORM's CARD OF 'shiftbellkeep.NeedBack'. -/
def needBackUptoCard : Claim7 := { stood := { row := needBackUptoRow, standIns := [], harness := (true, "e15df6241174c37ae7c2a1379f37545ee26babb63d5a4eb248177884248effa5"), looks := false }, kinds := [], alts := [], laidByText := true, laidKinds := [.data, .data, .data, .data], laidTests := true, laidLooks := .later }
def NeedBackUptoCardSaid : Prop := Claim7.holds Tryd.pinned (.plain (OpenSpec.upto needBackSpec)) needBackUptoCard

/-- THE SECOND FORM's CARD OF 'shiftbellkeep.NeedOrder'. -/
def needOrderUptoCard : Claim7 := { stood := { row := needOrderUptoRow, standIns := [], harness := (true, "e15df6241174c37ae7c2a1379f37545ee26babb63d5a4eb248177884248effa5"), looks := false }, kinds := [], alts := [], laidByText := true, laidKinds := [.data, .data, .data, .data], laidTests := true, laidLooks := .later }
def NeedOrderUptoCardSaid : Prop := Claim7.holds Tryd.pinned (.plain (OpenSpec.upto needOrderSpec)) needOrderUptoCard

/-- THE SECOND FORM's CARD OF 'shiftbellkeep.NeedText'. -/
def needTextUptoCard : Claim7 := { stood := { row := needTextUptoRow, standIns := [], harness := (true, "e15df6241174c37ae7c2a1379f37545ee26babb63d5a4eb248177884248effa5"), looks := false }, kinds := [], alts := [], laidByText := true, laidKinds := [.data, .data, .data, .data], laidTests := true, laidLooks := .later }
def NeedTextUptoCardSaid : Prop := Claim7.holds Tryd.pinned (.plain (OpenSpec.upto needTextSpec)) needTextUptoCard
end Rows
end Go.Proofs.YtlbnoggnnibmjaaDoor
