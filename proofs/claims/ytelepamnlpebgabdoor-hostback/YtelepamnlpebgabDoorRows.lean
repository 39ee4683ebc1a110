/-
  NARROWER THAN 'FOR EVERY INPUT', by the rows' own cells (each row's printed sentence says how): HostTells: loops, laid · HostBack: laid · HostFit: loops, laid · HostBest: loops, laid · HostLess: loops, laid.
  DERIVED. THE GIVEN ROWS OF THIS SEAT. 5 by the template 'for every input the law returns true; each argument reads behind the call as it read before'; 0 by the template 'total and deterministic' (their statements: YtelepamnlpebgabDoorTotals.lean).
  GIVEN WITH THE SEED: the statements are not yours to turn. If you find one false, say at which input.
  Laid BY PROGRAM, IN A SANDBOX (cutbox-rows.mjs): the forced cells as the released guide's own fill.sh prints them over the translation 03db1c7a9729862e… (all of the seat's roots in one cut). By AI agents, Wed Nov 11 2026. No macro, syntax, notation, axiom, sorry.
-/
import Derived.Test.YtelepamnlpebgabDoorChecked
import GoSem.PinnedTables
import GoSem.Claim
import GoSem.ClaimJoined
import GoSem.ClaimMapViews
import Derived.JoinedTies
import Derived.KernelRfl
namespace Go.Proofs.YtelepamnlpebgabDoor
/- THE CELL 'sum', in the pinned program and in every row, IS THE sha256 OF THE DUMP (.gsa) THAT YtelepamnlpebgabDoorProg.lean LOADS. Nothing in Lean hashes anything: it is a label: what it is worth is what the hold of that sum in a sandbox is worth. -/
noncomputable def Tryd.pinned : Pinned := { name := "ytelepamnlpebgabdoor", sum := "03db1c7a9729862e2e9ba6766f9aaf8baf2777602852956701fd2836eaedae31", checked := Tryd.checked }
namespace Rows
def none {H : Type} : Left H := { results := [], args := [] }

/- WHAT THE LISTED PACKAGE-LEVEL VARIABLES READ AS WHEN THE CALL BEGINS. Each datum BY PROGRAM (the guide's laid-datum.mjs) off the statement by which the dump's own 'gosem.cut.vars' lays the variable. In a bare row this is a premise. The card (YtelepamnlpebgabDoorCards.lean) ties it to the program's text. -/
def laid_unicode_utf8_acceptRanges {H : Type} : DataW H := .agg [.agg [.lit (.int .u8 128), .lit (.int .u8 191)], .agg [.lit (.int .u8 160), .lit (.int .u8 191)], .agg [.lit (.int .u8 128), .lit (.int .u8 159)], .agg [.lit (.int .u8 144), .lit (.int .u8 191)], .agg [.lit (.int .u8 128), .lit (.int .u8 143)], .agg [.lit (.int .u8 0), .lit (.int .u8 0)], .agg [.lit (.int .u8 0), .lit (.int .u8 0)], .agg [.lit (.int .u8 0), .lit (.int .u8 0)], .agg [.lit (.int .u8 0), .lit (.int .u8 0)], .agg [.lit (.int .u8 0), .lit (.int .u8 0)], .agg [.lit (.int .u8 0), .lit (.int .u8 0)], .agg [.lit (.int .u8 0), .lit (.int .u8 0)], .agg [.lit (.int .u8 0), .lit (.int .u8 0)], .agg [.lit (.int .u8 0), .lit (.int .u8 0)], .agg [.lit (.int .u8 0), .lit (.int .u8 0)], .agg [.lit (.int .u8 0), .lit (.int .u8 0)]]
def laid_shiftbell_need_names {H : Type} : DataW H := .agg [.lit (.string [99, 112, 117]), .lit (.string [109, 101, 109]), .lit (.string [103, 112, 117])]
/-- One of Go's own tables, pinned by name: the form's constant. -/
def laid_unicode_utf8_first : DataW Unit := Go.Pinned.utf8First

/-- 'shiftbelllaw.HostTells': WHATEVER THE INPUT: true; the input reads as it did. -/
def hostTellsSpec : ChangeSpec := { name := "hostTells", fn := fun _ => fun
  | [d1, d2, d3, d4, d5] => { results := [.lit (.bool true)], args := [d1, d2, d3, d4, d5] }
  | _ => none }
def hostTellsRow : OpenClaim := { program := "ytelepamnlpebgabdoor", sum := "03db1c7a9729862e2e9ba6766f9aaf8baf2777602852956701fd2836eaedae31", func := "shiftbell/shiftbelllaw.HostTells", spec := "hostTells", inPlace := ["internal/bytealg.IndexByteString", "internal/bytealg.IndexString"], unfollowed := true, recurses := true, named := ["unicode/utf8.first", "unicode/utf8.acceptRanges", "internal/bytealg.MaxLen", "shiftbell/need.names"], loops := true, apart := false, laid := [("unicode/utf8.acceptRanges", laid_unicode_utf8_acceptRanges), ("shiftbell/need.names", laid_shiftbell_need_names), ("unicode/utf8.first", laid_unicode_utf8_first)] }
def HostTellsSaid : Prop := hostTellsRow.holds Tryd.pinned (OpenSpec.ofChange hostTellsSpec)

/-- ITS FALSE NEIGHBOUR: 'it returns false'. Refute it at one input. -/
def hostTellsWrong : ChangeSpec := { name := "hostTells", fn := fun _ => fun
  | [d1, d2, d3, d4, d5] => { results := [.lit (.bool false)], args := [d1, d2, d3, d4, d5] }
  | _ => none }
def HostTellsWrongFalsely : Prop := hostTellsRow.holds Tryd.pinned (OpenSpec.ofChange hostTellsWrong)

/-- 'shiftbellkeep.HostBack': WHATEVER THE INPUT: true; the input reads as it did. -/
def hostBackSpec : ChangeSpec := { name := "hostBack", fn := fun _ => fun
  | [d1, d2, d3] => { results := [.lit (.bool true)], args := [d1, d2, d3] }
  | _ => none }
def hostBackRow : OpenClaim := { program := "ytelepamnlpebgabdoor", sum := "03db1c7a9729862e2e9ba6766f9aaf8baf2777602852956701fd2836eaedae31", func := "shiftbell/shiftbellkeep.HostBack", spec := "hostBack", inPlace := ["internal/bytealg.IndexByteString", "internal/bytealg.IndexString"], unfollowed := true, recurses := true, named := ["unicode/utf8.first", "unicode/utf8.acceptRanges", "internal/bytealg.MaxLen", "shiftbell/need.names"], apart := false, laid := [("unicode/utf8.acceptRanges", laid_unicode_utf8_acceptRanges), ("shiftbell/need.names", laid_shiftbell_need_names), ("unicode/utf8.first", laid_unicode_utf8_first)] }
def HostBackSaid : Prop := hostBackRow.holds Tryd.pinned (OpenSpec.ofChange hostBackSpec)

/-- ITS FALSE NEIGHBOUR: 'it returns false'. Refute it at one input. -/
def hostBackWrong : ChangeSpec := { name := "hostBack", fn := fun _ => fun
  | [d1, d2, d3] => { results := [.lit (.bool false)], args := [d1, d2, d3] }
  | _ => none }
def HostBackWrongFalsely : Prop := hostBackRow.holds Tryd.pinned (OpenSpec.ofChange hostBackWrong)

/-- 'shiftbellkeep.HostFit': WHATEVER THE INPUT: true; the input reads as it did. -/
def hostFitSpec : ChangeSpec := { name := "hostFit", fn := fun _ => fun
  | [d1, d2, d3, d4] => { results := [.lit (.bool true)], args := [d1, d2, d3, d4] }
  | _ => none }
def hostFitRow : OpenClaim := { program := "ytelepamnlpebgabdoor", sum := "03db1c7a9729862e2e9ba6766f9aaf8baf2777602852956701fd2836eaedae31", func := "shiftbell/shiftbellkeep.HostFit", spec := "hostFit", inPlace := ["internal/bytealg.IndexByteString", "internal/bytealg.IndexString"], unfollowed := true, recurses := true, named := ["unicode/utf8.first", "unicode/utf8.acceptRanges", "internal/bytealg.MaxLen", "shiftbell/need.names"], loops := true, apart := false, laid := [("unicode/utf8.acceptRanges", laid_unicode_utf8_acceptRanges), ("shiftbell/need.names", laid_shiftbell_need_names), ("unicode/utf8.first", laid_unicode_utf8_first)] }
def HostFitSaid : Prop := hostFitRow.holds Tryd.pinned (OpenSpec.ofChange hostFitSpec)

/-- ITS FALSE NEIGHBOUR: 'it returns false'. Refute it at one input. -/
def hostFitWrong : ChangeSpec := { name := "hostFit", fn := fun _ => fun
  | [d1, d2, d3, d4] => { results := [.lit (.bool false)], args := [d1, d2, d3, d4] }
  | _ => none }
def HostFitWrongFalsely : Prop := hostFitRow.holds Tryd.pinned (OpenSpec.ofChange hostFitWrong)

/-- 'shiftbellkeep.HostBest': WHATEVER THE INPUT: true; the input reads as it did. -/
def hostBestSpec : ChangeSpec := { name := "hostBest", fn := fun _ => fun
  | [d1, d2, d3, d4] => { results := [.lit (.bool true)], args := [d1, d2, d3, d4] }
  | _ => none }
def hostBestRow : OpenClaim := { program := "ytelepamnlpebgabdoor", sum := "03db1c7a9729862e2e9ba6766f9aaf8baf2777602852956701fd2836eaedae31", func := "shiftbell/shiftbellkeep.HostBest", spec := "hostBest", inPlace := ["internal/bytealg.IndexByteString", "internal/bytealg.IndexString"], unfollowed := true, recurses := true, named := ["unicode/utf8.first", "unicode/utf8.acceptRanges", "internal/bytealg.MaxLen", "shiftbell/need.names"], loops := true, apart := false, laid := [("unicode/utf8.acceptRanges", laid_unicode_utf8_acceptRanges), ("shiftbell/need.names", laid_shiftbell_need_names), ("unicode/utf8.first", laid_unicode_utf8_first)] }
def HostBestSaid : Prop := hostBestRow.holds Tryd.pinned (OpenSpec.ofChange hostBestSpec)

/-- ITS FALSE NEIGHBOUR: 'it returns false'. Refute it at one input. -/
def hostBestWrong : ChangeSpec := { name := "hostBest", fn := fun _ => fun
  | [d1, d2, d3, d4] => { results := [.lit (.bool false)], args := [d1, d2, d3, d4] }
  | _ => none }
def HostBestWrongFalsely : Prop := hostBestRow.holds Tryd.pinned (OpenSpec.ofChange hostBestWrong)

/-- 'shiftbellkeep.HostLess': WHATEVER THE INPUT: true; the input reads as it did. -/
def hostLessSpec : ChangeSpec := { name := "hostLess", fn := fun _ => fun
  | [d1, d2, d3, d4] => { results := [.lit (.bool true)], args := [d1, d2, d3, d4] }
  | _ => none }
def hostLessRow : OpenClaim := { program := "ytelepamnlpebgabdoor", sum := "03db1c7a9729862e2e9ba6766f9aaf8baf2777602852956701fd2836eaedae31", func := "shiftbell/shiftbellkeep.HostLess", spec := "hostLess", inPlace := ["internal/bytealg.IndexByteString", "internal/bytealg.IndexString"], unfollowed := true, recurses := true, named := ["unicode/utf8.first", "unicode/utf8.acceptRanges", "internal/bytealg.MaxLen", "shiftbell/need.names"], loops := true, apart := false, laid := [("unicode/utf8.acceptRanges", laid_unicode_utf8_acceptRanges), ("shiftbell/need.names", laid_shiftbell_need_names), ("unicode/utf8.first", laid_unicode_utf8_first)] }
def HostLessSaid : Prop := hostLessRow.holds Tryd.pinned (OpenSpec.ofChange hostLessSpec)

/-- ITS FALSE NEIGHBOUR: 'it returns false'. Refute it at one input. -/
def hostLessWrong : ChangeSpec := { name := "hostLess", fn := fun _ => fun
  | [d1, d2, d3, d4] => { results := [.lit (.bool false)], args := [d1, d2, d3, d4] }
  | _ => none }
def HostLessWrongFalsely : Prop := hostLessRow.holds Tryd.pinned (OpenSpec.ofChange hostLessWrong)

/- THE SECOND FORM. 'bulk': how many values and letters a reading holds, each counted each time it is reached (what is shared counts as often as it is met; a slice's spare places count too). A statement '..UptoSaid' is the law's where the arguments, and the package variables that the reading takes, are together of bulk at most 1048576: NARROWER than '..Said'. Prove '..Said' where nothing that the law and all that it calls make is longer than what came in: it says more and counts as full. Else prove '..UptoSaid'. A law counts once. -/
mutual
def uptoBulk {H : Type} : DataW H → Nat
  | .lit (.string bytes) => bytes.length + 1
  | .lit _ => 1
  | .nil => 1
  | .ptr d => uptoBulk d + 1
  | .slice elems spare => uptoBulkAll elems + uptoBulkAll spare + 1
  | .agg parts => uptoBulkAll parts + 1
  | .iface _ d => uptoBulk d + 1
  | .map entries => uptoBulkEntries entries + 1
  | .held _ => 1
def uptoBulkAll {H : Type} : List (DataW H) → Nat
  | [] => 0
  | d :: r => uptoBulk d + uptoBulkAll r
def uptoBulkEntries {H : Type} : List (Lit × DataW H) → Nat
  | [] => 0
  | x :: r => uptoBulkEntry x + uptoBulkEntries r
def uptoBulkEntry {H : Type} : Lit × DataW H → Nat
  | (.string bytes, d) => bytes.length + uptoBulk d + 1
  | (_, d) => uptoBulk d + 1
 end
def uptoSmall : (H : Type) → List (DataW H) → Bool := fun _ ds => decide (uptoBulkAll ds ≤ 1048576)
def OpenSpec.upto (s : _root_.Go.ChangeSpec) : _root_.Go.OpenSpec := { _root_.Go.OpenSpec.ofChange s with cond := some uptoSmall }

/-- 'shiftbelllaw.HostTells', WHERE WHAT IT READS IS OF BULK AT MOST 1048576: true; the input reads as it did. -/
def hostTellsUptoRow : OpenClaim := { program := "ytelepamnlpebgabdoor", sum := "03db1c7a9729862e2e9ba6766f9aaf8baf2777602852956701fd2836eaedae31", func := "shiftbell/shiftbelllaw.HostTells", spec := "hostTells", inPlace := ["internal/bytealg.IndexByteString", "internal/bytealg.IndexString"], unfollowed := true, recurses := true, named := ["unicode/utf8.first", "unicode/utf8.acceptRanges", "internal/bytealg.MaxLen", "shiftbell/need.names"], loops := true, apart := false, laid := [("unicode/utf8.acceptRanges", laid_unicode_utf8_acceptRanges), ("shiftbell/need.names", laid_shiftbell_need_names), ("unicode/utf8.first", laid_unicode_utf8_first)], narrowed := true }
def HostTellsUptoSaid : Prop := hostTellsUptoRow.holds Tryd.pinned (OpenSpec.upto hostTellsSpec)

/-- 'shiftbellkeep.HostBack', WHERE WHAT IT READS IS OF BULK AT MOST 1048576: true; the input reads as it did. -/
def hostBackUptoRow : OpenClaim := { program := "ytelepamnlpebgabdoor", sum := "03db1c7a9729862e2e9ba6766f9aaf8baf2777602852956701fd2836eaedae31", func := "shiftbell/shiftbellkeep.HostBack", spec := "hostBack", inPlace := ["internal/bytealg.IndexByteString", "internal/bytealg.IndexString"], unfollowed := true, recurses := true, named := ["unicode/utf8.first", "unicode/utf8.acceptRanges", "internal/bytealg.MaxLen", "shiftbell/need.names"], apart := false, laid := [("unicode/utf8.acceptRanges", laid_unicode_utf8_acceptRanges), ("shiftbell/need.names", laid_shiftbell_need_names), ("unicode/utf8.first", laid_unicode_utf8_first)], narrowed := true }
def HostBackUptoSaid : Prop := hostBackUptoRow.holds Tryd.pinned (OpenSpec.upto hostBackSpec)

/-- 'shiftbellkeep.HostFit', WHERE WHAT IT READS IS OF BULK AT MOST 1048576: true; the input reads as it did. -/
def hostFitUptoRow : OpenClaim := { program := "ytelepamnlpebgabdoor", sum := "03db1c7a9729862e2e9ba6766f9aaf8baf2777602852956701fd2836eaedae31", func := "shiftbell/shiftbellkeep.HostFit", spec := "hostFit", inPlace := ["internal/bytealg.IndexByteString", "internal/bytealg.IndexString"], unfollowed := true, recurses := true, named := ["unicode/utf8.first", "unicode/utf8.acceptRanges", "internal/bytealg.MaxLen", "shiftbell/need.names"], loops := true, apart := false, laid := [("unicode/utf8.acceptRanges", laid_unicode_utf8_acceptRanges), ("shiftbell/need.names", laid_shiftbell_need_names), ("unicode/utf8.first", laid_unicode_utf8_first)], narrowed := true }
def HostFitUptoSaid : Prop := hostFitUptoRow.holds Tryd.pinned (OpenSpec.upto hostFitSpec)

/-- 'shiftbellkeep.HostBest', WHERE WHAT IT READS IS OF BULK AT MOST 1048576: true; the input reads as it did. -/
def hostBestUptoRow : OpenClaim := { program := "ytelepamnlpebgabdoor", sum := "03db1c7a9729862e2e9ba6766f9aaf8baf2777602852956701fd2836eaedae31", func := "shiftbell/shiftbellkeep.HostBest", spec := "hostBest", inPlace := ["internal/bytealg.IndexByteString", "internal/bytealg.IndexString"], unfollowed := true, recurses := true, named := ["unicode/utf8.first", "unicode/utf8.acceptRanges", "internal/bytealg.MaxLen", "shiftbell/need.names"], loops := true, apart := false, laid := [("unicode/utf8.acceptRanges", laid_unicode_utf8_acceptRanges), ("shiftbell/need.names", laid_shiftbell_need_names), ("unicode/utf8.first", laid_unicode_utf8_first)], narrowed := true }
def HostBestUptoSaid : Prop := hostBestUptoRow.holds Tryd.pinned (OpenSpec.upto hostBestSpec)

/-- 'shiftbellkeep.HostLess', WHERE WHAT IT READS IS OF BULK AT MOST 1048576: true; the input reads as it did. -/
def hostLessUptoRow : OpenClaim := { program := "ytelepamnlpebgabdoor", sum := "03db1c7a9729862e2e9ba6766f9aaf8baf2777602852956701fd2836eaedae31", func := "shiftbell/shiftbellkeep.HostLess", spec := "hostLess", inPlace := ["internal/bytealg.IndexByteString", "internal/bytealg.IndexString"], unfollowed := true, recurses := true, named := ["unicode/utf8.first", "unicode/utf8.acceptRanges", "internal/bytealg.MaxLen", "shiftbell/need.names"], loops := true, apart := false, laid := [("unicode/utf8.acceptRanges", laid_unicode_utf8_acceptRanges), ("shiftbell/need.names", laid_shiftbell_need_names), ("unicode/utf8.first", laid_unicode_utf8_first)], narrowed := true }
def HostLessUptoSaid : Prop := hostLessUptoRow.holds Tryd.pinned (OpenSpec.upto hostLessSpec)

end Rows
end Go.Proofs.YtelepamnlpebgabDoor
