/-
  No cell of these rows narrows 'for every input' (looked for: loops, veiled, ifaces, maps, wideKeys, modest, calm, conditions, laid).
  DERIVED. THE GIVEN ROWS OF THIS SEAT. 6 by the template 'for every input the law returns true; each argument reads behind the call as it read before'; 0 by the template 'total and deterministic' (their statements: YthkhlgannimebaaTotals.lean).
  GIVEN WITH THE SEED: the statements are not yours to turn. If you find one false, say at which input.
  Laid BY PROGRAM, IN A SANDBOX (cutbox-rows.mjs): the forced cells as the released guide's own fill.sh prints them over the translation 0819f1c4cdac097c… (all of the seat's roots in one cut). By AI agents, Wed Nov 11 2026. No macro, syntax, notation, axiom, sorry.
-/
import Derived.Test.YthkhlgannimebaaChecked
import GoSem.Claim
import GoSem.ClaimJoined
import GoSem.ClaimMapViews
import Derived.JoinedTies
import Derived.KernelRfl
namespace Go.Proofs.Ythkhlgannimebaa
/- THE CELL 'sum', in the pinned program and in every row, IS THE sha256 OF THE DUMP (.gsa) THAT YthkhlgannimebaaProg.lean LOADS. Nothing in Lean hashes anything: it is a label: what it is worth is what the hold of that sum in a sandbox is worth. -/
noncomputable def Try.pinned : Pinned := { name := "ythkhlgannimebaa", sum := "0819f1c4cdac097c0d61e4c0690986ecb791b15f1c82b6443d5916ee1223bbf9", checked := Try.checked }
namespace Rows
def none {H : Type} : Left H := { results := [], args := [] }

/-- 'shiftbelllaw.QueueSorts': WHATEVER THE INPUT: true; the input reads as it did. -/
def queueSortsSpec : ChangeSpec := { name := "queueSorts", fn := fun _ => fun
  | [d] => { results := [.lit (.bool true)], args := [d] }
  | _ => none }
def queueSortsRow : OpenClaim := { program := "ythkhlgannimebaa", sum := "0819f1c4cdac097c0d61e4c0690986ecb791b15f1c82b6443d5916ee1223bbf9", func := "shiftbell/shiftbelllaw.QueueSorts", spec := "queueSorts", unfollowed := true, recurses := true, apart := false }
def QueueSortsSaid : Prop := queueSortsRow.holds Try.pinned (OpenSpec.ofChange queueSortsSpec)

/-- ITS FALSE NEIGHBOUR: 'it returns false'. Refute it at one input. -/
def queueSortsWrong : ChangeSpec := { name := "queueSorts", fn := fun _ => fun
  | [d] => { results := [.lit (.bool false)], args := [d] }
  | _ => none }
def QueueSortsWrongFalsely : Prop := queueSortsRow.holds Try.pinned (OpenSpec.ofChange queueSortsWrong)

/-- 'shiftbellkeep.QueueSorted': WHATEVER THE INPUT: true; the input reads as it did. -/
def queueSortedSpec : ChangeSpec := { name := "queueSorted", fn := fun _ => fun
  | [d] => { results := [.lit (.bool true)], args := [d] }
  | _ => none }
def queueSortedRow : OpenClaim := { program := "ythkhlgannimebaa", sum := "0819f1c4cdac097c0d61e4c0690986ecb791b15f1c82b6443d5916ee1223bbf9", func := "shiftbell/shiftbellkeep.QueueSorted", spec := "queueSorted", unfollowed := true, recurses := true, apart := false }
def QueueSortedSaid : Prop := queueSortedRow.holds Try.pinned (OpenSpec.ofChange queueSortedSpec)

/-- ITS FALSE NEIGHBOUR: 'it returns false'. Refute it at one input. -/
def queueSortedWrong : ChangeSpec := { name := "queueSorted", fn := fun _ => fun
  | [d] => { results := [.lit (.bool false)], args := [d] }
  | _ => none }
def QueueSortedWrongFalsely : Prop := queueSortedRow.holds Try.pinned (OpenSpec.ofChange queueSortedWrong)

/-- 'shiftbellkeep.QueueWhole': WHATEVER THE INPUT: true; the input reads as it did. -/
def queueWholeSpec : ChangeSpec := { name := "queueWhole", fn := fun _ => fun
  | [d] => { results := [.lit (.bool true)], args := [d] }
  | _ => none }
def queueWholeRow : OpenClaim := { program := "ythkhlgannimebaa", sum := "0819f1c4cdac097c0d61e4c0690986ecb791b15f1c82b6443d5916ee1223bbf9", func := "shiftbell/shiftbellkeep.QueueWhole", spec := "queueWhole", unfollowed := true, recurses := true, apart := false }
def QueueWholeSaid : Prop := queueWholeRow.holds Try.pinned (OpenSpec.ofChange queueWholeSpec)

/-- ITS FALSE NEIGHBOUR: 'it returns false'. Refute it at one input. -/
def queueWholeWrong : ChangeSpec := { name := "queueWhole", fn := fun _ => fun
  | [d] => { results := [.lit (.bool false)], args := [d] }
  | _ => none }
def QueueWholeWrongFalsely : Prop := queueWholeRow.holds Try.pinned (OpenSpec.ofChange queueWholeWrong)

/-- 'shiftbellkeep.QueueAgain': WHATEVER THE INPUT: true; the input reads as it did. -/
def queueAgainSpec : ChangeSpec := { name := "queueAgain", fn := fun _ => fun
  | [d] => { results := [.lit (.bool true)], args := [d] }
  | _ => none }
def queueAgainRow : OpenClaim := { program := "ythkhlgannimebaa", sum := "0819f1c4cdac097c0d61e4c0690986ecb791b15f1c82b6443d5916ee1223bbf9", func := "shiftbell/shiftbellkeep.QueueAgain", spec := "queueAgain", unfollowed := true, recurses := true, apart := false }
def QueueAgainSaid : Prop := queueAgainRow.holds Try.pinned (OpenSpec.ofChange queueAgainSpec)

/-- ITS FALSE NEIGHBOUR: 'it returns false'. Refute it at one input. -/
def queueAgainWrong : ChangeSpec := { name := "queueAgain", fn := fun _ => fun
  | [d] => { results := [.lit (.bool false)], args := [d] }
  | _ => none }
def QueueAgainWrongFalsely : Prop := queueAgainRow.holds Try.pinned (OpenSpec.ofChange queueAgainWrong)

/-- 'shiftbellkeep.QueueRaised': WHATEVER THE INPUT: true; the input reads as it did. -/
def queueRaisedSpec : ChangeSpec := { name := "queueRaised", fn := fun _ => fun
  | [d1, d2, d3] => { results := [.lit (.bool true)], args := [d1, d2, d3] }
  | _ => none }
def queueRaisedRow : OpenClaim := { program := "ythkhlgannimebaa", sum := "0819f1c4cdac097c0d61e4c0690986ecb791b15f1c82b6443d5916ee1223bbf9", func := "shiftbell/shiftbellkeep.QueueRaised", spec := "queueRaised", unfollowed := true, recurses := true, apart := false }
def QueueRaisedSaid : Prop := queueRaisedRow.holds Try.pinned (OpenSpec.ofChange queueRaisedSpec)

/-- ITS FALSE NEIGHBOUR: 'it returns false'. Refute it at one input. -/
def queueRaisedWrong : ChangeSpec := { name := "queueRaised", fn := fun _ => fun
  | [d1, d2, d3] => { results := [.lit (.bool false)], args := [d1, d2, d3] }
  | _ => none }
def QueueRaisedWrongFalsely : Prop := queueRaisedRow.holds Try.pinned (OpenSpec.ofChange queueRaisedWrong)

/-- 'shiftbelllaw.QueuePlays': WHATEVER THE INPUT: true; the input reads as it did. -/
def queuePlaysSpec : ChangeSpec := { name := "queuePlays", fn := fun _ => fun
  | [d] => { results := [.lit (.bool true)], args := [d] }
  | _ => none }
def queuePlaysRow : OpenClaim := { program := "ythkhlgannimebaa", sum := "0819f1c4cdac097c0d61e4c0690986ecb791b15f1c82b6443d5916ee1223bbf9", func := "shiftbell/shiftbelllaw.QueuePlays", spec := "queuePlays", unfollowed := true, recurses := true, apart := false }
def QueuePlaysSaid : Prop := queuePlaysRow.holds Try.pinned (OpenSpec.ofChange queuePlaysSpec)

/-- ITS FALSE NEIGHBOUR: 'it returns false'. Refute it at one input. -/
def queuePlaysWrong : ChangeSpec := { name := "queuePlays", fn := fun _ => fun
  | [d] => { results := [.lit (.bool false)], args := [d] }
  | _ => none }
def QueuePlaysWrongFalsely : Prop := queuePlaysRow.holds Try.pinned (OpenSpec.ofChange queuePlaysWrong)

/- THE SECOND FORM. 'bulk': how many values and letters a reading holds, each counted each time it is reached (what is shared counts as often as it is met; a slice's spare places count too). A statement '..UptoSaid' is the law's where the arguments, and the package variables that the reading takes, are together of bulk at most 1048576: NARROWER than '..Said'. Prove '..Said' where nothing that the law and all that it calls make is longer than what came in: it says more and counts as full. Else prove '..UptoSaid'. A law counts once. -/
mutual
def uptoBulk {H : Type} : DataW H → Nat
  | .lit (.string bytes) => bytes.length + 1
  | .lit _ => 1
  | .nil => 1
  | .ptr d => uptoBulk d + 1
  | .slice elems spare => uptoBulkAll elems + uptoBulkAll spare + 1
  | .agg parts => uptoBulkAll parts + 1
  | .iface _ d => uptoBulk d + 1
  | .map entries => uptoBulkEntries entries + 1
  | .held _ => 1
def uptoBulkAll {H : Type} : List (DataW H) → Nat
  | [] => 0
  | d :: r => uptoBulk d + uptoBulkAll r
def uptoBulkEntries {H : Type} : List (Lit × DataW H) → Nat
  | [] => 0
  | x :: r => uptoBulkEntry x + uptoBulkEntries r
def uptoBulkEntry {H : Type} : Lit × DataW H → Nat
  | (.string bytes, d) => bytes.length + uptoBulk d + 1
  | (_, d) => uptoBulk d + 1
 end
def uptoSmall : (H : Type) → List (DataW H) → Bool := fun _ ds => decide (uptoBulkAll ds ≤ 1048576)
def OpenSpec.upto (s : _root_.Go.ChangeSpec) : _root_.Go.OpenSpec := { _root_.Go.OpenSpec.ofChange s with cond := some uptoSmall }

/-- 'shiftbelllaw.QueueSorts', WHERE WHAT IT READS IS OF BULK AT MOST 1048576: true; the input reads as it did. -/
def queueSortsUptoRow : OpenClaim := { program := "ythkhlgannimebaa", sum := "0819f1c4cdac097c0d61e4c0690986ecb791b15f1c82b6443d5916ee1223bbf9", func := "shiftbell/shiftbelllaw.QueueSorts", spec := "queueSorts", unfollowed := true, recurses := true, apart := false, narrowed := true }
def QueueSortsUptoSaid : Prop := queueSortsUptoRow.holds Try.pinned (OpenSpec.upto queueSortsSpec)

/-- 'shiftbellkeep.QueueSorted', WHERE WHAT IT READS IS OF BULK AT MOST 1048576: true; the input reads as it did. -/
def queueSortedUptoRow : OpenClaim := { program := "ythkhlgannimebaa", sum := "0819f1c4cdac097c0d61e4c0690986ecb791b15f1c82b6443d5916ee1223bbf9", func := "shiftbell/shiftbellkeep.QueueSorted", spec := "queueSorted", unfollowed := true, recurses := true, apart := false, narrowed := true }
def QueueSortedUptoSaid : Prop := queueSortedUptoRow.holds Try.pinned (OpenSpec.upto queueSortedSpec)

/-- 'shiftbellkeep.QueueWhole', WHERE WHAT IT READS IS OF BULK AT MOST 1048576: true; the input reads as it did. -/
def queueWholeUptoRow : OpenClaim := { program := "ythkhlgannimebaa", sum := "0819f1c4cdac097c0d61e4c0690986ecb791b15f1c82b6443d5916ee1223bbf9", func := "shiftbell/shiftbellkeep.QueueWhole", spec := "queueWhole", unfollowed := true, recurses := true, apart := false, narrowed := true }
def QueueWholeUptoSaid : Prop := queueWholeUptoRow.holds Try.pinned (OpenSpec.upto queueWholeSpec)

/-- 'shiftbellkeep.QueueAgain', WHERE WHAT IT READS IS OF BULK AT MOST 1048576: true; the input reads as it did. -/
def queueAgainUptoRow : OpenClaim := { program := "ythkhlgannimebaa", sum := "0819f1c4cdac097c0d61e4c0690986ecb791b15f1c82b6443d5916ee1223bbf9", func := "shiftbell/shiftbellkeep.QueueAgain", spec := "queueAgain", unfollowed := true, recurses := true, apart := false, narrowed := true }
def QueueAgainUptoSaid : Prop := queueAgainUptoRow.holds Try.pinned (OpenSpec.upto queueAgainSpec)

/-- 'shiftbellkeep.QueueRaised', WHERE WHAT IT READS IS OF BULK AT MOST 1048576: true; the input reads as it did. -/
def queueRaisedUptoRow : OpenClaim := { program := "ythkhlgannimebaa", sum := "0819f1c4cdac097c0d61e4c0690986ecb791b15f1c82b6443d5916ee1223bbf9", func := "shiftbell/shiftbellkeep.QueueRaised", spec := "queueRaised", unfollowed := true, recurses := true, apart := false, narrowed := true }
def QueueRaisedUptoSaid : Prop := queueRaisedUptoRow.holds Try.pinned (OpenSpec.upto queueRaisedSpec)

/-- 'shiftbelllaw.QueuePlays', WHERE WHAT IT READS IS OF BULK AT MOST 1048576: true; the input reads as it did. -/
def queuePlaysUptoRow : OpenClaim := { program := "ythkhlgannimebaa", sum := "0819f1c4cdac097c0d61e4c0690986ecb791b15f1c82b6443d5916ee1223bbf9", func := "shiftbell/shiftbelllaw.QueuePlays", spec := "queuePlays", unfollowed := true, recurses := true, apart := false, narrowed := true }
def QueuePlaysUptoSaid : Prop := queuePlaysUptoRow.holds Try.pinned (OpenSpec.upto queuePlaysSpec)

end Rows
end Go.Proofs.Ythkhlgannimebaa
