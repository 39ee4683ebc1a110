/-
  No cell of these rows narrows 'for every input' (looked for: loops, veiled, ifaces, maps, wideKeys, modest, calm, conditions, laid).
  DERIVED. THE GIVEN ROWS OF THIS SEAT. 4 by the template 'for every input the law returns true; each argument reads behind the call as it read before'; 0 by the template 'total and deterministic' (their statements: YthfpdbogbmccjaaTotals.lean).
  GIVEN WITH THE SEED: the statements are not yours to turn. If you find one false, say at which input.
  Laid BY PROGRAM, IN A SANDBOX (cutbox-rows.mjs): the forced cells as the released guide's own fill.sh prints them over the translation c7243050472432b0… (all of the seat's roots in one cut). By AI agents, Wed Nov 11 2026. No macro, syntax, notation, axiom, sorry.
-/
import Derived.Test.YthfpdbogbmccjaaChecked
import GoSem.Claim
import GoSem.ClaimJoined
import GoSem.ClaimMapViews
import Derived.JoinedTies
import Derived.KernelRfl
namespace Go.Proofs.Ythfpdbogbmccjaa
/- THE CELL 'sum', in the pinned program and in every row, IS THE sha256 OF THE DUMP (.gsa) THAT YthfpdbogbmccjaaProg.lean LOADS. Nothing in Lean hashes anything: it is a label: what it is worth is what the hold of that sum in a sandbox is worth. -/
noncomputable def Try.pinned : Pinned := { name := "ythfpdbogbmccjaa", sum := "c7243050472432b0e5d5e4e24c3955e68d7f410729639049c737dacc38fa8cab", checked := Try.checked }
namespace Rows
def none {H : Type} : Left H := { results := [], args := [] }

/-- 'shiftbelllaw.ListTells': WHATEVER THE INPUT: true; the input reads as it did. -/
def listTellsSpec : ChangeSpec := { name := "listTells", fn := fun _ => fun
  | [d1, d2, d3] => { results := [.lit (.bool true)], args := [d1, d2, d3] }
  | _ => none }
def listTellsRow : OpenClaim := { program := "ythfpdbogbmccjaa", sum := "c7243050472432b0e5d5e4e24c3955e68d7f410729639049c737dacc38fa8cab", func := "shiftbell/shiftbelllaw.ListTells", spec := "listTells", unfollowed := true, recurses := true, apart := false }
def ListTellsSaid : Prop := listTellsRow.holds Try.pinned (OpenSpec.ofChange listTellsSpec)

/-- ITS FALSE NEIGHBOUR: 'it returns false'. Refute it at one input. -/
def listTellsWrong : ChangeSpec := { name := "listTells", fn := fun _ => fun
  | [d1, d2, d3] => { results := [.lit (.bool false)], args := [d1, d2, d3] }
  | _ => none }
def ListTellsWrongFalsely : Prop := listTellsRow.holds Try.pinned (OpenSpec.ofChange listTellsWrong)

/-- 'shiftbellkeep.ListGraham': WHATEVER THE INPUT: true; the input reads as it did. -/
def listGrahamSpec : ChangeSpec := { name := "listGraham", fn := fun _ => fun
  | [d1, d2] => { results := [.lit (.bool true)], args := [d1, d2] }
  | _ => none }
def listGrahamRow : OpenClaim := { program := "ythfpdbogbmccjaa", sum := "c7243050472432b0e5d5e4e24c3955e68d7f410729639049c737dacc38fa8cab", func := "shiftbell/shiftbellkeep.ListGraham", spec := "listGraham", unfollowed := true, recurses := true, apart := false }
def ListGrahamSaid : Prop := listGrahamRow.holds Try.pinned (OpenSpec.ofChange listGrahamSpec)

/-- ITS FALSE NEIGHBOUR: 'it returns false'. Refute it at one input. -/
def listGrahamWrong : ChangeSpec := { name := "listGraham", fn := fun _ => fun
  | [d1, d2] => { results := [.lit (.bool false)], args := [d1, d2] }
  | _ => none }
def ListGrahamWrongFalsely : Prop := listGrahamRow.holds Try.pinned (OpenSpec.ofChange listGrahamWrong)

/-- 'shiftbellkeep.ListLong': WHATEVER THE INPUT: true; the input reads as it did. -/
def listLongSpec : ChangeSpec := { name := "listLong", fn := fun _ => fun
  | [d1, d2] => { results := [.lit (.bool true)], args := [d1, d2] }
  | _ => none }
def listLongRow : OpenClaim := { program := "ythfpdbogbmccjaa", sum := "c7243050472432b0e5d5e4e24c3955e68d7f410729639049c737dacc38fa8cab", func := "shiftbell/shiftbellkeep.ListLong", spec := "listLong", unfollowed := true, recurses := true, apart := false }
def ListLongSaid : Prop := listLongRow.holds Try.pinned (OpenSpec.ofChange listLongSpec)

/-- ITS FALSE NEIGHBOUR: 'it returns false'. Refute it at one input. -/
def listLongWrong : ChangeSpec := { name := "listLong", fn := fun _ => fun
  | [d1, d2] => { results := [.lit (.bool false)], args := [d1, d2] }
  | _ => none }
def ListLongWrongFalsely : Prop := listLongRow.holds Try.pinned (OpenSpec.ofChange listLongWrong)

/-- 'shiftbellkeep.ListLeast': WHATEVER THE INPUT: true; the input reads as it did. -/
def listLeastSpec : ChangeSpec := { name := "listLeast", fn := fun _ => fun
  | [d1, d2, d3] => { results := [.lit (.bool true)], args := [d1, d2, d3] }
  | _ => none }
def listLeastRow : OpenClaim := { program := "ythfpdbogbmccjaa", sum := "c7243050472432b0e5d5e4e24c3955e68d7f410729639049c737dacc38fa8cab", func := "shiftbell/shiftbellkeep.ListLeast", spec := "listLeast", unfollowed := true, recurses := true, apart := false }
def ListLeastSaid : Prop := listLeastRow.holds Try.pinned (OpenSpec.ofChange listLeastSpec)

/-- ITS FALSE NEIGHBOUR: 'it returns false'. Refute it at one input. -/
def listLeastWrong : ChangeSpec := { name := "listLeast", fn := fun _ => fun
  | [d1, d2, d3] => { results := [.lit (.bool false)], args := [d1, d2, d3] }
  | _ => none }
def ListLeastWrongFalsely : Prop := listLeastRow.holds Try.pinned (OpenSpec.ofChange listLeastWrong)

/- THE SECOND FORM. 'bulk': how many values and letters a reading holds, each counted each time it is reached (what is shared counts as often as it is met; a slice's spare places count too). A statement '..UptoSaid' is the law's where the arguments, and the package variables that the reading takes, are together of bulk at most 1048576: NARROWER than '..Said'. Prove '..Said' where nothing that the law and all that it calls make is longer than what came in: it says more and counts as full. Else prove '..UptoSaid'. A law counts once. -/
mutual
def uptoBulk {H : Type} : DataW H → Nat
  | .lit (.string bytes) => bytes.length + 1
  | .lit _ => 1
  | .nil => 1
  | .ptr d => uptoBulk d + 1
  | .slice elems spare => uptoBulkAll elems + uptoBulkAll spare + 1
  | .agg parts => uptoBulkAll parts + 1
  | .iface _ d => uptoBulk d + 1
  | .map entries => uptoBulkEntries entries + 1
  | .held _ => 1
def uptoBulkAll {H : Type} : List (DataW H) → Nat
  | [] => 0
  | d :: r => uptoBulk d + uptoBulkAll r
def uptoBulkEntries {H : Type} : List (Lit × DataW H) → Nat
  | [] => 0
  | x :: r => uptoBulkEntry x + uptoBulkEntries r
def uptoBulkEntry {H : Type} : Lit × DataW H → Nat
  | (.string bytes, d) => bytes.length + uptoBulk d + 1
  | (_, d) => uptoBulk d + 1
 end
def uptoSmall : (H : Type) → List (DataW H) → Bool := fun _ ds => decide (uptoBulkAll ds ≤ 1048576)
def OpenSpec.upto (s : _root_.Go.ChangeSpec) : _root_.Go.OpenSpec := { _root_.Go.OpenSpec.ofChange s with cond := some uptoSmall }

/-- 'shiftbelllaw.ListTells', WHERE WHAT IT READS IS OF BULK AT MOST 1048576: true; the input reads as it did. -/
def listTellsUptoRow : OpenClaim := { program := "ythfpdbogbmccjaa", sum := "c7243050472432b0e5d5e4e24c3955e68d7f410729639049c737dacc38fa8cab", func := "shiftbell/shiftbelllaw.ListTells", spec := "listTells", unfollowed := true, recurses := true, apart := false, narrowed := true }
def ListTellsUptoSaid : Prop := listTellsUptoRow.holds Try.pinned (OpenSpec.upto listTellsSpec)

/-- 'shiftbellkeep.ListGraham', WHERE WHAT IT READS IS OF BULK AT MOST 1048576: true; the input reads as it did. -/
def listGrahamUptoRow : OpenClaim := { program := "ythfpdbogbmccjaa", sum := "c7243050472432b0e5d5e4e24c3955e68d7f410729639049c737dacc38fa8cab", func := "shiftbell/shiftbellkeep.ListGraham", spec := "listGraham", unfollowed := true, recurses := true, apart := false, narrowed := true }
def ListGrahamUptoSaid : Prop := listGrahamUptoRow.holds Try.pinned (OpenSpec.upto listGrahamSpec)

/-- 'shiftbellkeep.ListLong', WHERE WHAT IT READS IS OF BULK AT MOST 1048576: true; the input reads as it did. -/
def listLongUptoRow : OpenClaim := { program := "ythfpdbogbmccjaa", sum := "c7243050472432b0e5d5e4e24c3955e68d7f410729639049c737dacc38fa8cab", func := "shiftbell/shiftbellkeep.ListLong", spec := "listLong", unfollowed := true, recurses := true, apart := false, narrowed := true }
def ListLongUptoSaid : Prop := listLongUptoRow.holds Try.pinned (OpenSpec.upto listLongSpec)

/-- 'shiftbellkeep.ListLeast', WHERE WHAT IT READS IS OF BULK AT MOST 1048576: true; the input reads as it did. -/
def listLeastUptoRow : OpenClaim := { program := "ythfpdbogbmccjaa", sum := "c7243050472432b0e5d5e4e24c3955e68d7f410729639049c737dacc38fa8cab", func := "shiftbell/shiftbellkeep.ListLeast", spec := "listLeast", unfollowed := true, recurses := true, apart := false, narrowed := true }
def ListLeastUptoSaid : Prop := listLeastUptoRow.holds Try.pinned (OpenSpec.upto listLeastSpec)

end Rows
end Go.Proofs.Ythfpdbogbmccjaa
