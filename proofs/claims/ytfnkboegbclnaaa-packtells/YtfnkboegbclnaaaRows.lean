/-
  No cell of these rows narrows 'for every input' (looked for: loops, veiled, ifaces, maps, wideKeys, modest, calm, conditions, laid).
  DERIVED. THE GIVEN ROWS OF THIS SEAT. 5 by the template 'for every input the law returns true; each argument reads behind the call as it read before'; 0 by the template 'total and deterministic' (their statements: YtfnkboegbclnaaaTotals.lean).
  GIVEN WITH THE SEED: the statements are not yours to turn. If you find one false, say at which input.
  Laid BY PROGRAM, IN A SANDBOX (cutbox-rows.mjs): the forced cells as the released guide's own fill.sh prints them over the translation 14bf24379b628948… (all of the seat's roots in one cut). By AI agents, Wed Nov 11 2026. No macro, syntax, notation, axiom, sorry.
-/
import Derived.Test.YtfnkboegbclnaaaChecked
import GoSem.Claim
import GoSem.ClaimJoined
import GoSem.ClaimMapViews
import Derived.JoinedTies
import Derived.KernelRfl
namespace Go.Proofs.Ytfnkboegbclnaaa
/- THE CELL 'sum', in the pinned program and in every row, IS THE sha256 OF THE DUMP (.gsa) THAT YtfnkboegbclnaaaProg.lean LOADS. Nothing in Lean hashes anything: it is a label: what it is worth is what the hold of that sum in a sandbox is worth. -/
noncomputable def Try.pinned : Pinned := { name := "ytfnkboegbclnaaa", sum := "14bf24379b628948eec225704bf2dcb57fef925b1f81b521f0936daf0a95c19e", checked := Try.checked }
namespace Rows
def none {H : Type} : Left H := { results := [], args := [] }

/-- 'shiftbelllaw.PackTells': WHATEVER THE INPUT: true; the input reads as it did. -/
def packTellsSpec : ChangeSpec := { name := "packTells", fn := fun _ => fun
  | [d1, d2, d3] => { results := [.lit (.bool true)], args := [d1, d2, d3] }
  | _ => none }
def packTellsRow : OpenClaim := { program := "ytfnkboegbclnaaa", sum := "14bf24379b628948eec225704bf2dcb57fef925b1f81b521f0936daf0a95c19e", func := "shiftbell/shiftbelllaw.PackTells", spec := "packTells", unfollowed := true, recurses := true, apart := false }
def PackTellsSaid : Prop := packTellsRow.holds Try.pinned (OpenSpec.ofChange packTellsSpec)

/-- ITS FALSE NEIGHBOUR: 'it returns false'. Refute it at one input. -/
def packTellsWrong : ChangeSpec := { name := "packTells", fn := fun _ => fun
  | [d1, d2, d3] => { results := [.lit (.bool false)], args := [d1, d2, d3] }
  | _ => none }
def PackTellsWrongFalsely : Prop := packTellsRow.holds Try.pinned (OpenSpec.ofChange packTellsWrong)

/-- 'shiftbellkeep.PackFits': WHATEVER THE INPUT: true; the input reads as it did. -/
def packFitsSpec : ChangeSpec := { name := "packFits", fn := fun _ => fun
  | [d1, d2] => { results := [.lit (.bool true)], args := [d1, d2] }
  | _ => none }
def packFitsRow : OpenClaim := { program := "ytfnkboegbclnaaa", sum := "14bf24379b628948eec225704bf2dcb57fef925b1f81b521f0936daf0a95c19e", func := "shiftbell/shiftbellkeep.PackFits", spec := "packFits", unfollowed := true, recurses := true, apart := false }
def PackFitsSaid : Prop := packFitsRow.holds Try.pinned (OpenSpec.ofChange packFitsSpec)

/-- ITS FALSE NEIGHBOUR: 'it returns false'. Refute it at one input. -/
def packFitsWrong : ChangeSpec := { name := "packFits", fn := fun _ => fun
  | [d1, d2] => { results := [.lit (.bool false)], args := [d1, d2] }
  | _ => none }
def PackFitsWrongFalsely : Prop := packFitsRow.holds Try.pinned (OpenSpec.ofChange packFitsWrong)

/-- 'shiftbellkeep.PackHalf': WHATEVER THE INPUT: true; the input reads as it did. -/
def packHalfSpec : ChangeSpec := { name := "packHalf", fn := fun _ => fun
  | [d1, d2] => { results := [.lit (.bool true)], args := [d1, d2] }
  | _ => none }
def packHalfRow : OpenClaim := { program := "ytfnkboegbclnaaa", sum := "14bf24379b628948eec225704bf2dcb57fef925b1f81b521f0936daf0a95c19e", func := "shiftbell/shiftbellkeep.PackHalf", spec := "packHalf", unfollowed := true, recurses := true, apart := false }
def PackHalfSaid : Prop := packHalfRow.holds Try.pinned (OpenSpec.ofChange packHalfSpec)

/-- ITS FALSE NEIGHBOUR: 'it returns false'. Refute it at one input. -/
def packHalfWrong : ChangeSpec := { name := "packHalf", fn := fun _ => fun
  | [d1, d2] => { results := [.lit (.bool false)], args := [d1, d2] }
  | _ => none }
def PackHalfWrongFalsely : Prop := packHalfRow.holds Try.pinned (OpenSpec.ofChange packHalfWrong)

/-- 'shiftbellkeep.PackDown': WHATEVER THE INPUT: true; the input reads as it did. -/
def packDownSpec : ChangeSpec := { name := "packDown", fn := fun _ => fun
  | [d1, d2] => { results := [.lit (.bool true)], args := [d1, d2] }
  | _ => none }
def packDownRow : OpenClaim := { program := "ytfnkboegbclnaaa", sum := "14bf24379b628948eec225704bf2dcb57fef925b1f81b521f0936daf0a95c19e", func := "shiftbell/shiftbellkeep.PackDown", spec := "packDown", unfollowed := true, recurses := true, apart := false }
def PackDownSaid : Prop := packDownRow.holds Try.pinned (OpenSpec.ofChange packDownSpec)

/-- ITS FALSE NEIGHBOUR: 'it returns false'. Refute it at one input. -/
def packDownWrong : ChangeSpec := { name := "packDown", fn := fun _ => fun
  | [d1, d2] => { results := [.lit (.bool false)], args := [d1, d2] }
  | _ => none }
def PackDownWrongFalsely : Prop := packDownRow.holds Try.pinned (OpenSpec.ofChange packDownWrong)

/-- 'shiftbellkeep.PackLeast': WHATEVER THE INPUT: true; the input reads as it did. -/
def packLeastSpec : ChangeSpec := { name := "packLeast", fn := fun _ => fun
  | [d1, d2, d3] => { results := [.lit (.bool true)], args := [d1, d2, d3] }
  | _ => none }
def packLeastRow : OpenClaim := { program := "ytfnkboegbclnaaa", sum := "14bf24379b628948eec225704bf2dcb57fef925b1f81b521f0936daf0a95c19e", func := "shiftbell/shiftbellkeep.PackLeast", spec := "packLeast", unfollowed := true, recurses := true, apart := false }
def PackLeastSaid : Prop := packLeastRow.holds Try.pinned (OpenSpec.ofChange packLeastSpec)

/-- ITS FALSE NEIGHBOUR: 'it returns false'. Refute it at one input. -/
def packLeastWrong : ChangeSpec := { name := "packLeast", fn := fun _ => fun
  | [d1, d2, d3] => { results := [.lit (.bool false)], args := [d1, d2, d3] }
  | _ => none }
def PackLeastWrongFalsely : Prop := packLeastRow.holds Try.pinned (OpenSpec.ofChange packLeastWrong)

/- THE SECOND FORM. 'bulk': how many values and letters a reading holds, each counted each time it is reached (what is shared counts as often as it is met; a slice's spare places count too). A statement '..UptoSaid' is the law's where the arguments, and the package variables that the reading takes, are together of bulk at most 1048576: NARROWER than '..Said'. Prove '..Said' where nothing that the law and all that it calls make is longer than what came in: it says more and counts as full. Else prove '..UptoSaid'. A law counts once. -/
mutual
def uptoBulk {H : Type} : DataW H → Nat
  | .lit (.string bytes) => bytes.length + 1
  | .lit _ => 1
  | .nil => 1
  | .ptr d => uptoBulk d + 1
  | .slice elems spare => uptoBulkAll elems + uptoBulkAll spare + 1
  | .agg parts => uptoBulkAll parts + 1
  | .iface _ d => uptoBulk d + 1
  | .map entries => uptoBulkEntries entries + 1
  | .held _ => 1
def uptoBulkAll {H : Type} : List (DataW H) → Nat
  | [] => 0
  | d :: r => uptoBulk d + uptoBulkAll r
def uptoBulkEntries {H : Type} : List (Lit × DataW H) → Nat
  | [] => 0
  | x :: r => uptoBulkEntry x + uptoBulkEntries r
def uptoBulkEntry {H : Type} : Lit × DataW H → Nat
  | (.string bytes, d) => bytes.length + uptoBulk d + 1
  | (_, d) => uptoBulk d + 1
 end
def uptoSmall : (H : Type) → List (DataW H) → Bool := fun _ ds => decide (uptoBulkAll ds ≤ 1048576)
def OpenSpec.upto (s : _root_.Go.ChangeSpec) : _root_.Go.OpenSpec := { _root_.Go.OpenSpec.ofChange s with cond := some uptoSmall }

/-- 'shiftbelllaw.PackTells', WHERE WHAT IT READS IS OF BULK AT MOST 1048576: true; the input reads as it did. -/
def packTellsUptoRow : OpenClaim := { program := "ytfnkboegbclnaaa", sum := "14bf24379b628948eec225704bf2dcb57fef925b1f81b521f0936daf0a95c19e", func := "shiftbell/shiftbelllaw.PackTells", spec := "packTells", unfollowed := true, recurses := true, apart := false, narrowed := true }
def PackTellsUptoSaid : Prop := packTellsUptoRow.holds Try.pinned (OpenSpec.upto packTellsSpec)

/-- 'shiftbellkeep.PackFits', WHERE WHAT IT READS IS OF BULK AT MOST 1048576: true; the input reads as it did. -/
def packFitsUptoRow : OpenClaim := { program := "ytfnkboegbclnaaa", sum := "14bf24379b628948eec225704bf2dcb57fef925b1f81b521f0936daf0a95c19e", func := "shiftbell/shiftbellkeep.PackFits", spec := "packFits", unfollowed := true, recurses := true, apart := false, narrowed := true }
def PackFitsUptoSaid : Prop := packFitsUptoRow.holds Try.pinned (OpenSpec.upto packFitsSpec)

/-- 'shiftbellkeep.PackHalf', WHERE WHAT IT READS IS OF BULK AT MOST 1048576: true; the input reads as it did. -/
def packHalfUptoRow : OpenClaim := { program := "ytfnkboegbclnaaa", sum := "14bf24379b628948eec225704bf2dcb57fef925b1f81b521f0936daf0a95c19e", func := "shiftbell/shiftbellkeep.PackHalf", spec := "packHalf", unfollowed := true, recurses := true, apart := false, narrowed := true }
def PackHalfUptoSaid : Prop := packHalfUptoRow.holds Try.pinned (OpenSpec.upto packHalfSpec)

/-- 'shiftbellkeep.PackDown', WHERE WHAT IT READS IS OF BULK AT MOST 1048576: true; the input reads as it did. -/
def packDownUptoRow : OpenClaim := { program := "ytfnkboegbclnaaa", sum := "14bf24379b628948eec225704bf2dcb57fef925b1f81b521f0936daf0a95c19e", func := "shiftbell/shiftbellkeep.PackDown", spec := "packDown", unfollowed := true, recurses := true, apart := false, narrowed := true }
def PackDownUptoSaid : Prop := packDownUptoRow.holds Try.pinned (OpenSpec.upto packDownSpec)

/-- 'shiftbellkeep.PackLeast', WHERE WHAT IT READS IS OF BULK AT MOST 1048576: true; the input reads as it did. -/
def packLeastUptoRow : OpenClaim := { program := "ytfnkboegbclnaaa", sum := "14bf24379b628948eec225704bf2dcb57fef925b1f81b521f0936daf0a95c19e", func := "shiftbell/shiftbellkeep.PackLeast", spec := "packLeast", unfollowed := true, recurses := true, apart := false, narrowed := true }
def PackLeastUptoSaid : Prop := packLeastUptoRow.holds Try.pinned (OpenSpec.upto packLeastSpec)

end Rows
end Go.Proofs.Ytfnkboegbclnaaa
