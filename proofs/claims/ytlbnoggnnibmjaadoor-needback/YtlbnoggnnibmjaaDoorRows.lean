/-
  NARROWER THAN 'FOR EVERY INPUT', by the rows' own cells (each row's printed sentence says how): NeedReads: laid · NeedSums: laid · NeedBack: laid · NeedOrder: laid · NeedText: laid.
  DERIVED. THE GIVEN ROWS OF THIS SEAT. 5 by the template 'for every input the law returns true; each argument reads behind the call as it read before'; 0 by the template 'total and deterministic' (their statements: YtlbnoggnnibmjaaDoorTotals.lean).
  GIVEN WITH THE SEED: the statements are not yours to turn. If you find one false, say at which input.
  Laid BY PROGRAM, IN A SANDBOX (cutbox-rows.mjs): the forced cells as the released guide's own fill.sh prints them over the translation f487d1e908fada80… (all of the seat's roots in one cut). By AI agents, Wed Nov 11 2026. No macro, syntax, notation, axiom, sorry.
-/
import Derived.Test.YtlbnoggnnibmjaaDoorChecked
import GoSem.Claim
import GoSem.ClaimJoined
import GoSem.ClaimMapViews
import Derived.JoinedTies
import Derived.KernelRfl
namespace Go.Proofs.YtlbnoggnnibmjaaDoor
/- THE CELL 'sum', in the pinned program and in every row, IS THE sha256 OF THE DUMP (.gsa) THAT YtlbnoggnnibmjaaDoorProg.lean LOADS. Nothing in Lean hashes anything: it is a label: what it is worth is what the hold of that sum in a sandbox is worth. -/
noncomputable def Tryd.pinned : Pinned := { name := "ytlbnoggnnibmjaadoor", sum := "f487d1e908fada807146219a63959ba1feebbde16e3b214f9b86f464b5d394da", checked := Tryd.checked }
namespace Rows
def none {H : Type} : Left H := { results := [], args := [] }

/- WHAT THE LISTED PACKAGE-LEVEL VARIABLES READ AS WHEN THE CALL BEGINS. Each datum BY PROGRAM (the guide's laid-datum.mjs) off the statement by which the dump's own 'gosem.cut.vars' lays the variable. In a bare row this is a premise. The card (YtlbnoggnnibmjaaDoorCards.lean) ties it to the program's text. -/
def laid_math_bits_deBruijn32tab {H : Type} : DataW H := .agg [.lit (.int .u8 0), .lit (.int .u8 1), .lit (.int .u8 28), .lit (.int .u8 2), .lit (.int .u8 29), .lit (.int .u8 14), .lit (.int .u8 24), .lit (.int .u8 3), .lit (.int .u8 30), .lit (.int .u8 22), .lit (.int .u8 20), .lit (.int .u8 15), .lit (.int .u8 25), .lit (.int .u8 17), .lit (.int .u8 4), .lit (.int .u8 8), .lit (.int .u8 31), .lit (.int .u8 27), .lit (.int .u8 13), .lit (.int .u8 23), .lit (.int .u8 21), .lit (.int .u8 19), .lit (.int .u8 16), .lit (.int .u8 7), .lit (.int .u8 26), .lit (.int .u8 12), .lit (.int .u8 18), .lit (.int .u8 6), .lit (.int .u8 11), .lit (.int .u8 5), .lit (.int .u8 10), .lit (.int .u8 9)]
def laid_math_bits_deBruijn64tab {H : Type} : DataW H := .agg [.lit (.int .u8 0), .lit (.int .u8 1), .lit (.int .u8 56), .lit (.int .u8 2), .lit (.int .u8 57), .lit (.int .u8 49), .lit (.int .u8 28), .lit (.int .u8 3), .lit (.int .u8 61), .lit (.int .u8 58), .lit (.int .u8 42), .lit (.int .u8 50), .lit (.int .u8 38), .lit (.int .u8 29), .lit (.int .u8 17), .lit (.int .u8 4), .lit (.int .u8 62), .lit (.int .u8 47), .lit (.int .u8 59), .lit (.int .u8 36), .lit (.int .u8 45), .lit (.int .u8 43), .lit (.int .u8 51), .lit (.int .u8 22), .lit (.int .u8 53), .lit (.int .u8 39), .lit (.int .u8 33), .lit (.int .u8 30), .lit (.int .u8 24), .lit (.int .u8 18), .lit (.int .u8 12), .lit (.int .u8 5), .lit (.int .u8 63), .lit (.int .u8 55), .lit (.int .u8 48), .lit (.int .u8 27), .lit (.int .u8 60), .lit (.int .u8 41), .lit (.int .u8 37), .lit (.int .u8 16), .lit (.int .u8 46), .lit (.int .u8 35), .lit (.int .u8 44), .lit (.int .u8 21), .lit (.int .u8 52), .lit (.int .u8 32), .lit (.int .u8 23), .lit (.int .u8 11), .lit (.int .u8 54), .lit (.int .u8 26), .lit (.int .u8 40), .lit (.int .u8 15), .lit (.int .u8 34), .lit (.int .u8 20), .lit (.int .u8 31), .lit (.int .u8 10), .lit (.int .u8 25), .lit (.int .u8 14), .lit (.int .u8 19), .lit (.int .u8 9), .lit (.int .u8 13), .lit (.int .u8 8), .lit (.int .u8 7), .lit (.int .u8 6)]
def laid_internal_strconv_uint64pow10 {H : Type} : DataW H := .agg [.lit (.int .u64 1), .lit (.int .u64 10), .lit (.int .u64 100), .lit (.int .u64 1000), .lit (.int .u64 10000), .lit (.int .u64 100000), .lit (.int .u64 1000000), .lit (.int .u64 10000000), .lit (.int .u64 100000000), .lit (.int .u64 1000000000), .lit (.int .u64 10000000000), .lit (.int .u64 100000000000), .lit (.int .u64 1000000000000), .lit (.int .u64 10000000000000), .lit (.int .u64 100000000000000), .lit (.int .u64 1000000000000000), .lit (.int .u64 10000000000000000), .lit (.int .u64 100000000000000000), .lit (.int .u64 1000000000000000000), .lit (.int .u64 10000000000000000000)]
def laid_shiftbell_need_names {H : Type} : DataW H := .agg [.lit (.string [99, 112, 117]), .lit (.string [109, 101, 109]), .lit (.string [103, 112, 117])]

/-- 'shiftbelllaw.NeedReads': WHATEVER THE INPUT: true; the input reads as it did. -/
def needReadsSpec : ChangeSpec := { name := "needReads", fn := fun _ => fun
  | [d1, d2] => { results := [.lit (.bool true)], args := [d1, d2] }
  | _ => none }
def needReadsRow : OpenClaim := { program := "ytlbnoggnnibmjaadoor", sum := "f487d1e908fada807146219a63959ba1feebbde16e3b214f9b86f464b5d394da", func := "shiftbell/shiftbelllaw.NeedReads", spec := "needReads", inPlace := ["internal/abi.NoEscape", "internal/bytealg.MakeNoZero", "internal/bytealg.IndexByteString", "internal/bytealg.IndexString"], recurses := true, named := ["shiftbell/need.names", "internal/strconv.uint64pow10", "math/bits.deBruijn32tab", "math/bits.deBruijn64tab", "internal/bytealg.MaxLen"], apart := false, laid := [("math/bits.deBruijn32tab", laid_math_bits_deBruijn32tab), ("math/bits.deBruijn64tab", laid_math_bits_deBruijn64tab), ("internal/strconv.uint64pow10", laid_internal_strconv_uint64pow10), ("shiftbell/need.names", laid_shiftbell_need_names)] }
def NeedReadsSaid : Prop := needReadsRow.holds Tryd.pinned (OpenSpec.ofChange needReadsSpec)

/-- ITS FALSE NEIGHBOUR: 'it returns false'. Refute it at one input. -/
def needReadsWrong : ChangeSpec := { name := "needReads", fn := fun _ => fun
  | [d1, d2] => { results := [.lit (.bool false)], args := [d1, d2] }
  | _ => none }
def NeedReadsWrongFalsely : Prop := needReadsRow.holds Tryd.pinned (OpenSpec.ofChange needReadsWrong)

/-- 'shiftbellkeep.NeedSums': WHATEVER THE INPUT: true; the input reads as it did. -/
def needSumsSpec : ChangeSpec := { name := "needSums", fn := fun _ => fun
  | [d1, d2, d3] => { results := [.lit (.bool true)], args := [d1, d2, d3] }
  | _ => none }
def needSumsRow : OpenClaim := { program := "ytlbnoggnnibmjaadoor", sum := "f487d1e908fada807146219a63959ba1feebbde16e3b214f9b86f464b5d394da", func := "shiftbell/shiftbellkeep.NeedSums", spec := "needSums", inPlace := ["internal/abi.NoEscape", "internal/bytealg.MakeNoZero"], named := ["shiftbell/need.names", "internal/strconv.uint64pow10", "math/bits.deBruijn32tab", "math/bits.deBruijn64tab"], apart := false, laid := [("math/bits.deBruijn32tab", laid_math_bits_deBruijn32tab), ("math/bits.deBruijn64tab", laid_math_bits_deBruijn64tab), ("internal/strconv.uint64pow10", laid_internal_strconv_uint64pow10), ("shiftbell/need.names", laid_shiftbell_need_names)] }
def NeedSumsSaid : Prop := needSumsRow.holds Tryd.pinned (OpenSpec.ofChange needSumsSpec)

/-- ITS FALSE NEIGHBOUR: 'it returns false'. Refute it at one input. -/
def needSumsWrong : ChangeSpec := { name := "needSums", fn := fun _ => fun
  | [d1, d2, d3] => { results := [.lit (.bool false)], args := [d1, d2, d3] }
  | _ => none }
def NeedSumsWrongFalsely : Prop := needSumsRow.holds Tryd.pinned (OpenSpec.ofChange needSumsWrong)

/-- 'shiftbellkeep.NeedBack': WHATEVER THE INPUT: true; the input reads as it did. -/
def needBackSpec : ChangeSpec := { name := "needBack", fn := fun _ => fun
  | [d1, d2] => { results := [.lit (.bool true)], args := [d1, d2] }
  | _ => none }
def needBackRow : OpenClaim := { program := "ytlbnoggnnibmjaadoor", sum := "f487d1e908fada807146219a63959ba1feebbde16e3b214f9b86f464b5d394da", func := "shiftbell/shiftbellkeep.NeedBack", spec := "needBack", inPlace := ["internal/abi.NoEscape", "internal/bytealg.MakeNoZero"], named := ["shiftbell/need.names", "internal/strconv.uint64pow10", "math/bits.deBruijn32tab", "math/bits.deBruijn64tab"], apart := false, laid := [("math/bits.deBruijn32tab", laid_math_bits_deBruijn32tab), ("math/bits.deBruijn64tab", laid_math_bits_deBruijn64tab), ("internal/strconv.uint64pow10", laid_internal_strconv_uint64pow10), ("shiftbell/need.names", laid_shiftbell_need_names)] }
def NeedBackSaid : Prop := needBackRow.holds Tryd.pinned (OpenSpec.ofChange needBackSpec)

/-- ITS FALSE NEIGHBOUR: 'it returns false'. Refute it at one input. -/
def needBackWrong : ChangeSpec := { name := "needBack", fn := fun _ => fun
  | [d1, d2] => { results := [.lit (.bool false)], args := [d1, d2] }
  | _ => none }
def NeedBackWrongFalsely : Prop := needBackRow.holds Tryd.pinned (OpenSpec.ofChange needBackWrong)

/-- 'shiftbellkeep.NeedOrder': WHATEVER THE INPUT: true; the input reads as it did. -/
def needOrderSpec : ChangeSpec := { name := "needOrder", fn := fun _ => fun
  | [d1, d2, d3] => { results := [.lit (.bool true)], args := [d1, d2, d3] }
  | _ => none }
def needOrderRow : OpenClaim := { program := "ytlbnoggnnibmjaadoor", sum := "f487d1e908fada807146219a63959ba1feebbde16e3b214f9b86f464b5d394da", func := "shiftbell/shiftbellkeep.NeedOrder", spec := "needOrder", inPlace := ["internal/abi.NoEscape", "internal/bytealg.MakeNoZero"], unfollowed := true, recurses := true, named := ["shiftbell/need.names", "internal/strconv.uint64pow10", "math/bits.deBruijn32tab", "math/bits.deBruijn64tab"], apart := false, laid := [("math/bits.deBruijn32tab", laid_math_bits_deBruijn32tab), ("math/bits.deBruijn64tab", laid_math_bits_deBruijn64tab), ("internal/strconv.uint64pow10", laid_internal_strconv_uint64pow10), ("shiftbell/need.names", laid_shiftbell_need_names)] }
def NeedOrderSaid : Prop := needOrderRow.holds Tryd.pinned (OpenSpec.ofChange needOrderSpec)

/-- ITS FALSE NEIGHBOUR: 'it returns false'. Refute it at one input. -/
def needOrderWrong : ChangeSpec := { name := "needOrder", fn := fun _ => fun
  | [d1, d2, d3] => { results := [.lit (.bool false)], args := [d1, d2, d3] }
  | _ => none }
def NeedOrderWrongFalsely : Prop := needOrderRow.holds Tryd.pinned (OpenSpec.ofChange needOrderWrong)

/-- 'shiftbellkeep.NeedText': WHATEVER THE INPUT: true; the input reads as it did. -/
def needTextSpec : ChangeSpec := { name := "needText", fn := fun _ => fun
  | [d1, d2] => { results := [.lit (.bool true)], args := [d1, d2] }
  | _ => none }
def needTextRow : OpenClaim := { program := "ytlbnoggnnibmjaadoor", sum := "f487d1e908fada807146219a63959ba1feebbde16e3b214f9b86f464b5d394da", func := "shiftbell/shiftbellkeep.NeedText", spec := "needText", inPlace := ["internal/abi.NoEscape", "internal/bytealg.MakeNoZero", "internal/bytealg.IndexByteString", "internal/bytealg.IndexString"], named := ["shiftbell/need.names", "internal/strconv.uint64pow10", "math/bits.deBruijn32tab", "math/bits.deBruijn64tab", "internal/bytealg.MaxLen"], apart := false, laid := [("math/bits.deBruijn32tab", laid_math_bits_deBruijn32tab), ("math/bits.deBruijn64tab", laid_math_bits_deBruijn64tab), ("internal/strconv.uint64pow10", laid_internal_strconv_uint64pow10), ("shiftbell/need.names", laid_shiftbell_need_names)] }
def NeedTextSaid : Prop := needTextRow.holds Tryd.pinned (OpenSpec.ofChange needTextSpec)

/-- ITS FALSE NEIGHBOUR: 'it returns false'. Refute it at one input. -/
def needTextWrong : ChangeSpec := { name := "needText", fn := fun _ => fun
  | [d1, d2] => { results := [.lit (.bool false)], args := [d1, d2] }
  | _ => none }
def NeedTextWrongFalsely : Prop := needTextRow.holds Tryd.pinned (OpenSpec.ofChange needTextWrong)

/- THE SECOND FORM. 'bulk': how many values and letters a reading holds, each counted each time it is reached (what is shared counts as often as it is met; a slice's spare places count too). A statement '..UptoSaid' is the law's where the arguments, and the package variables that the reading takes, are together of bulk at most 1048576: NARROWER than '..Said'. Prove '..Said' where nothing that the law and all that it calls make is longer than what came in: it says more and counts as full. Else prove '..UptoSaid'. A law counts once. -/
mutual
def uptoBulk {H : Type} : DataW H → Nat
  | .lit (.string bytes) => bytes.length + 1
  | .lit _ => 1
  | .nil => 1
  | .ptr d => uptoBulk d + 1
  | .slice elems spare => uptoBulkAll elems + uptoBulkAll spare + 1
  | .agg parts => uptoBulkAll parts + 1
  | .iface _ d => uptoBulk d + 1
  | .map entries => uptoBulkEntries entries + 1
  | .held _ => 1
def uptoBulkAll {H : Type} : List (DataW H) → Nat
  | [] => 0
  | d :: r => uptoBulk d + uptoBulkAll r
def uptoBulkEntries {H : Type} : List (Lit × DataW H) → Nat
  | [] => 0
  | x :: r => uptoBulkEntry x + uptoBulkEntries r
def uptoBulkEntry {H : Type} : Lit × DataW H → Nat
  | (.string bytes, d) => bytes.length + uptoBulk d + 1
  | (_, d) => uptoBulk d + 1
 end
def uptoSmall : (H : Type) → List (DataW H) → Bool := fun _ ds => decide (uptoBulkAll ds ≤ 1048576)
def OpenSpec.upto (s : _root_.Go.ChangeSpec) : _root_.Go.OpenSpec := { _root_.Go.OpenSpec.ofChange s with cond := some uptoSmall }

/-- 'shiftbelllaw.NeedReads', WHERE WHAT IT READS IS OF BULK AT MOST 1048576: true; the input reads as it did. -/
def needReadsUptoRow : OpenClaim := { program := "ytlbnoggnnibmjaadoor", sum := "f487d1e908fada807146219a63959ba1feebbde16e3b214f9b86f464b5d394da", func := "shiftbell/shiftbelllaw.NeedReads", spec := "needReads", inPlace := ["internal/abi.NoEscape", "internal/bytealg.MakeNoZero", "internal/bytealg.IndexByteString", "internal/bytealg.IndexString"], recurses := true, named := ["shiftbell/need.names", "internal/strconv.uint64pow10", "math/bits.deBruijn32tab", "math/bits.deBruijn64tab", "internal/bytealg.MaxLen"], apart := false, laid := [("math/bits.deBruijn32tab", laid_math_bits_deBruijn32tab), ("math/bits.deBruijn64tab", laid_math_bits_deBruijn64tab), ("internal/strconv.uint64pow10", laid_internal_strconv_uint64pow10), ("shiftbell/need.names", laid_shiftbell_need_names)], narrowed := true }
def NeedReadsUptoSaid : Prop := needReadsUptoRow.holds Tryd.pinned (OpenSpec.upto needReadsSpec)

/-- 'shiftbellkeep.NeedSums', WHERE WHAT IT READS IS OF BULK AT MOST 1048576: true; the input reads as it did. -/
def needSumsUptoRow : OpenClaim := { program := "ytlbnoggnnibmjaadoor", sum := "f487d1e908fada807146219a63959ba1feebbde16e3b214f9b86f464b5d394da", func := "shiftbell/shiftbellkeep.NeedSums", spec := "needSums", inPlace := ["internal/abi.NoEscape", "internal/bytealg.MakeNoZero"], named := ["shiftbell/need.names", "internal/strconv.uint64pow10", "math/bits.deBruijn32tab", "math/bits.deBruijn64tab"], apart := false, laid := [("math/bits.deBruijn32tab", laid_math_bits_deBruijn32tab), ("math/bits.deBruijn64tab", laid_math_bits_deBruijn64tab), ("internal/strconv.uint64pow10", laid_internal_strconv_uint64pow10), ("shiftbell/need.names", laid_shiftbell_need_names)], narrowed := true }
def NeedSumsUptoSaid : Prop := needSumsUptoRow.holds Tryd.pinned (OpenSpec.upto needSumsSpec)

/-- 'shiftbellkeep.NeedBack', WHERE WHAT IT READS IS OF BULK AT MOST 1048576: true; the input reads as it did. -/
def needBackUptoRow : OpenClaim := { program := "ytlbnoggnnibmjaadoor", sum := "f487d1e908fada807146219a63959ba1feebbde16e3b214f9b86f464b5d394da", func := "shiftbell/shiftbellkeep.NeedBack", spec := "needBack", inPlace := ["internal/abi.NoEscape", "internal/bytealg.MakeNoZero"], named := ["shiftbell/need.names", "internal/strconv.uint64pow10", "math/bits.deBruijn32tab", "math/bits.deBruijn64tab"], apart := false, laid := [("math/bits.deBruijn32tab", laid_math_bits_deBruijn32tab), ("math/bits.deBruijn64tab", laid_math_bits_deBruijn64tab), ("internal/strconv.uint64pow10", laid_internal_strconv_uint64pow10), ("shiftbell/need.names", laid_shiftbell_need_names)], narrowed := true }
def NeedBackUptoSaid : Prop := needBackUptoRow.holds Tryd.pinned (OpenSpec.upto needBackSpec)

/-- 'shiftbellkeep.NeedOrder', WHERE WHAT IT READS IS OF BULK AT MOST 1048576: true; the input reads as it did. -/
def needOrderUptoRow : OpenClaim := { program := "ytlbnoggnnibmjaadoor", sum := "f487d1e908fada807146219a63959ba1feebbde16e3b214f9b86f464b5d394da", func := "shiftbell/shiftbellkeep.NeedOrder", spec := "needOrder", inPlace := ["internal/abi.NoEscape", "internal/bytealg.MakeNoZero"], unfollowed := true, recurses := true, named := ["shiftbell/need.names", "internal/strconv.uint64pow10", "math/bits.deBruijn32tab", "math/bits.deBruijn64tab"], apart := false, laid := [("math/bits.deBruijn32tab", laid_math_bits_deBruijn32tab), ("math/bits.deBruijn64tab", laid_math_bits_deBruijn64tab), ("internal/strconv.uint64pow10", laid_internal_strconv_uint64pow10), ("shiftbell/need.names", laid_shiftbell_need_names)], narrowed := true }
def NeedOrderUptoSaid : Prop := needOrderUptoRow.holds Tryd.pinned (OpenSpec.upto needOrderSpec)

/-- 'shiftbellkeep.NeedText', WHERE WHAT IT READS IS OF BULK AT MOST 1048576: true; the input reads as it did. -/
def needTextUptoRow : OpenClaim := { program := "ytlbnoggnnibmjaadoor", sum := "f487d1e908fada807146219a63959ba1feebbde16e3b214f9b86f464b5d394da", func := "shiftbell/shiftbellkeep.NeedText", spec := "needText", inPlace := ["internal/abi.NoEscape", "internal/bytealg.MakeNoZero", "internal/bytealg.IndexByteString", "internal/bytealg.IndexString"], named := ["shiftbell/need.names", "internal/strconv.uint64pow10", "math/bits.deBruijn32tab", "math/bits.deBruijn64tab", "internal/bytealg.MaxLen"], apart := false, laid := [("math/bits.deBruijn32tab", laid_math_bits_deBruijn32tab), ("math/bits.deBruijn64tab", laid_math_bits_deBruijn64tab), ("internal/strconv.uint64pow10", laid_internal_strconv_uint64pow10), ("shiftbell/need.names", laid_shiftbell_need_names)], narrowed := true }
def NeedTextUptoSaid : Prop := needTextUptoRow.holds Tryd.pinned (OpenSpec.upto needTextSpec)

end Rows
end Go.Proofs.YtlbnoggnnibmjaaDoor
