/- What lies in a slice of numbers, at one place. -/
import Derived.Test.YthfpdbogbmccjaaDoorOls
namespace Go.Proofs.YthfpdbogbmccjaaDoor
open Go.RowKit Gm Pm
set_option linter.unusedSectionVars false
set_option linter.unusedVariables false

theorem Nums.at'' {w : World} {q : Option Addr} {d : List Int} (h : Nums w q d) {i : Nat} (hi : i < d.length) : ∃ b o, q = some ⟨b, o, none⟩ ∧ w.cell? ⟨b, o + i, none⟩ = some (.int .i64 (nm d i)) := by
  rcases h with h0 | ⟨b, o, e, hA⟩
  · omega
  · exact ⟨b, o, e, hA.c i hi⟩
end Go.Proofs.YthfpdbogbmccjaaDoor
