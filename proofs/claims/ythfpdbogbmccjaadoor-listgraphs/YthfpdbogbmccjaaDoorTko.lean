/- Beside Tkc: several operations that may be carried out now, each in turn. No program is named here. -/
import Derived.Test.YthfpdbogbmccjaaDoorTkc
namespace Go.Proofs.YthfpdbogbmccjaaDoor.Tkc
open Go
section
variable {P : Program} {ops : Array Oper} {Q : Exit → Act → World → Prop} {md : Region.Mode} {C : World → Prop} {s : Nat}
theorem manyC {f : Nat} {listed : Array Bool} {a : Act} {w : World} (L : List Nat) (hr : Region.ready md ops listed = L) (hL : L ≠ []) (hc : listed.getD s false = false → C w)
    (h : ∀ i ∈ L, wpOp P ops Q i (anyC P md ops C s Q f (listed.setIfInBounds i true)) a w) : anyC P md ops C s Q (f + 1) listed a w :=
  ⟨hc, fun h0 => absurd (hr.symm.trans h0) hL, fun i hi => h i (hr ▸ hi)⟩
theorem opC {i : Nat} {o : Oper} {f : Nat} {listed : Array Bool} {a : Act} {w : World} (hi : ops[i]? = some o) (hw : Region.wanted o (yielded ops a.tmps) = true)
    (h : ∀ K : Act → World → Prop, (∀ a w, anyC P md ops C s Q f (listed.setIfInBounds i true) a w → K a w) → o.wp P a w K Q) : wpOp P ops Q i (anyC P md ops C s Q f (listed.setIfInBounds i true)) a w := by
  simp only [wpOp, hi, hw, if_true]
  exact Or.inl (h _ fun _ _ hh => hh)
end
end Go.Proofs.YthfpdbogbmccjaaDoor.Tkc
