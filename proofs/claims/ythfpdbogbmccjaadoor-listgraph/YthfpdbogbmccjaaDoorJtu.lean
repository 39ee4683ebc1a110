/- ListTurns, walked. -/
import Derived.Test.YthfpdbogbmccjaaDoorOls
import Derived.Test.YthfpdbogbmccjaaDoorJsa
namespace Go.Proofs.YthfpdbogbmccjaaDoor
open Go.RowKit Gm Pm
set_option linter.unusedSectionVars false
set_option linter.unusedVariables false

/-- What is true of the turns that Graph gives. -/
structure Tf (n m : Nat) (l : List Ed) (d : Nat → Int) (t : Int) (A H : Nat → Int) : Prop where
  ran : ∀ i, i < n → 0 ≤ A i ∧ A i + d i ≤ t ∧ 0 ≤ H i ∧ H i < (m : Int)
  tb : 0 ≤ t ∧ t ≤ 60000000000
  ap : ∀ i k, i < n → k < n → i ≠ k → H i = H k → A i + d i ≤ A k ∨ A k + d k ≤ A i
  ed : ∀ k i, k < n → i < n → eB l k i = true → A k + d k ≤ A i
theorem Gok.facts {w0 w : World} {gT n m : Nat} {l : List Ed} {d : Nat → Int} {t : Int} {s : Wst} (h : Gok w0 w gT n m l d t s) (hg : Gr n l) (hac : ∀ i, ¬ Rch (eB l) i i) (hd : ∀ i, i < n → 0 ≤ d i ∧ d i ≤ 1000000000) (hm : 1 ≤ m) : Tf n m l d t s.A s.H := by
  obtain ⟨hw, _, _⟩ := h.run.both hg hd
  have hb := h.run.bnd hg hd
  have hall := hw.all hg hac hd ⟨hb.1, by omega⟩ hm h.stk h.nx
  have hE : ∀ i, i < n → 0 ≤ s.A i ∧ s.E i = s.A i + d i ∧ 0 ≤ s.H i ∧ s.H i < (m : Int) := fun i hi => by
    rcases hw.job i hi with e | ⟨h1, h2, h3, h4, h5, _⟩
    · exact absurd e (hall i hi).1
    · exact ⟨h1, h3, h4, h5⟩
  refine ⟨fun i hi => ?_, hb, fun i k hi hk hik hH => ?_, fun k i hk hi he => ?_⟩
  · obtain ⟨h1, h2, h3, h4⟩ := hE i hi
    have := (hall i hi).2
    exact ⟨h1, by omega, h3, h4⟩
  · have := hw.apart i k hi hk hik (hall i hi).1 (hall k hk).1 hH
    have h1 := (hE i hi).2.1
    have h2 := (hE k hk).2.1
    rw [h1, h2] at this
    exact this
  · have := (hw.edge k i he (hall i hi).1).2
    have h1 := (hE k hk).2.1
    omega

end Go.Proofs.YthfpdbogbmccjaaDoor
