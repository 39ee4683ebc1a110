/- A slice of numbers that is handed in, opened: its cells. -/
import Derived.Test.YthfpdbogbmccjaaDoorPw
import Derived.ChangeSlices
import Derived.Deep.Slices
import Derived.Deep.DeepHandedRow
namespace Go.Proofs.YthfpdbogbmccjaaDoor
open Go.ChangeShapes Go.WideShapes Go.ChangeAt Go.RowKit Go.Deep Gm
set_option linter.unusedSectionVars false

theorem open_nums {H : Type} {enc : TypeId × Value → H} {P : Program} {W : World} {r : Reach} {b0 : Nat} {sp : Nat → Bool} {held : Bool} {t e : TypeId} {v : Value} {d : DataW H} {ps : List MemPlace} (ht : P.underlying t = some (.slice e)) (he : P.underlying e = some (.int .i64)) (hC : P.cellsOf e = 1)
    (hval : Value.okWide P W r b0 t v) (h : DataW.Trod enc P W 0 sp held t v d ps) : ∃ (q : Option Addr) (l : List Int) (cap : Nat), v = .slice q l.length cap ∧ Nums W q l ∧ l.length ≤ cap := by
  obtain ⟨a0, len0, cap0, rfl⟩ := okWide_slice ht hval
  obtain ⟨fuel, hf⟩ := h
  rcases Go.ChangeShapes.open_ints ht he hC hf with ⟨hcs, _⟩ | ⟨a, len, cap, zs, hcs, _, hl, hm, hzl, _, hcell, _⟩
  · have e0 : Value.slice a0 len0 cap0 = .slice none 0 0 := by simpa [Value.cells] using hcs
    exact ⟨none, [], 0, e0, Or.inl rfl, Nat.le_refl _⟩
  · have e0 : Value.slice a0 len0 cap0 = .slice (some a) len cap := by simpa [Value.cells] using hcs
    have hlz : len ≤ zs.length := by rw [hzl]; split <;> omega
    have htl : (zs.take len).length = len := by simp; omega
    refine ⟨some a, zs.take len, cap, by rw [e0, htl], ?_, by rw [htl]; exact hl⟩
    by_cases h0 : len = 0
    · exact Or.inl (by rw [htl]; exact h0)
    · obtain ⟨b, o, s⟩ := a
      have c0 := hcell 0 (by omega)
      obtain rfl : s = none := by
        cases s with
        | none => rfl
        | some z =>
          exfalso
          simp only [World.cell?, Addr.add] at c0
          split at c0 <;> simp_all
      refine Or.inr ⟨b, o, rfl, ⟨?_, fun j hj => ?_⟩⟩
      · rw [Addr.add_lit] at c0
        exact World.block_lt_of_cell? W _ c0
      · rw [htl] at hj
        have := hcell j (by omega)
        rw [Addr.add_lit] at this
        rw [this]
        simp [nm, hj]
end Go.Proofs.YthfpdbogbmccjaaDoor
