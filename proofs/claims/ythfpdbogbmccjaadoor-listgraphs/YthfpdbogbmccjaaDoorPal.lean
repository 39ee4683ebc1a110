/- Whether path is alive; a plan in a box. -/
import Derived.Test.YthfpdbogbmccjaaDoorPti
namespace Go.Proofs.YthfpdbogbmccjaaDoor
open Go.RowKit Gm Pm
set_option linter.unusedSectionVars false
set_option linter.unusedVariables false

/-- A plan that is laid into a new box. -/
theorem plan_box (w2 : World) (cs : Array Value) : Below w2.heap.size w2 ((w2.alloc (.cells #[.slice none 0 0, .slice none 0 0, .int .i64 0] 35)).setRow w2.heap.size cs) ∧ ((w2.alloc (.cells #[.slice none 0 0, .slice none 0 0, .int .i64 0] 35)).setRow w2.heap.size cs).heap[w2.heap.size]? = some (.cells cs 35 (0, 0)) :=
  ⟨below_row ((Below.refl _ _).alloc (Nat.le_refl _) _) (Nat.le_refl _), setRow_heap _ _ _ _ _ _ (heap_alloc_new w2 _)⟩
theorem box_cell {w : World} {g : Nat} {cs : Array Value} (h : w.heap[g]? = some (.cells cs 35 (0, 0))) (k : Nat) {v : Value} (hv : cs[k]? = some v) : w.cell? ⟨g, k, none⟩ = some v := (cell_of_row _ _ k _ _ _ h).trans hv

theorem alive_pe : pe 1 [] [5] = 0 := by
  have h0 : chk 1 [] = 0 := by decide
  have hk : ¬ 0 < (bl (fun i => wB [] i i) 60).length := fun h => by
    obtain ⟨i, hi⟩ := (knot_cyc h0).2 h
    cases hi with
    | one e => simp [eB] at e
    | more e _ => simp [eB] at e
  unfold pe
  rw [if_pos h0, if_pos ⟨by simp, by decide⟩, if_neg hk]
theorem alive_span {E L : Nat → Int} {S : Int} (h : Pln [] (nm [5]) 1 E L S) : S = 5 := by
  have e0 : E 0 = 0 := by
    rcases h.e.why 0 (by omega) with e | ⟨i, hi, _⟩
    · exact e
    · simp [eB] at hi
  have hn : nm [5] 0 = 5 := rfl
  have h1 := h.s.up 0 (by omega)
  rcases h.s.why with e | ⟨i, hi, e⟩
  · omega
  · obtain rfl : i = 0 := by omega
    omega

end Go.Proofs.YthfpdbogbmccjaaDoor
