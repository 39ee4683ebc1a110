/- ListGraham, walked. -/
import Derived.Test.YthfpdbogbmccjaaDoorOjr
namespace Go.Proofs.YthfpdbogbmccjaaDoor
open Go.RowKit Gm Pm
set_option linter.unusedSectionVars false
set_option linter.unusedVariables false
set_option maxHeartbeats 1000000 in
set_option maxRecDepth 100000 in
theorem lists_any (w : World) : Calls Tryd.prog 9 #[] w fun e w' => e = .returned (.bool true) ∧ Below w.heap.size w w' := by
  have hn := heap_alloc_new w (.cells #[.int .i64 3, .int .i64 4] 2)
  have hN : Nums (w.alloc (.cells #[.int .i64 3, .int .i64 4] 2)) (some ⟨w.heap.size, 0, none⟩) [3, 4] := Or.inr ⟨w.heap.size, 0, rfl, by simp, fun j hj => by
    have e : j = 0 ∨ j = 1 := by simp at hj; omega
    rcases e with rfl | rfl
    · exact (cell_of_row _ _ 0 _ _ _ hn).trans rfl
    · exact (cell_of_row _ _ 1 _ _ _ hn).trans rfl⟩
  have hbA : Hid (Below w.heap.size w (w.alloc (.cells #[.int .i64 3, .int .i64 4] 2))) := (Below.refl _ _).alloc (Nat.le_refl _) _
  have hsz : Hid (w.heap.size ≤ (w.alloc (.cells #[.int .i64 3, .int .i64 4] 2)).heap.size) := hbA.out.size
  have hf := Run_ok (c := 2) (m := 2) hN (by decide)
  have e1 : xm (lsA [3, 4] 2 (List.range [(3 : Int), 4].length)).W 2 = 4 := by decide
  rw [e1] at hf
  clear hn hN e1
  simp only [List.length_cons, List.length_nil, Nat.zero_add] at hf
  go_enter Tryd.func9, Tryd.ntmps9
  go_wp2_with (first
    | (go_at_call 17; refine hf.mono ?_; rintro e w2 ⟨⟨g, rfl, hr⟩, hb⟩; clear hf)
    | fail)
  go_ret
  exact ⟨ret_b (by first | rfl | simp), hbA.out.trans (hb.mono hsz.out)⟩

end Go.Proofs.YthfpdbogbmccjaaDoor
