/- Whether path is alive; a plan in a box. -/
import Derived.Test.YtncjnmlgkhngaaaDoorPti
namespace Go.Proofs.YtncjnmlgkhngaaaDoor
open Go.RowKit Gm Pm
set_option linter.unusedSectionVars false
set_option linter.unusedVariables false

/-- A plan that is laid into a new box. -/
theorem plan_box (w2 : World) (cs : Array Value) : Below w2.heap.size w2 ((w2.alloc (.cells #[.slice none 0 0, .slice none 0 0, .int .i64 0] 49)).setRow w2.heap.size cs) ∧ ((w2.alloc (.cells #[.slice none 0 0, .slice none 0 0, .int .i64 0] 49)).setRow w2.heap.size cs).heap[w2.heap.size]? = some (.cells cs 49 (0, 0)) :=
  ⟨below_row ((Below.refl _ _).alloc (Nat.le_refl _) _) (Nat.le_refl _), setRow_heap _ _ _ _ _ _ (heap_alloc_new w2 _)⟩
theorem box_cell {w : World} {g : Nat} {cs : Array Value} (h : w.heap[g]? = some (.cells cs 49 (0, 0))) (k : Nat) {v : Value} (hv : cs[k]? = some v) : w.cell? ⟨g, k, none⟩ = some v := (cell_of_row _ _ k _ _ _ h).trans hv

theorem alive_pe : pe 1 [] [5] = 0 := by
  have h0 : chk 1 [] = 0 := by decide
  have hk : ¬ 0 < (bl (fun i => wB [] i i) 60).length := fun h => by
    obtain ⟨i, hi⟩ := (knot_cyc h0).2 h
    cases hi with
    | one e => simp [eB] at e
    | more e _ => simp [eB] at e
  unfold pe
  rw [if_pos h0, if_pos ⟨by simp, by decide⟩, if_neg hk]
theorem alive_span {E L : Nat → Int} {S : Int} (h : Pln [] (nm [5]) 1 E L S) : S = 5 := by
  have e0 : E 0 = 0 := by
    rcases h.e.why 0 (by omega) with e | ⟨i, hi, _⟩
    · exact e
    · simp [eB] at hi
  have hn : nm [5] 0 = 5 := rfl
  have h1 := h.s.up 0 (by omega)
  rcases h.s.why with e | ⟨i, hi, e⟩
  · omega
  · obtain rfl : i = 0 := by omega
    omega

set_option maxHeartbeats 1000000 in
set_option maxRecDepth 100000 in
theorem paths_any (w : World) (hZ : TabZ w) : Calls Tryd.prog 34 #[] w fun e w' => e = .returned (.bool true) ∧ Below w.heap.size w w' := by
  have hn := heap_alloc_new w (.cells #[.int .i64 5] 2)
  have hbA : Below w.heap.size w (w.alloc (.cells #[.int .i64 5] 2)) := (Below.refl _ _).alloc (Nat.le_refl _) _
  have hti := times_ok (n := 1) (l := []) (d := [5]) (cap := 0) (cd := 1) (w := w.alloc (.cells #[.int .i64 5] 2)) (q := none) (pd := some ⟨w.heap.size, 0, none⟩) (Or.inl rfl) (hZ.below hbA (Nat.le_refl _)) (Or.inr ⟨w.heap.size, 0, rfl, by simp, fun j hj => by
    obtain rfl : j = 0 := by simpa using hj
    exact (cell_of_row _ _ 0 _ _ _ hn).trans rfl⟩) alive_pe
  simp only [List.length_cons, List.length_nil, Nat.zero_add] at hti
  clear hn hZ
  go_enter Tryd.func34, Tryd.ntmps34
  go_wp2_with (first
    | (go_at_call 28; refine hti.mono ?_; rintro e w2 ⟨⟨E, L, S, pE, cE, pL, cL, rfl, hP, _, _⟩, hb2⟩; clear hti; obtain rfl := alive_span hP; clear hP; have hB2 : Below w.heap.size w w2 := hbA.trans (hb2.mono hbA.size); obtain ⟨hbz, hz⟩ := plan_box w2 #[.slice pE 1 cE, .slice pL 1 cL, .int .i64 5])
    | (refine wpList_store_row rfl 49 _ _ rfl _ #[.slice pE 1 cE, .slice pL 1 cL, .int .i64 5] rfl rfl _ _ (heap_alloc_new w2 _) (plan_info _ rfl) rfl (plan_one _ _ _ _ _ _ _) ?_; generalize World.setRow (w2.alloc (.cells #[.slice none 0 0, .slice none 0 0, .int .i64 0] 49)) w2.heap.size #[.slice pE 1 cE, .slice pL 1 cL, .int .i64 5] = wz at *; have p2 : wz.cell? ⟨w2.heap.size, 2, none⟩ = some (.int .i64 5) := box_cell hz 2 rfl)
    | go_in)
  go_ret
  exact ⟨by first | rfl | simp, hB2.trans (hbz.mono hB2.size)⟩
end Go.Proofs.YtncjnmlgkhngaaaDoor
