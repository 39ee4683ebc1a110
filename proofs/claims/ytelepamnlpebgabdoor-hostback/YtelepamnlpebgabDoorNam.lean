/- Package need, walked: Amount. -/
import Derived.Test.YtelepamnlpebgabDoorNtx
namespace Go.Proofs.YtelepamnlpebgabDoor
open Go.RowKit Ndm
set_option linter.unusedSectionVars false
set_option linter.unusedVariables false

/-- An amount by its name. -/
def amV (a : N3) (l : List UInt8) : Int := if [99, 112, 117] = l then a.x else if [109, 101, 109] = l then a.y else if [103, 112, 117] = l then a.z else 0
def amB (l : List UInt8) : Bool := decide ([99, 112, 117] = l) || (decide ([109, 101, 109] = l) || decide ([103, 112, 117] = l))
theorem nx0 : ∀ w, (Instr.index 114 (.agg #[.string ⟨#[99, 112, 117]⟩, .string ⟨#[109, 101, 109]⟩, .string ⟨#[103, 112, 117]⟩]) (.int .i64 0)).run Tryd.prog w = .ok (.string ⟨#[99, 112, 117]⟩) w := fun _ => by kernel_rfl
theorem nx1 : ∀ w, (Instr.index 114 (.agg #[.string ⟨#[99, 112, 117]⟩, .string ⟨#[109, 101, 109]⟩, .string ⟨#[103, 112, 117]⟩]) (.int .i64 1)).run Tryd.prog w = .ok (.string ⟨#[109, 101, 109]⟩) w := fun _ => by kernel_rfl
theorem nx2 : ∀ w, (Instr.index 114 (.agg #[.string ⟨#[99, 112, 117]⟩, .string ⟨#[109, 101, 109]⟩, .string ⟨#[103, 112, 117]⟩]) (.int .i64 2)).run Tryd.prog w = .ok (.string ⟨#[103, 112, 117]⟩) w := fun _ => by kernel_rfl

set_option maxHeartbeats 2000000 in
set_option maxRecDepth 100000 in
theorem Amount_any (a : N3) (s : List UInt8) (w : World) (hM : TabM w) : Calls Tryd.prog 75 #[(.agg #[.int .i64 a.x, .int .i64 a.y, .int .i64 a.z]), .string ⟨s.toArray⟩] w fun e w' => e = .returned (.tuple #[.int .i64 (amV a s), .bool (amB s)]) ∧ Below w.heap.size w w' := by
  have h1 : (w.alloc (.cells #[.int .i64 a.x, .int .i64 a.y, .int .i64 a.z] 27)).heap[w.heap.size]? = some (.cells #[.int .i64 a.x, .int .i64 a.y, .int .i64 a.z] 27 (0, 0)) := heap_alloc_new _ _
  have hB0 : Hid (Below w.heap.size w (w.alloc (.cells #[.int .i64 a.x, .int .i64 a.y, .int .i64 a.z] 27))) := (Below.refl _ _).alloc (Nat.le_refl _) _
  have ham := amounts_any a (w.alloc (.cells #[.int .i64 a.x, .int .i64 a.y, .int .i64 a.z] 27))
  have n0 := nx0
  have n1 := nx1
  have n2 := nx2
  have hMb : Hid (∀ w1, Below w.heap.size w w1 → TabM w1) := fun w1 hb => hM.below hb (Nat.le_refl _)
  clear hM
  unfold amV amB
  rcases (show [99, 112, 117] = s ∨ ¬ [99, 112, 117] = s ∧ [109, 101, 109] = s ∨ (¬ [99, 112, 117] = s ∧ ¬ [109, 101, 109] = s) ∧ [103, 112, 117] = s ∨ (¬ [99, 112, 117] = s ∧ ¬ [109, 101, 109] = s) ∧ ¬ [103, 112, 117] = s by by_cases p : [99, 112, 117] = s <;> by_cases q : [109, 101, 109] = s <;> by_cases r : [103, 112, 117] = s <;> simp_all) with e | ⟨e0, e⟩ | ⟨⟨e0, e1⟩, e⟩ | ⟨⟨e0, e1⟩, e2⟩
  · have g0 : (([99, 112, 117] : List UInt8) == s) = true := by simpa using e
    rw [if_pos e, decide_eq_true e]
    clear e
    go_enter Tryd.func75, Tryd.ntmps75
    go_wp2_with (first
      | (refine load_wanted rfl 27 _ rfl _ rfl _ _ _ _ h1 Tryd.underlying27 rfl (need_info _ rfl) ?_)
      | (go_at_call 90; refine ham.mono ?_; rintro e w3 ⟨rfl, hb3⟩; have hB3 : Below w.heap.size w w3 := hB0.out.trans (hb3.mono hB0.out.size); have hx : (w3.alloc (.cells #[.int .i64 a.x, .int .i64 a.y, .int .i64 a.z] 76)).heap[w3.heap.size]? = some (.cells #[.int .i64 a.x, .int .i64 a.y, .int .i64 a.z] 76 (0, 0)) := heap_alloc_new _ _; have hBx : Hid (Below w.heap.size w (w3.alloc (.cells #[.int .i64 a.x, .int .i64 a.y, .int .i64 a.z] 76))) := hB3.alloc hB3.size _; have c0 : (w3.alloc (.cells #[.int .i64 a.x, .int .i64 a.y, .int .i64 a.z] 76)).cell? ⟨0, 0, none⟩ = some (.string ⟨#[99, 112, 117]⟩) := hMb.out _ hBx.out 0 (by omega); have c1 : (w3.alloc (.cells #[.int .i64 a.x, .int .i64 a.y, .int .i64 a.z] 76)).cell? ⟨0, 1, none⟩ = some (.string ⟨#[109, 101, 109]⟩) := hMb.out _ hBx.out 1 (by omega); have c2 : (w3.alloc (.cells #[.int .i64 a.x, .int .i64 a.y, .int .i64 a.z] 76)).cell? ⟨0, 2, none⟩ = some (.string ⟨#[103, 112, 117]⟩) := hMb.out _ hBx.out 2 (by omega); clear ham hB3 hb3 h1)
      | go_in)
    have y0 := (cell_of_row _ _ 0 _ _ _ hx).trans rfl
    have y1 := (cell_of_row _ _ 1 _ _ _ hx).trans rfl
    have y2 := (cell_of_row _ _ 2 _ _ _ hx).trans rfl
    refine wp_loop_rounds 5 ?_
    rw [rounds_succ]
    go_wp2
    go_ret2
    exact ⟨by first | rfl | simp, hBx.out⟩
  · have g0 : (([99, 112, 117] : List UInt8) == s) = false := by simpa using e0
    have g1 : (([109, 101, 109] : List UInt8) == s) = true := by simpa using e
    rw [if_neg e0, if_pos e, decide_eq_false e0, decide_eq_true e]
    clear e0 e
    go_enter Tryd.func75, Tryd.ntmps75
    go_wp2_with (first
      | (refine load_wanted rfl 27 _ rfl _ rfl _ _ _ _ h1 Tryd.underlying27 rfl (need_info _ rfl) ?_)
      | (go_at_call 90; refine ham.mono ?_; rintro e w3 ⟨rfl, hb3⟩; have hB3 : Below w.heap.size w w3 := hB0.out.trans (hb3.mono hB0.out.size); have hx : (w3.alloc (.cells #[.int .i64 a.x, .int .i64 a.y, .int .i64 a.z] 76)).heap[w3.heap.size]? = some (.cells #[.int .i64 a.x, .int .i64 a.y, .int .i64 a.z] 76 (0, 0)) := heap_alloc_new _ _; have hBx : Hid (Below w.heap.size w (w3.alloc (.cells #[.int .i64 a.x, .int .i64 a.y, .int .i64 a.z] 76))) := hB3.alloc hB3.size _; have c0 : (w3.alloc (.cells #[.int .i64 a.x, .int .i64 a.y, .int .i64 a.z] 76)).cell? ⟨0, 0, none⟩ = some (.string ⟨#[99, 112, 117]⟩) := hMb.out _ hBx.out 0 (by omega); have c1 : (w3.alloc (.cells #[.int .i64 a.x, .int .i64 a.y, .int .i64 a.z] 76)).cell? ⟨0, 1, none⟩ = some (.string ⟨#[109, 101, 109]⟩) := hMb.out _ hBx.out 1 (by omega); have c2 : (w3.alloc (.cells #[.int .i64 a.x, .int .i64 a.y, .int .i64 a.z] 76)).cell? ⟨0, 2, none⟩ = some (.string ⟨#[103, 112, 117]⟩) := hMb.out _ hBx.out 2 (by omega); clear ham hB3 hb3 h1)
      | go_in)
    have y0 := (cell_of_row _ _ 0 _ _ _ hx).trans rfl
    have y1 := (cell_of_row _ _ 1 _ _ _ hx).trans rfl
    have y2 := (cell_of_row _ _ 2 _ _ _ hx).trans rfl
    refine wp_loop_rounds 5 ?_
    rw [rounds_succ]
    go_wp2
    rw [rounds_succ]
    go_wp2
    go_ret2
    exact ⟨by first | rfl | simp, hBx.out⟩
  · have g0 : (([99, 112, 117] : List UInt8) == s) = false := by simpa using e0
    have g1 : (([109, 101, 109] : List UInt8) == s) = false := by simpa using e1
    have g2 : (([103, 112, 117] : List UInt8) == s) = true := by simpa using e
    rw [if_neg e0, if_neg e1, if_pos e, decide_eq_false e0, decide_eq_false e1, decide_eq_true e]
    clear e0 e1 e
    go_enter Tryd.func75, Tryd.ntmps75
    go_wp2_with (first
      | (refine load_wanted rfl 27 _ rfl _ rfl _ _ _ _ h1 Tryd.underlying27 rfl (need_info _ rfl) ?_)
      | (go_at_call 90; refine ham.mono ?_; rintro e w3 ⟨rfl, hb3⟩; have hB3 : Below w.heap.size w w3 := hB0.out.trans (hb3.mono hB0.out.size); have hx : (w3.alloc (.cells #[.int .i64 a.x, .int .i64 a.y, .int .i64 a.z] 76)).heap[w3.heap.size]? = some (.cells #[.int .i64 a.x, .int .i64 a.y, .int .i64 a.z] 76 (0, 0)) := heap_alloc_new _ _; have hBx : Hid (Below w.heap.size w (w3.alloc (.cells #[.int .i64 a.x, .int .i64 a.y, .int .i64 a.z] 76))) := hB3.alloc hB3.size _; have c0 : (w3.alloc (.cells #[.int .i64 a.x, .int .i64 a.y, .int .i64 a.z] 76)).cell? ⟨0, 0, none⟩ = some (.string ⟨#[99, 112, 117]⟩) := hMb.out _ hBx.out 0 (by omega); have c1 : (w3.alloc (.cells #[.int .i64 a.x, .int .i64 a.y, .int .i64 a.z] 76)).cell? ⟨0, 1, none⟩ = some (.string ⟨#[109, 101, 109]⟩) := hMb.out _ hBx.out 1 (by omega); have c2 : (w3.alloc (.cells #[.int .i64 a.x, .int .i64 a.y, .int .i64 a.z] 76)).cell? ⟨0, 2, none⟩ = some (.string ⟨#[103, 112, 117]⟩) := hMb.out _ hBx.out 2 (by omega); clear ham hB3 hb3 h1)
      | go_in)
    have y0 := (cell_of_row _ _ 0 _ _ _ hx).trans rfl
    have y1 := (cell_of_row _ _ 1 _ _ _ hx).trans rfl
    have y2 := (cell_of_row _ _ 2 _ _ _ hx).trans rfl
    refine wp_loop_rounds 5 ?_
    rw [rounds_succ]
    go_wp2
    rw [rounds_succ]
    go_wp2
    rw [rounds_succ]
    go_wp2
    go_ret2
    exact ⟨by first | rfl | simp, hBx.out⟩
  · have g0 : (([99, 112, 117] : List UInt8) == s) = false := by simpa using e0
    have g1 : (([109, 101, 109] : List UInt8) == s) = false := by simpa using e1
    have g2 : (([103, 112, 117] : List UInt8) == s) = false := by simpa using e2
    rw [if_neg e0, if_neg e1, if_neg e2, decide_eq_false e0, decide_eq_false e1, decide_eq_false e2]
    clear e0 e1 e2
    go_enter Tryd.func75, Tryd.ntmps75
    go_wp2_with (first
      | (refine load_wanted rfl 27 _ rfl _ rfl _ _ _ _ h1 Tryd.underlying27 rfl (need_info _ rfl) ?_)
      | (go_at_call 90; refine ham.mono ?_; rintro e w3 ⟨rfl, hb3⟩; have hB3 : Below w.heap.size w w3 := hB0.out.trans (hb3.mono hB0.out.size); have hx : (w3.alloc (.cells #[.int .i64 a.x, .int .i64 a.y, .int .i64 a.z] 76)).heap[w3.heap.size]? = some (.cells #[.int .i64 a.x, .int .i64 a.y, .int .i64 a.z] 76 (0, 0)) := heap_alloc_new _ _; have hBx : Hid (Below w.heap.size w (w3.alloc (.cells #[.int .i64 a.x, .int .i64 a.y, .int .i64 a.z] 76))) := hB3.alloc hB3.size _; have c0 : (w3.alloc (.cells #[.int .i64 a.x, .int .i64 a.y, .int .i64 a.z] 76)).cell? ⟨0, 0, none⟩ = some (.string ⟨#[99, 112, 117]⟩) := hMb.out _ hBx.out 0 (by omega); have c1 : (w3.alloc (.cells #[.int .i64 a.x, .int .i64 a.y, .int .i64 a.z] 76)).cell? ⟨0, 1, none⟩ = some (.string ⟨#[109, 101, 109]⟩) := hMb.out _ hBx.out 1 (by omega); have c2 : (w3.alloc (.cells #[.int .i64 a.x, .int .i64 a.y, .int .i64 a.z] 76)).cell? ⟨0, 2, none⟩ = some (.string ⟨#[103, 112, 117]⟩) := hMb.out _ hBx.out 2 (by omega); clear ham hB3 hb3 h1)
      | go_in)
    have y0 := (cell_of_row _ _ 0 _ _ _ hx).trans rfl
    have y1 := (cell_of_row _ _ 1 _ _ _ hx).trans rfl
    have y2 := (cell_of_row _ _ 2 _ _ _ hx).trans rfl
    refine wp_loop_rounds 5 ?_
    rw [rounds_succ]
    go_wp2
    rw [rounds_succ]
    go_wp2
    rw [rounds_succ]
    go_wp2
    rw [rounds_succ]
    go_wp2
    go_ret2
    exact ⟨by first | rfl | simp, hBx.out⟩
end Go.Proofs.YtelepamnlpebgabDoor
