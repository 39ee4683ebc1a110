/- Package need is alive; NeedOrder, walked. -/
import Derived.Test.YtmhidmocmolgfaaDoorNdd
import Derived.Test.YtmhidmocmolgfaaDoorNgd
namespace Go.Proofs.YtmhidmocmolgfaaDoor
open Go.RowKit Ndm
set_option linter.unusedSectionVars false
set_option linter.unusedVariables false

set_option maxHeartbeats 1000000 in
set_option maxRecDepth 100000 in
theorem Text_zero (w : World) : Calls Tryd.prog 9 #[(.agg #[.int .i64 0, .int .i64 0, .int .i64 0])] w fun e w' => e = .returned (.tuple #[.string ⟨#[45]⟩, .int .i64 0]) ∧ Below w.heap.size w w' := by
  have h1 : NBox (w.alloc (.cells #[.int .i64 nz.x, .int .i64 nz.y, .int .i64 nz.z] 23)) w.heap.size nz := heap_alloc_new _ _
  have hsz : (w.alloc (.cells #[.int .i64 nz.x, .int .i64 nz.y, .int .i64 nz.z] 23)).heap.size = w.heap.size + 1 := by simp
  have hBH : Hid (Below w.heap.size w (w.alloc (.cells #[.int .i64 nz.x, .int .i64 nz.y, .int .i64 nz.z] 23))) := (Below.refl _ _).alloc (Nat.le_refl _) _
  have hck := check_one _ nz _ hsz
  have hs1 : w.heap.size ≤ (w.alloc (.cells #[.int .i64 nz.x, .int .i64 nz.y, .int .i64 nz.z] 23)).heap.size := by omega
  rw [show ce (okN nz) = 0 from rfl] at hck
  have ham : ∀ w1, Calls Tryd.prog 35 #[(.agg #[.int .i64 0, .int .i64 0, .int .i64 0])] w1 fun e w' => e = .returned (.agg #[.int .i64 0, .int .i64 0, .int .i64 0]) ∧ Below w1.heap.size w1 w' := fun w1 => amounts_any nz w1
  have i0 : ∀ w, (Instr.index 61 (.agg #[.int .i64 0, .int .i64 0, .int .i64 0]) (.int .i64 0)).run Tryd.prog w = .ok (.int .i64 0) w := fun _ => by kernel_rfl
  have i1 : ∀ w, (Instr.index 61 (.agg #[.int .i64 0, .int .i64 0, .int .i64 0]) (.int .i64 1)).run Tryd.prog w = .ok (.int .i64 0) w := fun _ => by kernel_rfl
  have i2 : ∀ w, (Instr.index 61 (.agg #[.int .i64 0, .int .i64 0, .int .i64 0]) (.int .i64 2)).run Tryd.prog w = .ok (.int .i64 0) w := fun _ => by kernel_rfl
  go_enter Tryd.func9, Tryd.ntmps9
  go_wp2_with (first
    | (go_at_call 34; refine hck.mono ?_; rintro e w3 ⟨rfl, hb3⟩; have g1 : w3.heap[w.heap.size]? = some (.cells #[.int .i64 0, .int .i64 0, .int .i64 0] 23 (0, 0)) := (hb3.block w.heap.size (Array.getElem?_eq_some_iff.1 h1).1).trans h1; have hB3 : Below w.heap.size w w3 := hBH.out.trans (hb3.mono hs1); clear hck)
    | (refine load_wanted rfl 23 _ rfl _ rfl _ _ _ _ g1 Tryd.underlying23 rfl (need_info _ rfl) ?_)
    | (go_at_call 35; refine (ham w3).mono ?_; rintro e w4 ⟨rfl, hb4⟩; clear ham; have hB4 : Hid (Below w.heap.size w w4) := hB3.trans (hb4.mono hB3.size); clear g1 hb4 hB3)
    | go_in)
  refine wp_loop_rounds 5 ?_
  rw [rounds_succ]
  go_wp2
  rw [rounds_succ]
  go_wp2
  rw [rounds_succ]
  go_wp2
  rw [rounds_succ]
  go_wp2
  go_ret2
  exact ⟨rfl, hB4.out⟩

theorem needs_any (w : World) : Calls Tryd.prog 14 #[] w fun e w' => e = .returned (.bool true) ∧ Below w.heap.size w w' := by
  have ht := Text_zero w
  go_enter Tryd.func14, Tryd.ntmps14
  go_wp2_with (first | (go_at_call 9; refine ht.mono ?_; rintro e w3 ⟨rfl, hb3⟩; clear ht) | go_in)
  go_ret
  exact ⟨by first | rfl | simp, hb3⟩
end Go.Proofs.YtmhidmocmolgfaaDoor
