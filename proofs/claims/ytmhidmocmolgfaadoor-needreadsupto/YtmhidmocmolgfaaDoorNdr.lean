/- The reference's words about needs: Amounts, NeedFault, NeedFits, NeedPlus; the law's times. -/
import Derived.Test.YtmhidmocmolgfaaDoorNsm
import Derived.Test.YtmhidmocmolgfaaDoorNdd
import Derived.Deep.RegionWith
namespace Go.Proofs.YtmhidmocmolgfaaDoor
open Go.RowKit Ndm
set_option linter.unusedSectionVars false
set_option linter.unusedVariables false

theorem results_arrR {tmps : Array Value} {w : World} {g : Nat} {cs : Array Value} (hp : tmps.getD 2 undef = .pointer (some ⟨g, 0, none⟩)) (hg : w.heap[g]? = some (.cells cs 61 (0, 0))) (hcs : cs.size = 3) : (results Tryd.f41 tmps).run Tryd.prog w = .ok (.agg cs) w := by
  have hp' : tmps[2]?.getD undef = .pointer (some ⟨g, 0, none⟩) := by simpa using hp
  simp [results, Tryd.results41, hp', asAddr, run_loadVar_row w g _ 61 cs (0, 0) _ hg Tryd.underlying61 rfl (arr_info cs hcs)]

set_option maxHeartbeats 1000000 in
set_option maxRecDepth 100000 in
theorem amR_any (a : N3) (w : World) : Calls Tryd.prog 41 #[(.agg #[.int .i64 a.x, .int .i64 a.y, .int .i64 a.z])] w fun e w' => e = .returned (.agg #[.int .i64 a.x, .int .i64 a.y, .int .i64 a.z]) ∧ Below w.heap.size w w' := by
  have g : ((w.alloc (.cells #[.int .i64 a.x, .int .i64 a.y, .int .i64 a.z] 23)).alloc (.cells #[.int .i64 0, .int .i64 0, .int .i64 0] 61)).heap[w.heap.size + 1]? = some (.cells #[.int .i64 0, .int .i64 0, .int .i64 0] 61 (0, 0)) := by
    have h := heap_alloc_new (w.alloc (.cells #[.int .i64 a.x, .int .i64 a.y, .int .i64 a.z] 23)) (.cells #[.int .i64 0, .int .i64 0, .int .i64 0] 61)
    have e : (w.alloc (.cells #[.int .i64 a.x, .int .i64 a.y, .int .i64 a.z] 23)).heap.size = w.heap.size + 1 := by simp
    rw [e] at h
    exact h
  have hB : Hid (Below w.heap.size w ((w.alloc (.cells #[.int .i64 a.x, .int .i64 a.y, .int .i64 a.z] 23)).alloc (.cells #[.int .i64 0, .int .i64 0, .int .i64 0] 61))) := ((Below.refl _ _).alloc (Nat.le_refl _) _).alloc (by simp) _
  go_enter Tryd.func41, Tryd.ntmps41
  go_wp2_with (first
    | (refine wpList_store_row rfl 61 _ _ rfl _ #[.int .i64 a.x, .int .i64 a.y, .int .i64 a.z] rfl rfl _ _ g (arr_info _ rfl) rfl (need_one _ _ _) ?_)
    | go_in)
  refine bodyPost_ret (results_arrR rfl (setRow_heap _ (w.heap.size + 1) _ _ _ _ g) rfl) rfl ⟨rfl, below_row hB.out (by omega)⟩

theorem ix0 (x y z : Int) : ∀ w, (Instr.index 61 (.agg #[.int .i64 x, .int .i64 y, .int .i64 z]) (.int .i64 0)).run Tryd.prog w = .ok (.int .i64 x) w := fun _ => by kernel_rfl
theorem ix1 (x y z : Int) : ∀ w, (Instr.index 61 (.agg #[.int .i64 x, .int .i64 y, .int .i64 z]) (.int .i64 1)).run Tryd.prog w = .ok (.int .i64 y) w := fun _ => by kernel_rfl
theorem ix2 (x y z : Int) : ∀ w, (Instr.index 61 (.agg #[.int .i64 x, .int .i64 y, .int .i64 z]) (.int .i64 2)).run Tryd.prog w = .ok (.int .i64 z) w := fun _ => by kernel_rfl

/-- Where a number stands to what one may be: below 0, above the most, or right. -/
theorem tri (x : Int) : x < 0 ∨ (¬ x < 0 ∧ 1099511627776 < x) ∨ (¬ x < 0 ∧ ¬ 1099511627776 < x) := by omega

set_option maxHeartbeats 2000000 in
set_option maxRecDepth 100000 in
theorem faultR_any (a : N3) (w : World) : Calls Tryd.prog 12 #[(.agg #[.int .i64 a.x, .int .i64 a.y, .int .i64 a.z])] w fun e w' => e = .returned (.int .i64 (ce (okN a))) ∧ Below w.heap.size w w' := by
  have h1 : (w.alloc (.cells #[.int .i64 a.x, .int .i64 a.y, .int .i64 a.z] 23)).heap[w.heap.size]? = some (.cells #[.int .i64 a.x, .int .i64 a.y, .int .i64 a.z] 23 (0, 0)) := heap_alloc_new _ _
  have hB0 : Below w.heap.size w (w.alloc (.cells #[.int .i64 a.x, .int .i64 a.y, .int .i64 a.z] 23)) := (Below.refl _ _).alloc (Nat.le_refl _) _
  have ham := amR_any a (w.alloc (.cells #[.int .i64 a.x, .int .i64 a.y, .int .i64 a.z] 23))
  have i0 := ix0 a.x a.y a.z
  have i1 := ix1 a.x a.y a.z
  have i2 := ix2 a.x a.y a.z
  have hcs : ∃ v, Hid (ce (okN a) = v) ∧ ((v = 4 ∧ a.x < 0) ∨ (v = 4 ∧ ¬ a.x < 0 ∧ 1099511627776 < a.x) ∨ (v = 4 ∧ (¬ a.x < 0 ∧ ¬ 1099511627776 < a.x) ∧ a.y < 0) ∨ (v = 4 ∧ (¬ a.x < 0 ∧ ¬ 1099511627776 < a.x) ∧ ¬ a.y < 0 ∧ 1099511627776 < a.y) ∨ (v = 4 ∧ (¬ a.x < 0 ∧ ¬ 1099511627776 < a.x) ∧ (¬ a.y < 0 ∧ ¬ 1099511627776 < a.y) ∧ a.z < 0) ∨ (v = 4 ∧ (¬ a.x < 0 ∧ ¬ 1099511627776 < a.x) ∧ (¬ a.y < 0 ∧ ¬ 1099511627776 < a.y) ∧ ¬ a.z < 0 ∧ 1099511627776 < a.z) ∨ (v = 0 ∧ (¬ a.x < 0 ∧ ¬ 1099511627776 < a.x) ∧ (¬ a.y < 0 ∧ ¬ 1099511627776 < a.y) ∧ ¬ a.z < 0 ∧ ¬ 1099511627776 < a.z)) := by
    refine ⟨_, rfl, ?_⟩
    have hno : (¬ (((0 : Int) ≤ a.x ∧ a.x ≤ 1099511627776) ∧ ((0 : Int) ≤ a.y ∧ a.y ≤ 1099511627776) ∧ ((0 : Int) ≤ a.z ∧ a.z ≤ 1099511627776))) → ce (okN a) = 4 := fun h => by
      have : okN a = false := Bool.eq_false_iff.2 fun h2 => h (okN_iff.1 h2)
      rw [this]; rfl
    have hyes : (((0 : Int) ≤ a.x ∧ a.x ≤ 1099511627776) ∧ ((0 : Int) ≤ a.y ∧ a.y ≤ 1099511627776) ∧ ((0 : Int) ≤ a.z ∧ a.z ≤ 1099511627776)) → ce (okN a) = 0 := fun h => by rw [okN_iff.2 h]; rfl
    rcases tri a.x with hx | hx | hx
    · exact Or.inl ⟨hno (by omega), hx⟩
    · exact Or.inr (Or.inl ⟨hno (by omega), hx⟩)
    · rcases tri a.y with hy | hy | hy
      · exact Or.inr (Or.inr (Or.inl ⟨hno (by omega), hx, hy⟩))
      · exact Or.inr (Or.inr (Or.inr (Or.inl ⟨hno (by omega), hx, hy⟩)))
      · rcases tri a.z with hz | hz | hz
        · exact Or.inr (Or.inr (Or.inr (Or.inr (Or.inl ⟨hno (by omega), hx, hy, hz⟩))))
        · exact Or.inr (Or.inr (Or.inr (Or.inr (Or.inr (Or.inl ⟨hno (by omega), hx, hy, hz⟩)))))
        · exact Or.inr (Or.inr (Or.inr (Or.inr (Or.inr (Or.inr ⟨hyes (by omega), hx, hy, hz⟩)))))
  obtain ⟨v, hv, hc⟩ := hcs
  rw [hv.out]
  clear hv
  rcases hc with ⟨rfl, c1⟩ | ⟨rfl, c1, c2⟩ | ⟨rfl, ⟨c1, c2⟩, c3⟩ | ⟨rfl, ⟨c1, c2⟩, c3, c4⟩ | ⟨rfl, ⟨c1, c2⟩, ⟨c3, c4⟩, c5⟩ | ⟨rfl, ⟨c1, c2⟩, ⟨c3, c4⟩, c5, c6⟩ | ⟨rfl, ⟨c1, c2⟩, ⟨c3, c4⟩, c5, c6⟩
  · go_enter Tryd.func12, Tryd.ntmps12
    go_wp2_with (first
      | (refine load_wanted rfl 23 _ rfl _ rfl _ _ _ _ h1 Tryd.underlying23 rfl (need_info _ rfl) ?_)
      | (go_at_call 41; refine ham.mono ?_; rintro e w2 ⟨rfl, hb2⟩; have hB2 : Below w.heap.size w w2 := hB0.trans (hb2.mono hB0.size); clear ham h1 hb2)
      | go_in)
    refine wp_loop_rounds 6 ?_
    rw [rounds_succ]
    go_wp2
    go_ret
    exact ⟨rfl, hB2⟩
  · go_enter Tryd.func12, Tryd.ntmps12
    go_wp2_with (first
      | (refine load_wanted rfl 23 _ rfl _ rfl _ _ _ _ h1 Tryd.underlying23 rfl (need_info _ rfl) ?_)
      | (go_at_call 41; refine ham.mono ?_; rintro e w2 ⟨rfl, hb2⟩; have hB2 : Below w.heap.size w w2 := hB0.trans (hb2.mono hB0.size); clear ham h1 hb2)
      | go_in)
    refine wp_loop_rounds 6 ?_
    rw [rounds_succ]
    go_wp2
    go_ret
    exact ⟨rfl, hB2⟩
  · go_enter Tryd.func12, Tryd.ntmps12
    go_wp2_with (first
      | (refine load_wanted rfl 23 _ rfl _ rfl _ _ _ _ h1 Tryd.underlying23 rfl (need_info _ rfl) ?_)
      | (go_at_call 41; refine ham.mono ?_; rintro e w2 ⟨rfl, hb2⟩; have hB2 : Below w.heap.size w w2 := hB0.trans (hb2.mono hB0.size); clear ham h1 hb2)
      | go_in)
    refine wp_loop_rounds 6 ?_
    rw [rounds_succ]
    go_wp2
    rw [rounds_succ]
    go_wp2
    go_ret
    exact ⟨rfl, hB2⟩
  · go_enter Tryd.func12, Tryd.ntmps12
    go_wp2_with (first
      | (refine load_wanted rfl 23 _ rfl _ rfl _ _ _ _ h1 Tryd.underlying23 rfl (need_info _ rfl) ?_)
      | (go_at_call 41; refine ham.mono ?_; rintro e w2 ⟨rfl, hb2⟩; have hB2 : Below w.heap.size w w2 := hB0.trans (hb2.mono hB0.size); clear ham h1 hb2)
      | go_in)
    refine wp_loop_rounds 6 ?_
    rw [rounds_succ]
    go_wp2
    rw [rounds_succ]
    go_wp2
    go_ret
    exact ⟨rfl, hB2⟩
  · go_enter Tryd.func12, Tryd.ntmps12
    go_wp2_with (first
      | (refine load_wanted rfl 23 _ rfl _ rfl _ _ _ _ h1 Tryd.underlying23 rfl (need_info _ rfl) ?_)
      | (go_at_call 41; refine ham.mono ?_; rintro e w2 ⟨rfl, hb2⟩; have hB2 : Below w.heap.size w w2 := hB0.trans (hb2.mono hB0.size); clear ham h1 hb2)
      | go_in)
    refine wp_loop_rounds 6 ?_
    rw [rounds_succ]
    go_wp2
    rw [rounds_succ]
    go_wp2
    rw [rounds_succ]
    go_wp2
    go_ret
    exact ⟨rfl, hB2⟩
  · go_enter Tryd.func12, Tryd.ntmps12
    go_wp2_with (first
      | (refine load_wanted rfl 23 _ rfl _ rfl _ _ _ _ h1 Tryd.underlying23 rfl (need_info _ rfl) ?_)
      | (go_at_call 41; refine ham.mono ?_; rintro e w2 ⟨rfl, hb2⟩; have hB2 : Below w.heap.size w w2 := hB0.trans (hb2.mono hB0.size); clear ham h1 hb2)
      | go_in)
    refine wp_loop_rounds 6 ?_
    rw [rounds_succ]
    go_wp2
    rw [rounds_succ]
    go_wp2
    rw [rounds_succ]
    go_wp2
    go_ret
    exact ⟨rfl, hB2⟩
  · go_enter Tryd.func12, Tryd.ntmps12
    go_wp2_with (first
      | (refine load_wanted rfl 23 _ rfl _ rfl _ _ _ _ h1 Tryd.underlying23 rfl (need_info _ rfl) ?_)
      | (go_at_call 41; refine ham.mono ?_; rintro e w2 ⟨rfl, hb2⟩; have hB2 : Below w.heap.size w w2 := hB0.trans (hb2.mono hB0.size); clear ham h1 hb2)
      | go_in)
    refine wp_loop_rounds 6 ?_
    rw [rounds_succ]
    go_wp2
    rw [rounds_succ]
    go_wp2
    rw [rounds_succ]
    go_wp2
    rw [rounds_succ]
    go_wp2
    go_ret
    exact ⟨rfl, hB2⟩

end Go.Proofs.YtmhidmocmolgfaaDoor
