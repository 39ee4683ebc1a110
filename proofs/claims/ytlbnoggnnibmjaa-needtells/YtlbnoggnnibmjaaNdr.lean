/- The reference's words about needs: Amounts, NeedFault, NeedFits, NeedPlus; the law's times. -/
import Derived.Test.YtlbnoggnnibmjaaNsm
import Derived.Test.YtlbnoggnnibmjaaNdd
import Derived.Deep.RegionWith
namespace Go.Proofs.Ytlbnoggnnibmjaa
open Go.RowKit Ndm
set_option linter.unusedSectionVars false
set_option linter.unusedVariables false

theorem results_arrR {tmps : Array Value} {w : World} {g : Nat} {cs : Array Value} (hp : tmps.getD 2 undef = .pointer (some ⟨g, 0, none⟩)) (hg : w.heap[g]? = some (.cells cs 39 (0, 0))) (hcs : cs.size = 3) : (results Try.f17 tmps).run Try.prog w = .ok (.agg cs) w := by
  have hp' : tmps[2]?.getD undef = .pointer (some ⟨g, 0, none⟩) := by simpa using hp
  simp [results, Try.results17, hp', asAddr, run_loadVar_row w g _ 39 cs (0, 0) _ hg Try.underlying39 rfl (arr_info cs hcs)]

set_option maxHeartbeats 1000000 in
set_option maxRecDepth 100000 in
theorem amR_any (a : N3) (w : World) : Calls Try.prog 17 #[(.agg #[.int .i64 a.x, .int .i64 a.y, .int .i64 a.z])] w fun e w' => e = .returned (.agg #[.int .i64 a.x, .int .i64 a.y, .int .i64 a.z]) ∧ Below w.heap.size w w' := by
  have g : ((w.alloc (.cells #[.int .i64 a.x, .int .i64 a.y, .int .i64 a.z] 23)).alloc (.cells #[.int .i64 0, .int .i64 0, .int .i64 0] 39)).heap[w.heap.size + 1]? = some (.cells #[.int .i64 0, .int .i64 0, .int .i64 0] 39 (0, 0)) := by
    have h := heap_alloc_new (w.alloc (.cells #[.int .i64 a.x, .int .i64 a.y, .int .i64 a.z] 23)) (.cells #[.int .i64 0, .int .i64 0, .int .i64 0] 39)
    have e : (w.alloc (.cells #[.int .i64 a.x, .int .i64 a.y, .int .i64 a.z] 23)).heap.size = w.heap.size + 1 := by simp
    rw [e] at h
    exact h
  have hB : Hid (Below w.heap.size w ((w.alloc (.cells #[.int .i64 a.x, .int .i64 a.y, .int .i64 a.z] 23)).alloc (.cells #[.int .i64 0, .int .i64 0, .int .i64 0] 39))) := ((Below.refl _ _).alloc (Nat.le_refl _) _).alloc (by simp) _
  go_enter Try.func17, Try.ntmps17
  go_wp2_with (first
    | (refine wpList_store_row rfl 39 _ _ rfl _ #[.int .i64 a.x, .int .i64 a.y, .int .i64 a.z] rfl rfl _ _ g (arr_info _ rfl) rfl (need_one _ _ _) ?_)
    | go_in)
  refine bodyPost_ret (results_arrR rfl (setRow_heap _ (w.heap.size + 1) _ _ _ _ g) rfl) rfl ⟨rfl, below_row hB.out (by omega)⟩

theorem ix0 (x y z : Int) : ∀ w, (Instr.index 39 (.agg #[.int .i64 x, .int .i64 y, .int .i64 z]) (.int .i64 0)).run Try.prog w = .ok (.int .i64 x) w := fun _ => by kernel_rfl
theorem ix1 (x y z : Int) : ∀ w, (Instr.index 39 (.agg #[.int .i64 x, .int .i64 y, .int .i64 z]) (.int .i64 1)).run Try.prog w = .ok (.int .i64 y) w := fun _ => by kernel_rfl
theorem ix2 (x y z : Int) : ∀ w, (Instr.index 39 (.agg #[.int .i64 x, .int .i64 y, .int .i64 z]) (.int .i64 2)).run Try.prog w = .ok (.int .i64 z) w := fun _ => by kernel_rfl

/-- Where a number stands to what one may be: below 0, above the most, or right. -/
theorem tri (x : Int) : x < 0 ∨ (¬ x < 0 ∧ 1099511627776 < x) ∨ (¬ x < 0 ∧ ¬ 1099511627776 < x) := by omega

set_option maxHeartbeats 2000000 in
set_option maxRecDepth 100000 in
theorem faultR_any (a : N3) (w : World) : Calls Try.prog 9 #[(.agg #[.int .i64 a.x, .int .i64 a.y, .int .i64 a.z])] w fun e w' => e = .returned (.int .i64 (ce (okN a))) ∧ Below w.heap.size w w' := by
  have h1 : (w.alloc (.cells #[.int .i64 a.x, .int .i64 a.y, .int .i64 a.z] 23)).heap[w.heap.size]? = some (.cells #[.int .i64 a.x, .int .i64 a.y, .int .i64 a.z] 23 (0, 0)) := heap_alloc_new _ _
  have hB0 : Below w.heap.size w (w.alloc (.cells #[.int .i64 a.x, .int .i64 a.y, .int .i64 a.z] 23)) := (Below.refl _ _).alloc (Nat.le_refl _) _
  have ham := amR_any a (w.alloc (.cells #[.int .i64 a.x, .int .i64 a.y, .int .i64 a.z] 23))
  have i0 := ix0 a.x a.y a.z
  have i1 := ix1 a.x a.y a.z
  have i2 := ix2 a.x a.y a.z
  have hcs : ∃ v, Hid (ce (okN a) = v) ∧ ((v = 4 ∧ a.x < 0) ∨ (v = 4 ∧ ¬ a.x < 0 ∧ 1099511627776 < a.x) ∨ (v = 4 ∧ (¬ a.x < 0 ∧ ¬ 1099511627776 < a.x) ∧ a.y < 0) ∨ (v = 4 ∧ (¬ a.x < 0 ∧ ¬ 1099511627776 < a.x) ∧ ¬ a.y < 0 ∧ 1099511627776 < a.y) ∨ (v = 4 ∧ (¬ a.x < 0 ∧ ¬ 1099511627776 < a.x) ∧ (¬ a.y < 0 ∧ ¬ 1099511627776 < a.y) ∧ a.z < 0) ∨ (v = 4 ∧ (¬ a.x < 0 ∧ ¬ 1099511627776 < a.x) ∧ (¬ a.y < 0 ∧ ¬ 1099511627776 < a.y) ∧ ¬ a.z < 0 ∧ 1099511627776 < a.z) ∨ (v = 0 ∧ (¬ a.x < 0 ∧ ¬ 1099511627776 < a.x) ∧ (¬ a.y < 0 ∧ ¬ 1099511627776 < a.y) ∧ ¬ a.z < 0 ∧ ¬ 1099511627776 < a.z)) := by
    refine ⟨_, rfl, ?_⟩
    have hno : (¬ (((0 : Int) ≤ a.x ∧ a.x ≤ 1099511627776) ∧ ((0 : Int) ≤ a.y ∧ a.y ≤ 1099511627776) ∧ ((0 : Int) ≤ a.z ∧ a.z ≤ 1099511627776))) → ce (okN a) = 4 := fun h => by
      have : okN a = false := Bool.eq_false_iff.2 fun h2 => h (okN_iff.1 h2)
      rw [this]; rfl
    have hyes : (((0 : Int) ≤ a.x ∧ a.x ≤ 1099511627776) ∧ ((0 : Int) ≤ a.y ∧ a.y ≤ 1099511627776) ∧ ((0 : Int) ≤ a.z ∧ a.z ≤ 1099511627776)) → ce (okN a) = 0 := fun h => by rw [okN_iff.2 h]; rfl
    rcases tri a.x with hx | hx | hx
    · exact Or.inl ⟨hno (by omega), hx⟩
    · exact Or.inr (Or.inl ⟨hno (by omega), hx⟩)
    · rcases tri a.y with hy | hy | hy
      · exact Or.inr (Or.inr (Or.inl ⟨hno (by omega), hx, hy⟩))
      · exact Or.inr (Or.inr (Or.inr (Or.inl ⟨hno (by omega), hx, hy⟩)))
      · rcases tri a.z with hz | hz | hz
        · exact Or.inr (Or.inr (Or.inr (Or.inr (Or.inl ⟨hno (by omega), hx, hy, hz⟩))))
        · exact Or.inr (Or.inr (Or.inr (Or.inr (Or.inr (Or.inl ⟨hno (by omega), hx, hy, hz⟩)))))
        · exact Or.inr (Or.inr (Or.inr (Or.inr (Or.inr (Or.inr ⟨hyes (by omega), hx, hy, hz⟩)))))
  obtain ⟨v, hv, hc⟩ := hcs
  rw [hv.out]
  clear hv
  rcases hc with ⟨rfl, c1⟩ | ⟨rfl, c1, c2⟩ | ⟨rfl, ⟨c1, c2⟩, c3⟩ | ⟨rfl, ⟨c1, c2⟩, c3, c4⟩ | ⟨rfl, ⟨c1, c2⟩, ⟨c3, c4⟩, c5⟩ | ⟨rfl, ⟨c1, c2⟩, ⟨c3, c4⟩, c5, c6⟩ | ⟨rfl, ⟨c1, c2⟩, ⟨c3, c4⟩, c5, c6⟩
  · go_enter Try.func9, Try.ntmps9
    go_wp2_with (first
      | (refine load_wanted rfl 23 _ rfl _ rfl _ _ _ _ h1 Try.underlying23 rfl (need_info _ rfl) ?_)
      | (go_at_call 17; refine ham.mono ?_; rintro e w2 ⟨rfl, hb2⟩; have hB2 : Below w.heap.size w w2 := hB0.trans (hb2.mono hB0.size); clear ham h1 hb2)
      | go_in)
    refine wp_loop_rounds 6 ?_
    rw [rounds_succ]
    go_wp2
    go_ret
    exact ⟨rfl, hB2⟩
  · go_enter Try.func9, Try.ntmps9
    go_wp2_with (first
      | (refine load_wanted rfl 23 _ rfl _ rfl _ _ _ _ h1 Try.underlying23 rfl (need_info _ rfl) ?_)
      | (go_at_call 17; refine ham.mono ?_; rintro e w2 ⟨rfl, hb2⟩; have hB2 : Below w.heap.size w w2 := hB0.trans (hb2.mono hB0.size); clear ham h1 hb2)
      | go_in)
    refine wp_loop_rounds 6 ?_
    rw [rounds_succ]
    go_wp2
    go_ret
    exact ⟨rfl, hB2⟩
  · go_enter Try.func9, Try.ntmps9
    go_wp2_with (first
      | (refine load_wanted rfl 23 _ rfl _ rfl _ _ _ _ h1 Try.underlying23 rfl (need_info _ rfl) ?_)
      | (go_at_call 17; refine ham.mono ?_; rintro e w2 ⟨rfl, hb2⟩; have hB2 : Below w.heap.size w w2 := hB0.trans (hb2.mono hB0.size); clear ham h1 hb2)
      | go_in)
    refine wp_loop_rounds 6 ?_
    rw [rounds_succ]
    go_wp2
    rw [rounds_succ]
    go_wp2
    go_ret
    exact ⟨rfl, hB2⟩
  · go_enter Try.func9, Try.ntmps9
    go_wp2_with (first
      | (refine load_wanted rfl 23 _ rfl _ rfl _ _ _ _ h1 Try.underlying23 rfl (need_info _ rfl) ?_)
      | (go_at_call 17; refine ham.mono ?_; rintro e w2 ⟨rfl, hb2⟩; have hB2 : Below w.heap.size w w2 := hB0.trans (hb2.mono hB0.size); clear ham h1 hb2)
      | go_in)
    refine wp_loop_rounds 6 ?_
    rw [rounds_succ]
    go_wp2
    rw [rounds_succ]
    go_wp2
    go_ret
    exact ⟨rfl, hB2⟩
  · go_enter Try.func9, Try.ntmps9
    go_wp2_with (first
      | (refine load_wanted rfl 23 _ rfl _ rfl _ _ _ _ h1 Try.underlying23 rfl (need_info _ rfl) ?_)
      | (go_at_call 17; refine ham.mono ?_; rintro e w2 ⟨rfl, hb2⟩; have hB2 : Below w.heap.size w w2 := hB0.trans (hb2.mono hB0.size); clear ham h1 hb2)
      | go_in)
    refine wp_loop_rounds 6 ?_
    rw [rounds_succ]
    go_wp2
    rw [rounds_succ]
    go_wp2
    rw [rounds_succ]
    go_wp2
    go_ret
    exact ⟨rfl, hB2⟩
  · go_enter Try.func9, Try.ntmps9
    go_wp2_with (first
      | (refine load_wanted rfl 23 _ rfl _ rfl _ _ _ _ h1 Try.underlying23 rfl (need_info _ rfl) ?_)
      | (go_at_call 17; refine ham.mono ?_; rintro e w2 ⟨rfl, hb2⟩; have hB2 : Below w.heap.size w w2 := hB0.trans (hb2.mono hB0.size); clear ham h1 hb2)
      | go_in)
    refine wp_loop_rounds 6 ?_
    rw [rounds_succ]
    go_wp2
    rw [rounds_succ]
    go_wp2
    rw [rounds_succ]
    go_wp2
    go_ret
    exact ⟨rfl, hB2⟩
  · go_enter Try.func9, Try.ntmps9
    go_wp2_with (first
      | (refine load_wanted rfl 23 _ rfl _ rfl _ _ _ _ h1 Try.underlying23 rfl (need_info _ rfl) ?_)
      | (go_at_call 17; refine ham.mono ?_; rintro e w2 ⟨rfl, hb2⟩; have hB2 : Below w.heap.size w w2 := hB0.trans (hb2.mono hB0.size); clear ham h1 hb2)
      | go_in)
    refine wp_loop_rounds 6 ?_
    rw [rounds_succ]
    go_wp2
    rw [rounds_succ]
    go_wp2
    rw [rounds_succ]
    go_wp2
    rw [rounds_succ]
    go_wp2
    go_ret
    exact ⟨rfl, hB2⟩

theorem results_needR {tmps : Array Value} {w : World} {g : Nat} {cs : Array Value} (hp : tmps.getD 6 undef = .pointer (some ⟨g, 0, none⟩)) (hg : w.heap[g]? = some (.cells cs 23 (0, 0))) (hcs : cs.size = 3) : (results Try.f10 tmps).run Try.prog w = .ok (.agg cs) w := by
  have hp' : tmps[6]?.getD undef = .pointer (some ⟨g, 0, none⟩) := by simpa using hp
  simp [results, Try.results10, hp', asAddr, run_loadVar_row w g _ 23 cs (0, 0) _ hg Try.underlying23 rfl (need_info cs hcs)]

set_option maxHeartbeats 1000000 in
set_option maxRecDepth 100000 in
theorem plusR_add (a b : N3) (w : World) (h1 : okN a = true) (h2 : okN b = true) : Calls Try.prog 10 #[(.agg #[.int .i64 a.x, .int .i64 a.y, .int .i64 a.z]), (.agg #[.int .i64 b.x, .int .i64 b.y, .int .i64 b.z]), .int .i64 1] w fun e w' => e = .returned (.agg #[.int .i64 (addN a b).x, .int .i64 (addN a b).y, .int .i64 (addN a b).z]) ∧ Below w.heap.size w w' := by
  obtain ⟨g1, g2, g3, hB, hs⟩ := three_boxes w a b nz
  have hBH : Hid (Below w.heap.size w (((w.alloc (.cells #[.int .i64 a.x, .int .i64 a.y, .int .i64 a.z] 23)).alloc (.cells #[.int .i64 b.x, .int .i64 b.y, .int .i64 b.z] 23)).alloc (.cells #[.int .i64 nz.x, .int .i64 nz.y, .int .i64 nz.z] 23))) := hB
  obtain ⟨⟨⟨x1, x2⟩, ⟨x3, x4⟩, x5, x6⟩, ⟨y1, y2⟩, ⟨y3, y4⟩, y5, y6⟩ := And.intro (okN_iff.1 h1) (okN_iff.1 h2)
  clear hB h1 h2
  go_enter Try.func10, Try.ntmps10
  go_wp2_with (first
    | (refine wpList_store_row rfl 23 _ _ rfl _ #[.int .i64 (a.x + b.x), .int .i64 (a.y + b.y), .int .i64 (a.z + b.z)] rfl rfl _ _ g3 (need_info _ rfl) rfl (need_one _ _ _) ?_)
    | go_in)
  refine bodyPost_ret (results_needR rfl (setRow_heap _ (w.heap.size + 2) _ _ _ _ g3) rfl) rfl ⟨rfl, below_row hBH.out (by omega)⟩

set_option maxHeartbeats 1000000 in
set_option maxRecDepth 100000 in
theorem plusR_sub (a b : N3) (w : World) (h1 : okN a = true) (h2 : okN b = true) : Calls Try.prog 10 #[(.agg #[.int .i64 a.x, .int .i64 a.y, .int .i64 a.z]), (.agg #[.int .i64 b.x, .int .i64 b.y, .int .i64 b.z]), .int .i64 (-1)] w fun e w' => e = .returned (.agg #[.int .i64 (subN a b).x, .int .i64 (subN a b).y, .int .i64 (subN a b).z]) ∧ Below w.heap.size w w' := by
  obtain ⟨g1, g2, g3, hB, hs⟩ := three_boxes w a b nz
  have hBH : Hid (Below w.heap.size w (((w.alloc (.cells #[.int .i64 a.x, .int .i64 a.y, .int .i64 a.z] 23)).alloc (.cells #[.int .i64 b.x, .int .i64 b.y, .int .i64 b.z] 23)).alloc (.cells #[.int .i64 nz.x, .int .i64 nz.y, .int .i64 nz.z] 23))) := hB
  obtain ⟨⟨⟨x1, x2⟩, ⟨x3, x4⟩, x5, x6⟩, ⟨y1, y2⟩, ⟨y3, y4⟩, y5, y6⟩ := And.intro (okN_iff.1 h1) (okN_iff.1 h2)
  have s1 : subN a b = ⟨a.x + -b.x, a.y + -b.y, a.z + -b.z⟩ := N3.ext' (by show a.x - b.x = a.x + -b.x; omega) (by show a.y - b.y = a.y + -b.y; omega) (by show a.z - b.z = a.z + -b.z; omega)
  rw [s1]
  clear hB h1 h2 s1
  go_enter Try.func10, Try.ntmps10
  go_wp2_with (first
    | (refine wpList_store_row rfl 23 _ _ rfl _ #[.int .i64 (a.x + -b.x), .int .i64 (a.y + -b.y), .int .i64 (a.z + -b.z)] rfl rfl _ _ g3 (need_info _ rfl) rfl (need_one _ _ _) ?_)
    | go_in)
  refine bodyPost_ret (results_needR rfl (setRow_heap _ (w.heap.size + 2) _ _ _ _ g3) rfl) rfl ⟨rfl, below_row hBH.out (by omega)⟩
end Go.Proofs.Ytlbnoggnnibmjaa
