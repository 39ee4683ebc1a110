/- The order of the timers, as the wheel's own closure tells it, walked: cmp.Compare, cmp.Or, the closure; and the library's sort by it. -/
import Derived.Test.YtejfogajlddaeaaWhw
import Derived.Test.YtejfogajlddaeaaWss
namespace Go.Proofs.Ytejfogajlddaeaa
open Go.RowKit Go.Maps Go.Shelf Go.Lib Go.Sort Whm
set_option linter.unusedSectionVars false
variable [Inhabited Tm]

def cmpI (x y : Int) : Int := if x < y then -1 else if y < x then 1 else 0

theorem isnan_any (x : Int) (w : World) : Calls Try.prog 33 #[.int .i64 x] w fun e w' => e = .returned (.bool false) ∧ w' = w := by
  go_enter Try.func33, Try.ntmps33
  go_wp2
  go_ret
  exact ⟨by simp, rfl⟩

set_option maxRecDepth 100000 in
theorem compare_any (x y : Int) (w : World) : Calls Try.prog 29 #[.int .i64 x, .int .i64 y] w fun e w' => e = .returned (.int .i64 (cmpI x y)) ∧ w' = w := by
  have hn := isnan_any
  by_cases h1 : x < y
  · have e : cmpI x y = -1 := by simp [cmpI, h1]
    rw [e]
    go_enter Try.func29, Try.ntmps29
    go_wp2_with (first | (go_at_call 33; refine (hn _ _).mono ?_; rintro e w' ⟨rfl, rfl⟩) | go_in)
    go_ret
    exact ⟨rfl, rfl⟩
  · by_cases h2 : y < x
    · have e : cmpI x y = 1 := by simp [cmpI, h1, h2]
      rw [e]
      go_enter Try.func29, Try.ntmps29
      go_wp2_with (first | (go_at_call 33; refine (hn _ _).mono ?_; rintro e w' ⟨rfl, rfl⟩) | go_in)
      go_ret
      exact ⟨rfl, rfl⟩
    · have e : cmpI x y = 0 := by simp [cmpI, h1, h2]
      rw [e]
      go_enter Try.func29, Try.ntmps29
      go_wp2_with (first | (go_at_call 33; refine (hn _ _).mono ?_; rintro e w' ⟨rfl, rfl⟩) | go_in)
      go_ret
      exact ⟨rfl, rfl⟩

set_option maxRecDepth 100000 in
theorem or_any (b : Nat) (x y : Int) (w : World) (h0 : w.cell? ⟨b, 0, none⟩ = some (.int .i64 x)) (h1 : w.cell? ⟨b, 1, none⟩ = some (.int .i64 y)) :
    Calls Try.prog 28 #[.slice (some ⟨b, 0, none⟩) 2 2] w fun e w' => e = .returned (.int .i64 (if x = 0 then y else x)) ∧ w' = w := by
  by_cases hx : x = 0
  · subst hx
    rw [if_pos rfl]
    by_cases hy : y = 0
    · subst hy
      go_enter Try.func28, Try.ntmps28
      go_wp2
      refine wp_loop_rounds 3 ?_
      rw [rounds_succ]
      go_wp2
      rw [rounds_succ]
      go_wp2
      rw [rounds_succ]
      go_wp2
      go_ret
      exact ⟨rfl, rfl⟩
    · go_enter Try.func28, Try.ntmps28
      go_wp2
      refine wp_loop_rounds 2 ?_
      rw [rounds_succ]
      go_wp2
      rw [rounds_succ]
      go_wp2
      go_ret
      exact ⟨rfl, rfl⟩
  · rw [if_neg hx]
    go_enter Try.func28, Try.ntmps28
    go_wp2
    refine wp_loop_rounds 1 ?_
    rw [rounds_succ]
    go_wp2
    go_ret
    exact ⟨rfl, rfl⟩

def cfT (x y : Tm) : Int := if cmpI x.a y.a = 0 then cmpI x.t y.t else cmpI x.a y.a
theorem ltOf_cfT : (ltOf cfT : Tm → Tm → Bool) = ltT := by
  funext x y
  unfold ltOf cfT cmpI ltT
  rw [decide_eq_decide]
  repeat (first | omega | split)

set_option maxRecDepth 100000 in
theorem closure_any (x y : Tm) (W : World) : Calls Try.prog 27 #[valT x, valT y] W fun e w' => e = .returned (.int .i64 (cfT x y)) ∧ ∃ q os', w' = grow (W.drewN q) os' := by
  have hq0 : ((W.alloc (.cells #[.int .i64 x.a, .int .i64 x.i, .int .i64 x.t] 55)).alloc (.cells #[.int .i64 y.a, .int .i64 y.i, .int .i64 y.t] 55)).heap[W.heap.size]? = some (.cells #[.int .i64 x.a, .int .i64 x.i, .int .i64 x.t] 55) := by
    rw [Below.heap_alloc _ _ _ (by simp)]; exact heap_alloc_new _ _
  have hq1 : ((W.alloc (.cells #[.int .i64 x.a, .int .i64 x.i, .int .i64 x.t] 55)).alloc (.cells #[.int .i64 y.a, .int .i64 y.i, .int .i64 y.t] 55)).heap[W.heap.size + 1]? = some (.cells #[.int .i64 y.a, .int .i64 y.i, .int .i64 y.t] 55) := by
    have := heap_alloc_new (W.alloc (.cells #[.int .i64 x.a, .int .i64 x.i, .int .i64 x.t] 55)) (.cells #[.int .i64 y.a, .int .i64 y.i, .int .i64 y.t] 55)
    simpa using this
  have hsz : ((W.alloc (.cells #[.int .i64 x.a, .int .i64 x.i, .int .i64 x.t] 55)).alloc (.cells #[.int .i64 y.a, .int .i64 y.i, .int .i64 y.t] 55)).heap.size = W.heap.size + 2 := by simp
  have hgr : Hid (∃ os, ((W.alloc (.cells #[.int .i64 x.a, .int .i64 x.i, .int .i64 x.t] 55)).alloc (.cells #[.int .i64 y.a, .int .i64 y.i, .int .i64 y.t] 55)) = grow W os) := ⟨_, by rw [alloc_eq_grow, alloc_eq_grow, grow_grow]⟩
  have hcf : Hid (cfT x y = if cmpI x.a y.a = 0 then cmpI x.t y.t else cmpI x.a y.a) := show _ = _ from rfl
  generalize cfT x y = r at hcf ⊢
  unfold valT
  go_enter Try.func27, Try.ntmps27
  go_wp2
  generalize ((W.alloc (.cells #[.int .i64 x.a, .int .i64 x.i, .int .i64 x.t] 55)).alloc (.cells #[.int .i64 y.a, .int .i64 y.i, .int .i64 y.t] 55)) = wq at *
  have s0 : wq.cell? ⟨W.heap.size, 0, none⟩ = some (.int .i64 x.a) := (cell_of_row wq _ _ _ _ _ hq0).trans rfl
  have s2 : wq.cell? ⟨W.heap.size, 2, none⟩ = some (.int .i64 x.t) := (cell_of_row wq _ _ _ _ _ hq0).trans rfl
  have u0 : wq.cell? ⟨W.heap.size + 1, 0, none⟩ = some (.int .i64 y.a) := (cell_of_row wq _ _ _ _ _ hq1).trans rfl
  have u2 : wq.cell? ⟨W.heap.size + 1, 2, none⟩ = some (.int .i64 y.t) := (cell_of_row wq _ _ _ _ _ hq1).trans rfl
  generalize W.heap.size = hs at *
  clear hq0 hq1
  refine wp_region_still_tail 12 (by kernel_rfl) (by kernel_rfl) ?_
  simp only [List.take_succ_cons, List.take_zero, List.drop_succ_cons, List.drop_zero]
  repeat (first | still_step | still_call (compare_any _ _ _))
  refine wpStill_nil ?_
  generalize cmpI x.a y.a = c1 at *
  generalize cmpI x.t y.t = c2 at *
  clear s0 s2 u0 u2 hsz
  change wpList _ _ _ _ _ (World.drew wq)
  have hn0 : ((World.drew wq).alloc (.cells #[.int .i64 c1, .int .i64 c2] 3)).cell? ⟨wq.heap.size, 0, none⟩ = some (.int .i64 c1) := (cell_of_row _ _ _ _ _ _ (heap_alloc_new _ _)).trans rfl
  have hn1 : ((World.drew wq).alloc (.cells #[.int .i64 c1, .int .i64 c2] 3)).cell? ⟨wq.heap.size, 1, none⟩ = some (.int .i64 c2) := (cell_of_row _ _ _ _ _ _ (heap_alloc_new _ _)).trans rfl
  have hor := or_any _ _ _ _ hn0 hn1
  rw [← hcf.out] at hor
  go_wp2_with (go_at_call 28; refine hor.mono ?_; rintro e w' ⟨rfl, rfl⟩)
  go_ret
  obtain ⟨os, rfl⟩ := hgr.out
  exact ⟨rfl, 1, _, by rw [alloc_eq_grow]; show grow (grow (W.drewN 1) os) _ = _; rw [grow_grow]⟩

theorem oneT (x : Tm) : ∀ v ∈ encT x, v.oneCell' = true := by
  intro v hv
  simp [encT] at hv
  rcases hv with rfl | rfl | rfl <;> rfl

/-- The library's sort by that order: the timers are a permutation of what they were, by their times and turns. -/
theorem sort_any (g cap : Nat) (d : Array Tm) (w : World) (hH : HoldsK encT 3 w g 0 d) (hb : g < w.heap.size) (hsz : d.size < 4611686018427387904) :
    Calls Try.prog 26 #[.slice (some ⟨g, 0, none⟩) d.size cap, .func (.func 27) #[] #[]] w fun e w' => e = .returned (.tuple #[]) ∧ ∃ d' n os, PermIn 0 d.size d d' ∧ SortedIn ltT 0 d.size d' ∧ w' = sortWorldK encT 3 w g 0 n d' os := by
  have eg : ∀ args w, (callFunc 27 args).run Try.prog w = .ok (.enter 27 args) w := enters_of Try.func27 (by kernel_rfl) rfl
  have hO : SWO (ltOf cfT) := by rw [ltOf_cfT]; exact swoT
  have hcon := AnyQ.slices_SortFunc Try.sortT 3 Try.isAgg55 Try.sizeOf55 encT (fun _ => rfl) oneT cfT hO 27 #[] g 0 cap d w eg (fun _ _ _ _ x y => closure_any x y _) hH hb hsz
  rw [ltOf_cfT] at hcon
  exact hcon

theorem sort_none (cap : Nat) (p : Option Addr) (w : World) : Calls Try.prog 26 #[.slice p 0 cap, .func (.func 27) #[] #[]] w fun e w' => e = .returned (.tuple #[]) ∧ w' = w :=
  AnyF.slices_SortFunc_none Try.sortT p cap _ w
end Go.Proofs.Ytejfogajlddaeaa
