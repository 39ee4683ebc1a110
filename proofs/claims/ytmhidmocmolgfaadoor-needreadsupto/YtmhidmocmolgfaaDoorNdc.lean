/- Package need, walked: Fits, Add, Sub. -/
import Derived.Test.YtmhidmocmolgfaaDoorNdw
namespace Go.Proofs.YtmhidmocmolgfaaDoor
open Go.RowKit Ndm
set_option linter.unusedSectionVars false
set_option linter.unusedVariables false

/-- Two boxes, and what is checked. -/
theorem check_two (w2 : World) (a b : N3) (z : Nat) (hz : w2.heap.size = z) : Calls Tryd.prog 34 #[.slice (some ⟨z, 0, none⟩) 2 2] (w2.alloc (.cells #[.int .i64 a.x, .int .i64 a.y, .int .i64 a.z, .int .i64 b.x, .int .i64 b.y, .int .i64 b.z] 23)) fun e w' => e = .returned (.int .i64 (ce (okN a && okN b))) ∧ Below w2.heap.size w2 w' := by
  subst hz
  have h := check_any (n := 2) (cap := 2) rfl (nds_two w2 a b) (by omega)
  rw [okL_two] at h
  exact h.mono fun e w' ⟨h1, h2⟩ => ⟨h1, ((Below.refl _ _).alloc (Nat.le_refl _) _).trans (h2.mono (by simp))⟩
theorem check_one (w2 : World) (a : N3) (z : Nat) (hz : w2.heap.size = z) : Calls Tryd.prog 34 #[.slice (some ⟨z, 0, none⟩) 1 1] (w2.alloc (.cells #[.int .i64 a.x, .int .i64 a.y, .int .i64 a.z] 23)) fun e w' => e = .returned (.int .i64 (ce (okN a))) ∧ Below w2.heap.size w2 w' := by
  subst hz
  have h := check_any (n := 1) (cap := 1) rfl (nds_one w2 a) (by omega)
  rw [okL_one] at h
  exact h.mono fun e w' ⟨h1, h2⟩ => ⟨h1, ((Below.refl _ _).alloc (Nat.le_refl _) _).trans (h2.mono (by simp))⟩
theorem two_boxes (w : World) (a b : N3) : NBox ((w.alloc (.cells #[.int .i64 a.x, .int .i64 a.y, .int .i64 a.z] 23)).alloc (.cells #[.int .i64 b.x, .int .i64 b.y, .int .i64 b.z] 23)) w.heap.size a ∧ NBox ((w.alloc (.cells #[.int .i64 a.x, .int .i64 a.y, .int .i64 a.z] 23)).alloc (.cells #[.int .i64 b.x, .int .i64 b.y, .int .i64 b.z] 23)) (w.heap.size + 1) b ∧ Below w.heap.size w ((w.alloc (.cells #[.int .i64 a.x, .int .i64 a.y, .int .i64 a.z] 23)).alloc (.cells #[.int .i64 b.x, .int .i64 b.y, .int .i64 b.z] 23)) ∧ ((w.alloc (.cells #[.int .i64 a.x, .int .i64 a.y, .int .i64 a.z] 23)).alloc (.cells #[.int .i64 b.x, .int .i64 b.y, .int .i64 b.z] 23)).heap.size = w.heap.size + 2 := by
  refine ⟨(Below.heap_alloc _ _ _ (by simp)).trans (heap_alloc_new _ _), ?_, ((Below.refl _ _).alloc (Nat.le_refl _) _).alloc (by simp) _, by simp⟩
  have h := heap_alloc_new (w.alloc (.cells #[.int .i64 a.x, .int .i64 a.y, .int .i64 a.z] 23)) (.cells #[.int .i64 b.x, .int .i64 b.y, .int .i64 b.z] 23)
  have e : (w.alloc (.cells #[.int .i64 a.x, .int .i64 a.y, .int .i64 a.z] 23)).heap.size = w.heap.size + 1 := by simp
  rw [e] at h
  exact h
theorem three_boxes (w : World) (a b c : N3) : NBox (((w.alloc (.cells #[.int .i64 a.x, .int .i64 a.y, .int .i64 a.z] 23)).alloc (.cells #[.int .i64 b.x, .int .i64 b.y, .int .i64 b.z] 23)).alloc (.cells #[.int .i64 c.x, .int .i64 c.y, .int .i64 c.z] 23)) w.heap.size a ∧ NBox (((w.alloc (.cells #[.int .i64 a.x, .int .i64 a.y, .int .i64 a.z] 23)).alloc (.cells #[.int .i64 b.x, .int .i64 b.y, .int .i64 b.z] 23)).alloc (.cells #[.int .i64 c.x, .int .i64 c.y, .int .i64 c.z] 23)) (w.heap.size + 1) b ∧ NBox (((w.alloc (.cells #[.int .i64 a.x, .int .i64 a.y, .int .i64 a.z] 23)).alloc (.cells #[.int .i64 b.x, .int .i64 b.y, .int .i64 b.z] 23)).alloc (.cells #[.int .i64 c.x, .int .i64 c.y, .int .i64 c.z] 23)) (w.heap.size + 2) c ∧ Below w.heap.size w (((w.alloc (.cells #[.int .i64 a.x, .int .i64 a.y, .int .i64 a.z] 23)).alloc (.cells #[.int .i64 b.x, .int .i64 b.y, .int .i64 b.z] 23)).alloc (.cells #[.int .i64 c.x, .int .i64 c.y, .int .i64 c.z] 23)) ∧ (((w.alloc (.cells #[.int .i64 a.x, .int .i64 a.y, .int .i64 a.z] 23)).alloc (.cells #[.int .i64 b.x, .int .i64 b.y, .int .i64 b.z] 23)).alloc (.cells #[.int .i64 c.x, .int .i64 c.y, .int .i64 c.z] 23)).heap.size = w.heap.size + 3 := by
  obtain ⟨h1, h2, h3, h4⟩ := two_boxes w a b
  refine ⟨(Below.heap_alloc _ _ _ h1.lt).trans h1, (Below.heap_alloc _ _ _ h2.lt).trans h2, ?_, h3.alloc (by simp; omega) _, by simp⟩
  have h := heap_alloc_new ((w.alloc (.cells #[.int .i64 a.x, .int .i64 a.y, .int .i64 a.z] 23)).alloc (.cells #[.int .i64 b.x, .int .i64 b.y, .int .i64 b.z] 23)) (.cells #[.int .i64 c.x, .int .i64 c.y, .int .i64 c.z] 23)
  rw [h4] at h
  exact h

theorem results_need {f : Func} {tmps : Array Value} {w : World} {g : Nat} {cs : Array Value} {v : Value} (hf : f.results = #[.cell 4 23, .tmp 5]) (hp : tmps.getD 4 undef = .pointer (some ⟨g, 0, none⟩)) (hg : w.heap[g]? = some (.cells cs 23 (0, 0))) (hcs : cs.size = 3) (h7 : tmps.getD 5 undef = v) : (results f tmps).run Tryd.prog w = .ok (.tuple #[.agg cs, v]) w := by
  have hp' : tmps[4]?.getD undef = .pointer (some ⟨g, 0, none⟩) := by simpa using hp
  have h7' : tmps[5]?.getD undef = v := by simpa using h7
  simp [results, hf, hp', h7', asAddr, run_loadVar_row w g _ 23 cs (0, 0) _ hg Tryd.underlying23 rfl (need_info cs hcs)]

def aR (a b : N3) : N3 := if okN a && okN b then (if okN (addN a b) then addN a b else nz) else nz
def aE (a b : N3) : Int := if okN a && okN b then (if okN (addN a b) then 0 else 2) else 4

def sR (a b : N3) : N3 := if okN a && okN b then (if ftN b a then subN a b else nz) else nz
def sE (a b : N3) : Int := if okN a && okN b then (if ftN b a then 0 else 10) else 4

end Go.Proofs.YtmhidmocmolgfaaDoor
