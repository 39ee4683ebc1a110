/- Package need, walked: amounts, Times, Text of no need at all. -/
import Derived.Test.YtelepamnlpebgabDoorNdc
namespace Go.Proofs.YtelepamnlpebgabDoor
open Go.RowKit Ndm
set_option linter.unusedSectionVars false
set_option linter.unusedVariables false

theorem arr_info (cs : Array Value) (h : cs.size = 3) : (Tryd.prog.info? 76).map (·.size) = some cs.size := by rw [h]; kernel_rfl
theorem results_arr {tmps : Array Value} {w : World} {g : Nat} {cs : Array Value} (hp : tmps.getD 2 undef = .pointer (some ⟨g, 0, none⟩)) (hg : w.heap[g]? = some (.cells cs 76 (0, 0))) (hcs : cs.size = 3) : (results Tryd.f90 tmps).run Tryd.prog w = .ok (.agg cs) w := by
  have hp' : tmps[2]?.getD undef = .pointer (some ⟨g, 0, none⟩) := by simpa using hp
  simp [results, Tryd.results90, hp', asAddr, run_loadVar_row w g _ 76 cs (0, 0) _ hg Tryd.underlying76 rfl (arr_info cs hcs)]

set_option maxHeartbeats 1000000 in
set_option maxRecDepth 100000 in
theorem amounts_any (a : N3) (w : World) : Calls Tryd.prog 90 #[(.agg #[.int .i64 a.x, .int .i64 a.y, .int .i64 a.z])] w fun e w' => e = .returned (.agg #[.int .i64 a.x, .int .i64 a.y, .int .i64 a.z]) ∧ Below w.heap.size w w' := by
  have g : ((w.alloc (.cells #[.int .i64 a.x, .int .i64 a.y, .int .i64 a.z] 27)).alloc (.cells #[.int .i64 0, .int .i64 0, .int .i64 0] 76)).heap[w.heap.size + 1]? = some (.cells #[.int .i64 0, .int .i64 0, .int .i64 0] 76 (0, 0)) := by
    have h := heap_alloc_new (w.alloc (.cells #[.int .i64 a.x, .int .i64 a.y, .int .i64 a.z] 27)) (.cells #[.int .i64 0, .int .i64 0, .int .i64 0] 76)
    have e : (w.alloc (.cells #[.int .i64 a.x, .int .i64 a.y, .int .i64 a.z] 27)).heap.size = w.heap.size + 1 := by simp
    rw [e] at h
    exact h
  have hB : Hid (Below w.heap.size w ((w.alloc (.cells #[.int .i64 a.x, .int .i64 a.y, .int .i64 a.z] 27)).alloc (.cells #[.int .i64 0, .int .i64 0, .int .i64 0] 76))) := ((Below.refl _ _).alloc (Nat.le_refl _) _).alloc (by simp) _
  go_enter Tryd.func90, Tryd.ntmps90
  go_wp2_with (first
    | (refine wpList_store_row rfl 76 _ _ rfl _ #[.int .i64 a.x, .int .i64 a.y, .int .i64 a.z] rfl rfl _ _ g (arr_info _ rfl) rfl (need_one _ _ _) ?_)
    | go_in)
  refine bodyPost_ret (results_arr rfl (setRow_heap _ (w.heap.size + 1) _ _ _ _ g) rfl) rfl ⟨rfl, below_row hB.out (by omega)⟩

/-- How often one is taken off: by one kind more. -/
def t1 (s x y : Int) : Int := if x = 0 then s else if y / x < s then y / x else s
def tk (a b : N3) : Nat → Int
  | 0 => 1099511627776
  | 1 => t1 1099511627776 a.x b.x
  | 2 => t1 (t1 1099511627776 a.x b.x) a.y b.y
  | _ => t1 (t1 (t1 1099511627776 a.x b.x) a.y b.y) a.z b.z
theorem t1_bd {s x y : Int} (h : 0 ≤ s ∧ s ≤ 1099511627776) (hx : 0 ≤ x) (hy : 0 ≤ y) : 0 ≤ t1 s x y ∧ t1 s x y ≤ 1099511627776 := by
  unfold t1
  split
  · exact h
  · split
    · exact ⟨Int.ediv_nonneg hy hx, by omega⟩
    · exact h
theorem eqlN (x y z x' y' z' : Int) (w : World) : (binOp .eql 27 (.agg #[.int .i64 x, .int .i64 y, .int .i64 z]) (.agg #[.int .i64 x', .int .i64 y', .int .i64 z'])).run Tryd.prog w = .ok (.bool (decide (x = x') && (decide (y = y') && decide (z = z')))) w := by
  have u3 := Tryd.underlying2
  have a3 := Tryd.isAgg2
  have z3 := Tryd.sizeOf2
  have hS : Tryd.prog.underlying 27 = some (.struct (Tryd.prog.fieldsOf 27)) := by kernel_rfl
  have hp : Tryd.prog.stoodInHeld 27 = false := by kernel_rfl
  rw [run_eql_struct, show (10000 : Nat) = 9999 + 1 from rfl, run_equalIn_agg w 9999 27 _ _ hS hp]
  simp only [Program.fieldsOf, Tryd.underlying27]
  by_cases h1 : x = x' <;> by_cases h2 : y = y' <;> by_cases h3 : z = z' <;> simp only [h1, h2, h3] <;> go_simp

def isZ (a : N3) : Bool := decide (a.x = 0) && (decide (a.y = 0) && decide (a.z = 0))
def tE (a b : N3) : Int := if okN a && okN b then (if isZ a then 1 else 0) else 4
def tV (a b : N3) : Int := if okN a && okN b then (if isZ a then 0 else tk a b 3) else 0

end Go.Proofs.YtelepamnlpebgabDoor
