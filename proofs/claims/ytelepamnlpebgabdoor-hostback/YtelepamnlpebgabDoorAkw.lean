/- Package ask, walked: within, isCompound, hasOther. -/
import Derived.Test.YtelepamnlpebgabDoorAkm
import Derived.Test.YtelepamnlpebgabDoorChecked
import Derived.ProofKit
import Derived.WalkKit
namespace Go.Proofs.YtelepamnlpebgabDoor
open Go.RowKit Akm
set_option linter.unusedSectionVars false
set_option linter.unusedVariables false

set_option maxHeartbeats 1000000 in
set_option maxRecDepth 100000 in
theorem within_any (k : Int) (w : World) : Calls Tryd.prog 82 #[.int .i64 k] w fun e w' => e = .returned (.tuple #[.int .i64 (inK k), .bool (knK k)]) ∧ w' = w := by
  rcases (show k = 1 ∨ k = 2 ∨ k = 3 ∨ k = 4 ∨ k = 5 ∨ k = 6 ∨ ¬ (1 ≤ k ∧ k ≤ 6) by omega) with rfl | rfl | rfl | rfl | rfl | rfl | h
  · go_enter Tryd.func82, Tryd.ntmps82
    go_wp2
    go_ret2
    exact ⟨rfl, rfl⟩
  · go_enter Tryd.func82, Tryd.ntmps82
    go_wp2
    go_ret2
    exact ⟨rfl, rfl⟩
  · go_enter Tryd.func82, Tryd.ntmps82
    go_wp2
    go_ret2
    exact ⟨rfl, rfl⟩
  · go_enter Tryd.func82, Tryd.ntmps82
    go_wp2
    go_ret2
    exact ⟨rfl, rfl⟩
  · go_enter Tryd.func82, Tryd.ntmps82
    go_wp2
    go_ret2
    exact ⟨rfl, rfl⟩
  · go_enter Tryd.func82, Tryd.ntmps82
    go_wp2
    go_ret2
    exact ⟨rfl, rfl⟩
  · have e1 : inK k = 0 := by
      unfold inK
      rw [if_neg (by omega), if_neg (by omega)]
    have e2 : knK k = false := decide_eq_false h
    rw [e1, e2]
    have n1 : (k == 1) = false := by simp; omega
    have n2 : (k == 2) = false := by simp; omega
    have n3 : (k == 3) = false := by simp; omega
    have n4 : (k == 4) = false := by simp; omega
    have n5 : (k == 5) = false := by simp; omega
    have n6 : (k == 6) = false := by simp; omega
    clear h e1 e2
    go_enter Tryd.func82, Tryd.ntmps82
    go_wp2
    go_ret2
    exact ⟨rfl, rfl⟩

set_option maxHeartbeats 1000000 in
set_option maxRecDepth 100000 in
theorem compound_any (k : Int) (key val : ByteArray) (n : Int) (p : Option Addr) (m cap : Nat) (w : World) : Calls Tryd.prog 93 #[.agg #[.int .i64 k, .string key, .string val, .int .i64 n, .slice p m cap]] w fun e w' => e = .returned (.bool (decide (m ≠ 0))) ∧ Below w.heap.size w w' := by
  have hB : Hid (Below w.heap.size w (w.alloc (.cells #[.int .i64 k, .string key, .string val, .int .i64 n, .slice p m cap] 25))) := (Below.refl _ _).alloc (Nat.le_refl _) _
  by_cases h : m = 0
  · subst h
    go_enter Tryd.func93, Tryd.ntmps93
    go_wp2
    go_ret
    exact ⟨rfl, hB.out⟩
  · have e : decide (m ≠ 0) = true := by simpa using h
    have hz : ((m : Int) != 0) = true := by simp; omega
    rw [e]
    clear e h
    go_enter Tryd.func93, Tryd.ntmps93
    go_wp2
    go_ret
    exact ⟨by first | rfl | simp, hB.out⟩

theorem ask_info (cs : Array Value) (h : cs.size = 5) : (Tryd.prog.info? 25).map (·.size) = some cs.size := by rw [h]; kernel_rfl
theorem ask_load {ops : Array Oper} {rest : List Oper} {o : Oper} {a : Act} {w : World} {Q : Exit → Act → World → Prop} (x : Operand) (ho : o.op = .load 25 x) (hw : Region.wanted o (yielded ops a.tmps) = true)
    (g : Nat) (hx : a.eval x = .pointer (some ⟨g, 0, none⟩)) (cs : Array Value) (hg : w.heap[g]? = some (.cells cs 25 (0, 0))) (hcs : cs.size = 5)
    (h : wpList Tryd.prog ops Q rest (a.put o.dst (.agg cs)) w) : wpList Tryd.prog ops Q (o :: rest) a w := by
  unfold wpList
  rw [if_pos hw]
  exact .inl (wp_load_row 25 x ho g hx 25 cs (0, 0) _ hg Tryd.underlying25 rfl (ask_info cs hcs) h)

theorem ne_int (k c : Int) : decide (k ≠ c) = (k != c) := by
  by_cases h : k = c
  · subst h; simp
  · simp [h]

set_option maxHeartbeats 16000000 in
set_option maxRecDepth 100000 in
theorem other_any (k : Int) (key val : ByteArray) (n : Int) (p : Option Addr) (m cap : Nat) (w : World) : Calls Tryd.prog 83 #[.agg #[.int .i64 k, .string key, .string val, .int .i64 n, .slice p m cap]] w fun e w' => e = .returned (.bool (hoB k key val n m)) ∧ Below w.heap.size w w' := by
  have hB : Hid (Below w.heap.size w (w.alloc (.cells #[.int .i64 k, .string key, .string val, .int .i64 n, .slice p m cap] 25))) := (Below.refl _ _).alloc (Nat.le_refl _) _
  have hco := compound_any k key val n p m cap (w.alloc (.cells #[.int .i64 k, .string key, .string val, .int .i64 n, .slice p m cap] 25))
  have h1 : (w.alloc (.cells #[.int .i64 k, .string key, .string val, .int .i64 n, .slice p m cap] 25)).heap[w.heap.size]? = some (.cells #[.int .i64 k, .string key, .string val, .int .i64 n, .slice p m cap] 25 (0, 0)) := heap_alloc_new _ _
  unfold hoB
  rw [ne_int, ne_int, ne_int]
  generalize decide (m ≠ 0) = q1 at *
  cases q1 <;> rcases Bool.eq_false_or_eq_true key.toList.isEmpty with b2 | b2 <;> rcases Bool.eq_false_or_eq_true (k != 2) with b3 | b3 <;> rcases Bool.eq_false_or_eq_true val.toList.isEmpty with b4 | b4 <;> rcases Bool.eq_false_or_eq_true (k != 3) with b5 | b5 <;> rcases Bool.eq_false_or_eq_true (n != 0) with b6 | b6
  all_goals
    rw [b2, b3, b4, b5, b6]
    go_enter Tryd.func83, Tryd.ntmps83
    go_wp2_with (first
      | (go_at_call 93; refine hco.mono ?_; rintro e w3 ⟨rfl, hb3⟩; have g1 := (hb3.block w.heap.size (by simp)).trans h1; have z0 : w3.cell? ⟨w.heap.size, 0, none⟩ = some (.int .i64 k) := (cell_of_row _ _ 0 _ _ _ g1).trans rfl; have z1 : w3.cell? ⟨w.heap.size, 1, none⟩ = some (.string key) := (cell_of_row _ _ 1 _ _ _ g1).trans rfl; have z2 : w3.cell? ⟨w.heap.size, 2, none⟩ = some (.string val) := (cell_of_row _ _ 2 _ _ _ g1).trans rfl; have z3 : w3.cell? ⟨w.heap.size, 3, none⟩ = some (.int .i64 n) := (cell_of_row _ _ 3 _ _ _ g1).trans rfl; have hB3 : Hid (Below w.heap.size w w3) := hB.out.trans (hb3.mono hB.out.size); clear hco g1 hb3)
      | go_in)
    go_ret
    exact ⟨by first | rfl | simp, hB3.out⟩
end Go.Proofs.YtelepamnlpebgabDoor
