/- Package list: the blocks that newWork makes, in any order. -/
import Derived.Test.YthfpdbogbmccjaaDoorJwx
import Derived.Test.YthfpdbogbmccjaaDoorTko
namespace Go.Proofs.YthfpdbogbmccjaaDoor
open Go.RowKit Gm Pm
set_option linter.unusedSectionVars false
set_option linter.unusedVariables false

theorem info_turn : (Tryd.prog.info? 50).map (fun i => (i.zero, i.size, i.bytes)) = some (some (.agg #[.int .i64 0, .int .i64 0]), 2, 16) := by kernel_rfl
/-- What is made: the rows of those ahead, the ends, the hands, the turns. -/
def wob (n m : Nat) : Nat → Obj
  | 0 => .cells (madeCells (Value.slice none 0 0).cells (n * 1)) 47
  | 1 => .cells (madeCells (Value.int .i64 0).cells (n * 1)) 2
  | 2 => .cells (madeCells (Value.int .i64 0).cells (m * 1)) 2
  | _ => .cells (madeCells (Value.agg #[.int .i64 0, .int .i64 0]).cells (n * 2)) 50
/-- Those that are made lie in blocks of their own. -/
structure Nw (w0 w : World) (n m : Nat) (f : Nat → Option Nat) : Prop where
  b : Below w0.heap.size w0 w
  at_ : ∀ j g, f j = some g → w0.heap.size ≤ g ∧ g < w.heap.size ∧ w.heap[g]? = some (wob n m j)
  ne : ∀ j k g, f j = some g → f k = some g → j = k
def fup (f : Nat → Option Nat) (j g : Nat) : Nat → Option Nat := fun k => if k = j then some g else f k
theorem Nw.make {w0 w : World} {n m : Nat} {f : Nat → Option Nat} (h : Nw w0 w n m f) (j : Nat) : Nw w0 (w.alloc (wob n m j)) n m (fup f j w.heap.size) := by
  refine ⟨h.b.alloc h.b.size _, fun k g hg => ?_, fun a c g ha hc => ?_⟩
  · unfold fup at hg
    by_cases e : k = j
    · rw [if_pos e] at hg
      cases hg
      rw [e]
      exact ⟨h.b.size, by simp, heap_alloc_new w _⟩
    · rw [if_neg e] at hg
      obtain ⟨h1, h2, h3⟩ := h.at_ k g hg
      exact ⟨h1, by simp; omega, by rw [Below.heap_alloc _ _ _ h2]; exact h3⟩
  · unfold fup at ha hc
    by_cases e : a = j
    · rw [if_pos e] at ha
      cases ha
      by_cases e2 : c = j
      · omega
      · rw [if_neg e2] at hc
        have := (h.at_ c _ hc).2.1
        omega
    · rw [if_neg e] at ha
      by_cases e2 : c = j
      · rw [if_pos e2] at hc
        cases hc
        have := (h.at_ a _ ha).2.1
        omega
      · rw [if_neg e2] at hc
        exact h.ne a c g ha hc
theorem step_make {o : Oper} {a : Act} {w : World} {K : Act → World → Prop} {Q : Exit → Act → World → Prop} (t e : TypeId) (l : Operand) (hop : o.op = .makeSlice t l l) (z : Value) (size bytes n : Nat) (ht : Tryd.prog.underlying t = some (.slice e)) (hinfo : (Tryd.prog.info? e).map (fun i => (i.zero, i.size, i.bytes)) = some (some z, size, bytes)) (hl : a.eval l = .int .i64 (n : Int)) (hb : bytes * n ≤ 281474976710656) (hn : n ≤ 100000)
    (h : K (a.put o.dst (.slice (some ⟨w.heap.size, 0, none⟩) n n)) (w.alloc (.cells (madeCells z.cells (n * size)) e))) : o.wp Tryd.prog a w K Q := by
  obtain ⟨i0, hi, hz0, hz1, hz2⟩ := info_parts hinfo
  have hb2 : (i0.bytes : Int) * (n : Int) ≤ 281474976710656 := by
    rw [hz2]
    have h2 : ((bytes * n : Nat) : Int) ≤ 281474976710656 := by omega
    rwa [Int.natCast_mul] at h2
  have hr := run_make (P := Tryd.prog) w t e i0 z ht hi hz0 .i64 .i64 n n (by omega) (Int.le_refl _) hb2 (by omega)
  rw [Int.toNat_natCast, hz1] at hr
  unfold Oper.wp
  simp only [execOp, hop, hl, hr, Sem.run_bind, Sem.run_pure, Result.andThen, Oper.upon]
  exact h
end Go.Proofs.YthfpdbogbmccjaaDoor
