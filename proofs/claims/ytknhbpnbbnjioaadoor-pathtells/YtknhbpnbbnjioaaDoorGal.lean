/- A new array of sets, by one row. -/
import Derived.Test.YtknhbpnbbnjioaaDoorGcl
namespace Go.Proofs.YtknhbpnbbnjioaaDoor
open Go.RowKit Gm
set_option linter.unusedSectionVars false

theorem zero_lk (w : World) : (zeroValue 61).run Tryd.prog w = .ok (.agg (lk fun _ _ => false)) w := by
  rw [← lk_zero]
  kernel_rfl
theorem wpList_alloc_lk {ops : Array Oper} {rest : List Oper} {o : Oper} {a : Act} {w : World} {Q : Exit → Act → World → Prop} (hg : o.guard = none) (ho : o.op = .alloc 61)
    (h : wpList Tryd.prog ops Q rest (a.put o.dst (.pointer (some ⟨w.heap.size, 0, none⟩))) (w.alloc (.cells (lk fun _ _ => false) 61))) : wpList Tryd.prog ops Q (o :: rest) a w := by
  refine wpList_plain hg fun K hK => ?_
  unfold Oper.wp execOp
  simp only [ho]
  have hz := zero_lk w
  simp [hz, go_sem, Sem.run_bind, Result.andThen_ok, Value.cells]
  exact hK _ _ h
end Go.Proofs.YtknhbpnbbnjioaaDoor
