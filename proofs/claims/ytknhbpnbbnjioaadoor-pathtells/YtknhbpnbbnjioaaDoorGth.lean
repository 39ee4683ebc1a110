/- Thin, walked. -/
import Derived.Test.YtknhbpnbbnjioaaDoorGal
namespace Go.Proofs.YtknhbpnbbnjioaaDoor
open Go.RowKit Gm
set_option linter.unusedSectionVars false

/-- Row i, with the first k of those behind i looked at. -/
def tp (l : List Ed) (i k b : Nat) : Bool := eB l i b && !((bl (wB l i) 60).take k).any fun t => wB l t b
/-- The thin graph: those edges that no third thing stands between. -/
def tn (l : List Ed) (i b : Nat) : Bool := eB l i b && !(bl (wB l i) 60).any fun t => wB l t b
def tS (l : List Ed) (i k a b : Nat) : Bool := if a < i then tn l a b else if a = i then tp l i k b else eB l a b
theorem tS_zero (l : List Ed) : lk (tS l 0 0) = lk (eB l) := lk_congr fun a b _ _ => by
  unfold tS
  rw [if_neg (by omega)]
  split
  · rename_i h; subst h; simp [tp]
  · rfl
theorem tS_end (l : List Ed) {i k : Nat} (hk : (bl (wB l i) 60).length = k) : lk (tS l i k) = lk (tS l (i + 1) 0) := lk_congr fun a b _ _ => by
  unfold tS
  by_cases h1 : a < i
  · rw [if_pos h1, if_pos (by omega)]
  · rw [if_neg h1]
    by_cases h2 : a = i
    · subst h2
      rw [if_pos rfl, if_pos (by omega)]
      unfold tp tn
      rw [List.take_of_length_le (by omega)]
    · rw [if_neg h2, if_neg (by omega)]
      split
      · rename_i h; subst h; simp [tp]
      · rfl
theorem tS_last (l : List Ed) : lk (tS l 60 0) = lk (tn l) := lk_congr fun a b h _ => by
  unfold tS
  rw [if_pos h]
theorem tS_row (l : List Ed) (i k : Nat) : tS l i k i = tp l i k := by
  funext b
  unfold tS
  rw [if_neg (by omega), if_pos rfl]
theorem tS_step (l : List Ed) {i k : Nat} (hk : k < (bl (wB l i) 60).length) : lk (upd (tS l i k) i (fun b => tp l i k b && !wB l (bn (bl (wB l i) 60) k) b)) = lk (tS l i (k + 1)) := lk_congr fun a b _ _ => by
  unfold upd
  by_cases h : a = i
  · subst h
    rw [if_pos rfl, tS_row]
    unfold tp
    rw [← List.take_append_getElem hk, List.any_append, bn_get hk]
    simp [Bool.and_assoc]
  · rw [if_neg h]
    unfold tS
    rw [if_neg h, if_neg h]
theorem old2 (w : World) (o o' : Obj) : ((w.alloc o).alloc o').heap[w.heap.size]? = some o := by
  rw [Below.heap_alloc _ _ _ (by simp)]; exact heap_alloc_new w o
theorem new2 (w : World) (o o' : Obj) (cs : Array Value) : (((w.alloc o).alloc o').setRow w.heap.size cs).heap[w.heap.size + 1]? = some o' := by
  rw [setRow_other _ _ _ _ (by omega)]
  have := heap_alloc_new (w.alloc o) o'
  rwa [World.size_alloc] at this
theorem new3 (w : World) (o o' : Obj) (cs : Array Value) : (((w.alloc o).alloc o').setRow w.heap.size cs).heap[(w.alloc o).heap.size]? = some o' := by
  rw [World.size_alloc]; exact new2 w o o' cs
theorem two_arr {B : Nat} {w w3 w5 : World} {Z Z' a b : Array Value} {t : TypeId} (h : Below B w w3) (hs : B ≤ w3.heap.size)
    (hb5 : Below ((((w3.alloc (.cells Z t)).alloc (.cells Z' t)).setRow w3.heap.size a).setRow (w3.heap.size + 1) b).heap.size ((((w3.alloc (.cells Z t)).alloc (.cells Z' t)).setRow w3.heap.size a).setRow (w3.heap.size + 1) b) w5) :
    Below B w w5 ∧ w5.heap[w3.heap.size]? = some (.cells a t (0, 0)) ∧ w5.heap[w3.heap.size + 1]? = some (.cells b t (0, 0)) := by
  have hsz : ((((w3.alloc (.cells Z t)).alloc (.cells Z' t)).setRow w3.heap.size a).setRow (w3.heap.size + 1) b).heap.size = w3.heap.size + 2 := by simp [World.setRow]
  refine ⟨?_, ?_, ?_⟩
  · have h1 : Below B w ((w3.alloc (.cells Z t)).alloc (.cells Z' t)) := (h.alloc hs _).alloc (by simp; omega) _
    have h2 := below_row (below_row h1 hs (cs := a)) (g := w3.heap.size + 1) (by omega) (cs := b)
    exact h2.trans (hb5.mono (by rw [hsz]; omega))
  · rw [hb5.block _ (by rw [hsz]; omega), setRow_other _ _ _ _ (by omega)]
    exact setRow_heap _ _ _ _ _ _ (old2 w3 _ _)
  · rw [hb5.block _ (by rw [hsz]; omega)]
    exact setRow_heap _ _ _ _ _ _ (new2 w3 _ _ _)

end Go.Proofs.YtknhbpnbbnjioaaDoor
