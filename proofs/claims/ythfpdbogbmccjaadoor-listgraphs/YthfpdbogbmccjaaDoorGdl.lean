/- slices.Clone and slices.Delete at rows of edges. -/
import Derived.Test.YthfpdbogbmccjaaDoorGcl
import Derived.Maps.AppendAt
import Derived.Deep.Upon
import Derived.Deep.RegionLaw
import Derived.Shelf.RegionOpenPlain
import Derived.Lib.Walk
namespace Go.Proofs.YthfpdbogbmccjaaDoor
open Go.RowKit Go.Maps Go.Lib Gm
open Go.RowKit (Below)
set_option linter.unusedSectionVars false
set_option linter.unusedVariables false
set_option linter.unusedSimpArgs false

theorem flatE_one (l : List Ed) : ∀ u ∈ flatE l, u.oneCell' = true := by
  intro u hu
  unfold flatE at hu
  obtain ⟨x, _, hx⟩ := List.mem_flatMap.1 hu
  simp at hx
  rcases hx with rfl | rfl <;> rfl
theorem wpList_clone_e {w : World} {ops : Array Oper} {rest : List Oper} {o : Oper} {a : Act} {Q : Exit → Act → World → Prop} (hg : o.guard = none)
    (s x : Operand) (hop : o.op = Op.call { callee := Callee.builtin Builtin.append, args := #[s, x], argTypes := #[22, 22] })
    {v : Value} {g c n B : Nat} {xs : List Value} (hB : B ≤ w.heap.size) (hs : a.eval s = v) (hx : a.eval x = .slice (some ⟨g, 0, none⟩) n c) (h0 : w.ownsRow B 52 2 v 0 []) (hl : xs.length = n * 2) (hc : ∀ j u, xs[j]? = some u → w.cell? ⟨g, j, none⟩ = some u) (h1 : ∀ u ∈ xs, u.oneCell' = true) (hb : n ≤ 4000)
    (hK : ∀ v' w', w'.ownsRow B 52 2 v' n xs → w.grownBy w' v.ownBlock → wpList Tryd.prog ops Q rest (a.put o.dst v') w') :
    wpList Tryd.prog ops Q (o :: rest) a w := by
  obtain ⟨i0, hi, hz0, hz1, hz2⟩ := info_parts info_edge
  refine wpList_plain hg fun K' hK' => ?_
  obtain ⟨v', w', hrun, r1, r2, _, _⟩ := run_append_own_at (P := Tryd.prog) (w := w) B 22 o.type 52 i0 (.agg #[.int .i64 0, .int .i64 0]) 2 16 Tryd.underlying22 hi hz0 hz1 hz2 rfl (by decide) v 0 [] h0 ⟨g, 0, none⟩ n c xs (by omega) (fun j u hu => by rw [Addr.add_lit, Nat.zero_add]; exact hc j u hu) h1 (by unfold maxLen; omega) (by omega) hB
  rw [Nat.zero_add, List.nil_append] at r1
  unfold Oper.wp
  simp [execOp, hop, resolve, invoke, builtin, hs, hx, hrun, Result.andThen]
  exact hK' _ _ (hK v' w' r1 r2)
theorem ownsRow_form' {w : World} {B : Nat} {e : TypeId} {k : Nat} {v : Value} {n : Nat} {xs : List Value} (h : w.ownsRow B e k v n xs) : ∃ p cap, v = .slice p n cap := by
  rcases h.2 with ⟨rfl, rfl⟩ | ⟨g, cap, cur, rfl, _⟩
  · exact ⟨none, 0, rfl⟩
  · exact ⟨_, cap, rfl⟩

/-- A row written over from a place on. -/
def layC (cur : Array Value) : Nat → List Value → Array Value
  | _, [] => cur
  | j, x :: xs => layC (cur.setIfInBounds j x) (j + 1) xs
theorem layC_size : ∀ (xs : List Value) (j : Nat) (cur : Array Value), (layC cur j xs).size = cur.size
  | [], _, _ => rfl
  | x :: xs, j, cur => by rw [layC, layC_size xs]; simp
theorem layC_get : ∀ (xs : List Value) (j : Nat) (cur : Array Value) (k : Nat), k < cur.size → (layC cur j xs)[k]? = if j ≤ k ∧ k < j + xs.length then xs[k - j]? else cur[k]?
  | [], j, cur, k, hk => by rw [layC, if_neg (by simp)]
  | x :: xs, j, cur, k, hk => by
    rw [layC, layC_get xs (j + 1) _ k (by simpa using hk)]
    by_cases e : k = j
    · subst e
      rw [if_neg (by omega), if_pos (by simp)]
      simp [hk]
    · by_cases h : j + 1 ≤ k ∧ k < j + 1 + xs.length
      · rw [if_pos h, if_pos (by simp; omega), show k - j = (k - (j + 1)) + 1 by omega]
        simp
      · rw [if_neg h, if_neg (by simp; omega)]
        simp [Array.getElem?_setIfInBounds, Ne.symm e]
theorem heap_setCells_lay (g : Nat) (e : TypeId) : ∀ (xs : List Value) (j : Nat) (w : World) (cur : Array Value), w.heap[g]? = some (.cells cur e) → (w.setCells g j xs).heap[g]? = some (.cells (layC cur j xs) e)
  | [], _, _, _, h => h
  | x :: xs, j, w, cur, h => heap_setCells_lay g e xs (j + 1) _ _ (heap_setCell_same w g j _ _ _ h)
theorem run_clear_ed {w : World} {g j c : Nat} (h0 : (w.cell? ⟨g, j, none⟩).isSome = true) (h1 : (w.cell? ⟨g, j + 1, none⟩).isSome = true) (f0 : w.frozen? ⟨g, j, none⟩ = false) (f1 : w.frozen? ⟨g, j + 1, none⟩ = false) (ty : TypeId) :
    (Builtin.clear_ #[22] ty #[.slice (some ⟨g, j, none⟩) 1 c]).run Tryd.prog w = .ok (.tuple #[]) (w.setCells g j [.int .i64 0, .int .i64 0]) := by
  have hz : (zeroValue 52).run Tryd.prog w = .ok (.agg #[.int .i64 0, .int .i64 0]) w := by kernel_rfl
  have hzc : (Builtin.zeroCells (Value.agg #[.int .i64 0, .int .i64 0]).cells 1).toList = [.int .i64 0, .int .i64 0] := by kernel_rfl
  have hst := run_storeCells_cells (P := Tryd.prog) g j [.int .i64 0, .int .i64 0] 0 w (fun k hk => by
    rcases (show k = 0 ∨ k = 1 by simp at hk; omega) with rfl | rfl
    · simpa using h0
    · simpa using h1) (fun k hk => by
    rcases (show k = 0 ∨ k = 1 by simp at hk; omega) with rfl | rfl
    · simpa using f0
    · simpa using f1) (by simp [Value.oneCell'])
  simp only [Nat.add_zero] at hst
  simp [Builtin.clear_, run_underlying Tryd.underlying22, hz, hzc, hst]

theorem below_cells {B g : Nat} (hg : B ≤ g) : ∀ (vs : List Value) (o : Nat) (w : World), Below B w (w.setCells g o vs)
  | [], _, w => Below.refl B w
  | v :: r, o, w => ((Below.refl B w).setCell (p := ⟨g, o, none⟩) hg v).trans (below_cells hg r (o + 1) _)

theorem flatE_erase {L : List Ed} {j : Nat} : flatE (L.eraseIdx j) = (flatE L).take (j * 2) ++ (flatE L).drop ((j + 1) * 2) := by
  have tk : ∀ (L : List Ed) (m : Nat), (flatE L).take (m * 2) = flatE (L.take m) := by
    intro L
    induction L with
    | nil => intro m; simp [flatE]
    | cons x r ih =>
      intro m
      cases m with
      | zero => simp [flatE]
      | succ m => have := ih m; simp [flatE] at this ⊢; rw [show (m + 1) * 2 = m * 2 + 1 + 1 by omega]; simp [this]
  have dk : ∀ (L : List Ed) (m : Nat), (flatE L).drop (m * 2) = flatE (L.drop m) := by
    intro L
    induction L with
    | nil => intro m; simp [flatE]
    | cons x r ih =>
      intro m
      cases m with
      | zero => simp [flatE]
      | succ m => have := ih m; simp [flatE] at this ⊢; rw [show (m + 1) * 2 = m * 2 + 1 + 1 by omega]; simp [this]
  rw [List.eraseIdx_eq_take_drop_succ, flatE_app, tk, dk]

end Go.Proofs.YthfpdbogbmccjaaDoor
