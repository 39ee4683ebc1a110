/- What all the texts about numbers lean on: numbers that lie somewhere, rows of numbers of one's own, an append of one. -/
import Derived.Test.YthfpdbogbmccjaaDoorJgr
import Derived.ProofKit
import Derived.Deep.QuietTactic
import Derived.BigQuiet
import Derived.WalkKit
import Derived.WalkSpells
import Derived.WalkLawsBesides
import Derived.StillTailTactics
import Derived.Laws.Rows
import Derived.Laws.OwnMore
import Derived.Maps.AppendAt
import Derived.BigCall
namespace Go.Proofs.YthfpdbogbmccjaaDoor
open Go.RowKit Gm Pm
set_option linter.unusedSectionVars false
set_option linter.unusedVariables false
theorem numf_snoc (E : Nat → Int) (n : Nat) : numf E (n + 1) = numf E n ++ [.int .i64 (E n)] := by
  unfold numf
  rw [List.range_succ, List.map_append]
  rfl
theorem nums_row {w : World} {B : Nat} {t : TypeId} {p : Option Addr} {E : Nat → Int} {n c : Nat} (h : w.ownsRow B t 1 (.slice p n c) n (numf E n)) : Nums w p ((List.range n).map E) := by
  by_cases e : n = 0
  · left; simp [e]
  · right
    obtain ⟨g, rfl, _, hB⟩ := row_num h (k := 0) (by omega)
    refine ⟨g, 0, rfl, (h.lt g rfl).2, fun j hj => ?_⟩
    have hj' : j < n := by simpa using hj
    obtain ⟨g', e', h1, _⟩ := row_num h hj'
    cases e'
    rw [Nat.zero_add, h1]
    simp [nm, hj']
/-- An append of one number, as an operation. -/
theorem step_app64 {w : World} {o : Oper} {a : Act} {Q : Exit → Act → World → Prop} {K : Act → World → Prop} {base : Nat} (s x : Operand) (hop : o.op = Op.call { callee := Callee.builtin Builtin.append, args := #[s, x], argTypes := #[23, 23] })
    {p : Option Addr} {m c : Nat} {xs : List Value} {u : Value} {ad : Addr} (hown : w.ownsRow base 2 1 (.slice p m c) m xs) (hs : a.eval s = .slice p m c) (hx : a.eval x = .slice (some ad) 1 1 ∧ u.oneCell' = true) (hnews : ∀ j y, [u][j]? = some y → w.cell? (ad.add j) = some y) (hm : m ≤ 1000) (hbase : base ≤ w.heap.size)
    (h : ∀ g' c' w', w'.ownsRow base 2 1 (.slice (some ⟨g', 0, none⟩) (m + 1) c') (m + 1) (xs ++ [u]) → w.grownBy w' (Value.ownBlock (.slice p m c)) → (some g' = Value.ownBlock (.slice p m c) ∨ some g' = some w.heap.size) → K (a.put o.dst (.slice (some ⟨g', 0, none⟩) (m + 1) c')) w') : o.wp Tryd.prog a w K Q := by
  obtain ⟨i0, hi, hz0, hz1, hz2⟩ := info_parts info_i64
  obtain ⟨v', w', hr, h2, h3, h4, h5⟩ := run_append_own_at (P := Tryd.prog) w base 23 o.type 2 i0 (.int .i64 0) 1 8 Tryd.underlying23 hi hz0 hz1 hz2 rfl (by decide) _ _ xs hown ad 1 1 [u] rfl hnews (fun y hy => by simp at hy; subst hy; exact hx.2) (by unfold maxLen; omega) (by omega) hbase
  obtain ⟨g', c', rfl⟩ := form_succ h2
  unfold Oper.wp execOp
  simp only [hop, resolve, invoke, builtin, Sem.run_bind, Sem.run_pure, Result.andThen_ok, List.map_toArray, List.map_cons, List.map_nil, hs, hx.1, hr]
  exact h g' c' w' h2 h3 h5

end Go.Proofs.YthfpdbogbmccjaaDoor
