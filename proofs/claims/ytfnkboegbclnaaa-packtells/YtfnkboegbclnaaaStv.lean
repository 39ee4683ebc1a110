/- The library's stable sort at a row of one cell each: merging in place, whole. -/
import Derived.Test.YtfnkboegbclnaaaStx
namespace Go.Proofs.Ytfnkboegbclnaaa
open Go.RowKit Go.Shelf Go.Lib Go.Sort Stm
set_option linter.unusedSectionVars false
set_option linter.unusedVariables false
variable {α : Type} [Inhabited α]

theorem sym_all (enc : α → Value) (cf : α → α → Int) (T : α → α → Prop) (g : Nat) (cb : Array Value) (blk off cap : Nat) (d0 : Array α) (w0 : World) (C : SyC enc cf T g cb blk off d0 w0) : ∀ n, SyM enc cf T g cb blk off cap d0 w0 n := by
  intro n
  induction n with
  | zero => intro a m b d w hn hs S ham hmb; omega
  | succ n IH =>
    intro a m b d w hn hs S ham hmb hb hS h1 h2
    by_cases e1 : m = a + 1
    · exact sym_one enc cf T g cb blk off cap d0 w0 C a m b e1 d w hs S hmb hb hS h2
    by_cases e2 : b = m + 1
    · exact sym_last enc cf T g cb blk off cap d0 w0 C a m b e2 d w hs S (by omega) hb hS h1
    by_cases e3 : (a + b) / 2 < m
    · exact sym_hi enc cf T g cb blk off cap d0 w0 C n IH a m b ((a + b) / 2) ((a + b) / 2 + m - b) ((a + b) / 2) ((a + b) / 2 + m) ((a + b) / 2 + m - 1) d w hn hs S hb hS h1 h2 (by omega) (by omega) ⟨rfl, ham, hmb, by omega, Or.inl ⟨e3, rfl, rfl⟩⟩ rfl (by omega) e3 (by omega) rfl
    · exact sym_lo enc cf T g cb blk off cap d0 w0 C n IH a m b ((a + b) / 2) a m ((a + b) / 2 + m) ((a + b) / 2 + m - 1) d w hn hs S hb hS h1 h2 (by omega) (by omega) ⟨rfl, ham, hmb, by omega, Or.inr ⟨by omega, rfl, rfl⟩⟩ rfl (by omega) (by omega) rfl rfl
end Go.Proofs.Ytfnkboegbclnaaa
