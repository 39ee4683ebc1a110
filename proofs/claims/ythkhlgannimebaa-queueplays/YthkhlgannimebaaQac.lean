/- The acts that are handed in to the queue's laws. -/
import Derived.Test.YthkhlgannimebaaQla
namespace Go.Proofs.Ythkhlgannimebaa
open Go.RowKit Go.Maps Go.Sort Qum
set_option linter.unusedSectionVars false

/-- An act: its kind, its name, its rank, its time. -/
structure Ac where
  k : Int
  i : Int
  p : Int
  a : Int
def ac (l : List Ac) (j : Nat) : Ac := l.getD j ⟨0, 0, 0, 0⟩
theorem ac_get {l : List Ac} {k : Nat} (hk : k < l.length) : ac l k = l[k] := by simp [ac, hk]

/-- The acts lie in the block b from o on. -/
structure ActsAt (w : World) (b o : Nat) (l : List Ac) : Prop where
  lt : b < w.heap.size
  ck : ∀ j, j < l.length → w.cell? ⟨b, o + j * 4, none⟩ = some (.int .i64 (ac l j).k)
  ci : ∀ j, j < l.length → w.cell? ⟨b, o + j * 4 + 1, none⟩ = some (.int .i64 (ac l j).i)
  cp : ∀ j, j < l.length → w.cell? ⟨b, o + j * 4 + 2, none⟩ = some (.int .i64 (ac l j).p)
  ca : ∀ j, j < l.length → w.cell? ⟨b, o + j * 4 + 3, none⟩ = some (.int .i64 (ac l j).a)
  wi : ∀ j, j < l.length → (Lit.int .i64 (ac l j).i).wf = true

/-- A slice of acts: none of them, or they lie somewhere. -/
def Acts (w : World) (q : Option Addr) (l : List Ac) : Prop := l.length = 0 ∨ ∃ b o, q = some ⟨b, o, none⟩ ∧ ActsAt w b o l

theorem fq_cell {B : Nat} {bm : Option Nat} {w w' : World} {a : Addr} {v : Value} (hF : Fq B bm w w') (h : w.cell? a = some v) (h1 : some a.block ≠ bm) (h2 : tagd w a.block = false) : w'.cell? a = some v :=
  (World.cell?_of_block (w := w) (hF.oth a.block (World.block_lt_of_cell? w a h) h1 h2)).trans h
end Go.Proofs.Ythkhlgannimebaa
