/- Package need, walked: fits, check. -/
import Derived.Test.YtelepamnlpebgaaDoorNdm
import Derived.ProofKit
import Derived.Test.YtelepamnlpebgaaDoorChecked
import Derived.WalkKit
import Derived.Laws.Rows
import Derived.Laws.Tables
import Derived.Deep.QuietTactic
import Derived.BigQuiet
namespace Go.Proofs.YtelepamnlpebgaaDoor
open Go.RowKit Ndm
set_option linter.unusedSectionVars false
set_option linter.unusedVariables false

def nv (a : N3) : Value := .agg #[.int .i64 a.x, .int .i64 a.y, .int .i64 a.z]

theorem need_info (cs : Array Value) (h : cs.size = 3) : (Tryd.prog.info? 38).map (·.size) = some cs.size := by rw [h]; kernel_rfl
theorem need_one (x y z : Int) : (#[.int .i64 x, .int .i64 y, .int .i64 z] : Array Value).all (·.oneCell') = true := by simp [Value.oneCell']
theorem wrap_succB {i : Nat} (h : i ≤ 10000000000000) : wrap64 ((i : Int) + 1) = ((i + 1 : Nat) : Int) := by unfold wrap64; omega
theorem meas_wB {n i : Nat} (hi : i < n) (h : i ≤ 10000000000000) : n - (intOf (.int .i64 (wrap64 ((i : Int) + 1)))).toNat < n - (intOf (.int .i64 (i : Int))).toNat := by
  rw [wrap_succB h]
  simp [intOf]
  omega
theorem meas_1 {n i : Nat} (hi : i < n) : n - (intOf (.int .i64 ((i : Int) + 1))).toNat < n - (intOf (.int .i64 (i : Int))).toNat := by
  simp [intOf]
  omega
theorem int_succ (i : Nat) : Value.int .i64 ((i : Int) + 1) = .int .i64 ((i + 1 : Nat) : Int) := by simp
theorem int_wsuccB {i : Nat} (h : i ≤ 10000000000000) : Value.int .i64 (wrap64 ((i : Int) + 1)) = .int .i64 ((i + 1 : Nat) : Int) := by rw [wrap_succB h]
theorem ret_i {a b : Int} (h : a = b) : Ending.returned (.int .i64 a) = .returned (.int .i64 b) := by rw [h]
theorem ret_b {a b : Bool} (h : a = b) : Ending.returned (.bool a) = .returned (.bool b) := by rw [h]
theorem drewN_below {B : Nat} {w wz : World} (h : Below B w wz) (q : Nat) : Below B w (wz.drewN q) := ⟨h.os, h.tape, h.output, h.size, h.block⟩
theorem below_row {B : Nat} {w w' : World} (h : Below B w w') {g : Nat} (hg : B ≤ g) {cs : Array Value} : Below B w (w'.setRow g cs) :=
  ⟨h.os, h.tape, h.output, by have := h.size; simpa [World.setRow] using this, fun k hk => by rw [setRow_other w' g k cs (by omega)]; exact h.block k hk⟩

theorem load_wanted {P : Program} {ops : Array Oper} {rest : List Oper} {o : Oper} {a : Act} {w : World} {Q : Exit → Act → World → Prop} (hw : Region.wanted o (yielded ops a.tmps) = true) (ty : TypeId) (x : Operand) (ho : o.op = .load ty x)
    (g : Nat) (hx : a.eval x = .pointer (some ⟨g, 0, none⟩)) (t : TypeId) (cs : Array Value) (fr : Nat × Nat) (d : TypeDesc) (hg : w.heap[g]? = some (.cells cs t fr))
    (hu : P.underlying ty = some d) (hd : (match d with | .struct _ | .array _ _ => true | _ => false) = true) (hi : (P.info? ty).map (·.size) = some cs.size)
    (h : wpList P ops Q rest (a.put o.dst (.agg cs)) w) : wpList P ops Q (o :: rest) a w := by
  unfold wpList
  rw [if_pos hw]
  exact .inl (wp_load_row ty x ho g hx t cs fr d hg hu hd hi h)

/-- The needs lie in the block b from o on. -/
structure NdAt (w : World) (b o : Nat) (l : List N3) : Prop where
  lt : b < w.heap.size
  cx : ∀ j, j < l.length → w.cell? ⟨b, o + j * 3, none⟩ = some (.int .i64 (nE l j).x)
  cy : ∀ j, j < l.length → w.cell? ⟨b, o + j * 3 + 1, none⟩ = some (.int .i64 (nE l j).y)
  cz : ∀ j, j < l.length → w.cell? ⟨b, o + j * 3 + 2, none⟩ = some (.int .i64 (nE l j).z)
def Nds (w : World) (q : Option Addr) (l : List N3) : Prop := l.length = 0 ∨ ∃ b o, q = some ⟨b, o, none⟩ ∧ NdAt w b o l
theorem NdAt.below {w w' : World} {b o : Nat} {l : List N3} {B : Nat} (h : NdAt w b o l) (hb : Below B w w') (hB : b < B) : NdAt w' b o l :=
  ⟨Nat.lt_of_lt_of_le h.lt hb.size, fun j hj => (hb.cell (p := ⟨b, o + j * 3, none⟩) hB).trans (h.cx j hj), fun j hj => (hb.cell (p := ⟨b, o + j * 3 + 1, none⟩) hB).trans (h.cy j hj), fun j hj => (hb.cell (p := ⟨b, o + j * 3 + 2, none⟩) hB).trans (h.cz j hj)⟩
theorem Nds.below {w w' : World} {q : Option Addr} {l : List N3} (h : Nds w q l) {B : Nat} (hb : Below B w w') (hB : w.heap.size ≤ B) : Nds w' q l := by
  rcases h with h0 | ⟨b, o, e, hA⟩
  · exact Or.inl h0
  · exact Or.inr ⟨b, o, e, hA.below hb (Nat.lt_of_lt_of_le hA.lt hB)⟩
/-- A need lies in a box of its own. -/
def NBox (w : World) (g : Nat) (a : N3) : Prop := w.heap[g]? = some (.cells #[.int .i64 a.x, .int .i64 a.y, .int .i64 a.z] 38 (0, 0))
theorem NBox.lt {w : World} {g : Nat} {a : N3} (h : NBox w g a) : g < w.heap.size := (Array.getElem?_eq_some_iff.1 h).1
theorem NBox.below {w w' : World} {g : Nat} {a : N3} {B : Nat} (h : NBox w g a) (hb : Below B w w') (hB : g < B) : NBox w' g a := (hb.block g hB).trans h
theorem NBox.c0 {w : World} {g : Nat} {a : N3} (h : NBox w g a) : w.cell? ⟨g, 0, none⟩ = some (.int .i64 a.x) := (cell_of_row _ _ 0 _ _ _ h).trans rfl
theorem NBox.c1 {w : World} {g : Nat} {a : N3} (h : NBox w g a) : w.cell? ⟨g, 1, none⟩ = some (.int .i64 a.y) := (cell_of_row _ _ 1 _ _ _ h).trans rfl
theorem NBox.c2 {w : World} {g : Nat} {a : N3} (h : NBox w g a) : w.cell? ⟨g, 2, none⟩ = some (.int .i64 a.z) := (cell_of_row _ _ 2 _ _ _ h).trans rfl
/-- One or two needs in a new block. -/
theorem nds_one (w : World) (a : N3) : Nds (w.alloc (.cells #[.int .i64 a.x, .int .i64 a.y, .int .i64 a.z] 38)) (some ⟨w.heap.size, 0, none⟩) [a] := by
  have h := heap_alloc_new w (.cells #[.int .i64 a.x, .int .i64 a.y, .int .i64 a.z] 38)
  refine Or.inr ⟨_, _, rfl, by simp, fun j hj => ?_, fun j hj => ?_, fun j hj => ?_⟩
  all_goals
    obtain rfl : j = 0 := by simpa using hj
    exact (cell_of_row _ _ _ _ _ _ h).trans rfl
theorem nds_two (w : World) (a b : N3) : Nds (w.alloc (.cells #[.int .i64 a.x, .int .i64 a.y, .int .i64 a.z, .int .i64 b.x, .int .i64 b.y, .int .i64 b.z] 38)) (some ⟨w.heap.size, 0, none⟩) [a, b] := by
  have h := heap_alloc_new w (.cells #[.int .i64 a.x, .int .i64 a.y, .int .i64 a.z, .int .i64 b.x, .int .i64 b.y, .int .i64 b.z] 38)
  refine Or.inr ⟨_, _, rfl, by simp, fun j hj => ?_, fun j hj => ?_, fun j hj => ?_⟩
  all_goals
    have hj' : j < 2 := hj
    rcases (show j = 0 ∨ j = 1 by omega) with rfl | rfl
    all_goals exact (cell_of_row _ _ _ _ _ _ h).trans rfl
def ce (b : Bool) : Int := if b then 0 else 4

end Go.Proofs.YtelepamnlpebgaaDoor
