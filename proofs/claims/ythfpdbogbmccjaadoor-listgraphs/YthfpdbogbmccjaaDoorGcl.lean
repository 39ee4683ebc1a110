/- Close, walked; slices.Equal, Index, Contains at rows of edges. -/
import Derived.Test.YthfpdbogbmccjaaDoorGct
namespace Go.Proofs.YthfpdbogbmccjaaDoor
open Go.RowKit Gm
set_option linter.unusedSectionVars false

def ce (n : Int) (l : List Ed) : Int := if chk n l = 0 then (if 400 < nE (wB l) 60 then 2 else 0) else chk n l
def cl (n : Int) (l : List Ed) : List Ed := if chk n l = 0 ∧ nE (wB l) 60 ≤ 400 then eL (wB l) 60 else []

theorem eqlE (a i b j : Int) (w : World) : (binOp .eql 52 (.agg #[.int .i64 a, .int .i64 i]) (.agg #[.int .i64 b, .int .i64 j])).run Tryd.prog w = .ok (.bool (decide (a = b) && decide (i = j))) w := by
  have u3 := Tryd.underlying3
  have a3 := Tryd.isAgg3
  have z3 := Tryd.sizeOf3
  have hS : Tryd.prog.underlying 52 = some (.struct (Tryd.prog.fieldsOf 52)) := by kernel_rfl
  have hp : Tryd.prog.stoodInHeld 52 = false := by kernel_rfl
  rw [run_eql_struct, show (10000 : Nat) = 9999 + 1 from rfl, run_equalIn_agg w 9999 52 _ _ hS hp]
  simp only [Program.fieldsOf, Tryd.underlying52]
  by_cases h1 : a = b <;> by_cases h2 : i = j <;> simp only [h1, h2] <;> go_simp
theorem neqE (a i : Int) (w : World) : (binOp .neq 52 (.agg #[.int .i64 a, .int .i64 i]) (.agg #[.int .i64 a, .int .i64 i])).run Tryd.prog w = .ok (.bool false) w := by
  have u3 := Tryd.underlying3
  have a3 := Tryd.isAgg3
  have z3 := Tryd.sizeOf3
  have hS : Tryd.prog.underlying 52 = some (.struct (Tryd.prog.fieldsOf 52)) := by kernel_rfl
  have hp : Tryd.prog.stoodInHeld 52 = false := by kernel_rfl
  rw [run_neq_struct, show (10000 : Nat) = 9999 + 1 from rfl, run_equalIn_agg w 9999 52 _ _ hS hp]
  simp only [Program.fieldsOf, Tryd.underlying52]
  go_simp
theorem drewN_below {B : Nat} {w wz : World} (h : Below B w wz) (q : Nat) : Below B w (wz.drewN q) := ⟨h.os, h.tape, h.output, h.size, h.block⟩
theorem row_ed {w : World} {B : Nat} {p : Option Addr} {L : List Ed} {n c : Nat} (h : w.ownsRow B 52 2 (.slice p n c) n (flatE L)) (hn : L.length = n) {k : Nat} (hk : k < n) : ∃ g, p = some ⟨g, 0, none⟩ ∧ w.cell? ⟨g, k * 2, none⟩ = some (.int .i64 (ed L k).f) ∧ w.cell? ⟨g, k * 2 + 1, none⟩ = some (.int .i64 (ed L k).t) := by
  rcases h.2 with ⟨_, h0⟩ | ⟨g, cap, cur, hv, hB, _⟩
  · omega
  · obtain ⟨rfl, rfl⟩ : p = some ⟨g, 0, none⟩ ∧ c = cap := by simpa using hv
    have hk' : k < L.length := by omega
    exact ⟨g, rfl, by rw [h.cellAt (k * 2) (by omega), (flatE_get hk').1], by rw [h.cellAt (k * 2 + 1) (by omega), (flatE_get hk').2]⟩

end Go.Proofs.YthfpdbogbmccjaaDoor
