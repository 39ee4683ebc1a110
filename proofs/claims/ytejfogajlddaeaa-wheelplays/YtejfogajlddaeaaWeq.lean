/- slices.Equal at rows of fires that hold the same, walked; and the rows of fires that a wheel's calls leave as they were. -/
import Derived.Test.YtejfogajlddaeaaWla
namespace Go.Proofs.Ytejfogajlddaeaa
open Go.RowKit Go.Maps Go.Shelf Go.Lib Go.Sort Whm
set_option linter.unusedSectionVars false
variable [Inhabited Tm]
variable [Inhabited Ac]

theorem neqF (a i : Int) (w : World) : (binOp .neq 36 (.agg #[.int .i64 a, .int .i64 i]) (.agg #[.int .i64 a, .int .i64 i])).run Try.prog w = .ok (.bool false) w := by
  have u3 := Try.underlying3
  have a3 := Try.isAgg3
  have z3 := Try.sizeOf3
  have u2 := Try.underlying2
  have a2 := Try.isAgg2
  have z2 := Try.sizeOf2
  have hS : Try.prog.underlying 36 = some (.struct (Try.prog.fieldsOf 36)) := by kernel_rfl
  have hp : Try.prog.stoodInHeld 36 = false := by kernel_rfl
  rw [run_neq_struct, show (10000 : Nat) = 9999 + 1 from rfl, run_equalIn_agg w 9999 36 _ _ hS hp]
  simp only [Program.fieldsOf, Try.underlying36]
  go_simp

theorem row_kp {w w' : World} {pb bm B : Nat} {e : TypeId} {size : Nat} {v : Value} {n : Nat} {xs : List Value} (h : w.ownsRow B e size v n xs) (hK : Kp pb bm w w') (h1 : pb < B) (h2 : bm < B) : w'.ownsRow B e size v n xs := by
  refine ⟨h.1, ?_⟩
  rcases h.2 with hn | ⟨g, cap, cur, rfl, hb, hgg, rest⟩
  · exact Or.inl hn
  · refine Or.inr ⟨g, cap, cur, rfl, hb, ?_, rest⟩
    rw [hK.block g (Array.getElem?_eq_some_iff.1 hgg).1 (by omega) (by omega)]
    exact hgg
theorem row_below {w w' : World} {B : Nat} {e : TypeId} {size : Nat} {v : Value} {n : Nat} {xs : List Value} (h : w.ownsRow B e size v n xs) (hK : Below w.heap.size w w') : w'.ownsRow B e size v n xs :=
  h.kept (w' := w') (row := none) ⟨hK.os, hK.tape, hK.output, hK.size, fun k hk _ => hK.block k hk⟩ (by cases hv : v.ownBlock <;> simp)

set_option maxHeartbeats 1000000 in
set_option maxRecDepth 100000 in
theorem equal_any {w : World} {F : List Tm} {p1 p2 : Option Addr} {c1 c2 B1 B2 : Nat} (h1 : w.ownsRow B1 36 2 (.slice p1 F.length c1) F.length (flatF F)) (h2 : w.ownsRow B2 36 2 (.slice p2 F.length c2) F.length (flatF F)) (hlen : F.length ≤ 1000) :
    Calls Try.prog 17 #[.slice p1 F.length c1, .slice p2 F.length c2] w fun e w' => e = .returned (.bool true) ∧ Below w.heap.size w w' := by
  have hlen' : Hid (F.length ≤ 1000) := hlen
  have hnf := neqF
  clear hlen
  go_enter Try.func17, Try.ntmps17
  go_wp2
  go_loopw [13] (fun iv wr => ∃ j : Nat, iv = .int .i64 j ∧ j ≤ F.length ∧ Below w.heap.size w wr)
    (fun iv _ => F.length - (intOf iv).toNat)
  case atStart => exact ⟨0, rfl, Nat.zero_le _, Below.refl _ _⟩
  case round =>
    obtain ⟨j, rfl, hjl, hbl⟩ := hrel
    have r1 := row_below h1 hbl
    have r2 := row_below h2 hbl
    by_cases hj : j < F.length
    · rcases r1.2 with ⟨_, h0⟩ | ⟨g, cap', cur, hv, hrest⟩
      · omega
      obtain ⟨rfl, rfl⟩ : p1 = some ⟨g, 0, none⟩ ∧ c1 = cap' := by simpa using hv
      rcases r2.2 with ⟨_, h0⟩ | ⟨g2, cap2, cur2, hv2, hrest2⟩
      · omega
      obtain ⟨rfl, rfl⟩ : p2 = some ⟨g2, 0, none⟩ ∧ c2 = cap2 := by simpa using hv2
      clear hrest hv hrest2 hv2
      obtain ⟨e0, e1⟩ := flatF_get hj
      have z0 : wr.cell? ⟨g, j * 2, none⟩ = some (.int .i64 F[j]!.a) := (r1.cellAt (j * 2) (by omega)).trans e0
      have z1 : wr.cell? ⟨g, j * 2 + 1, none⟩ = some (.int .i64 F[j]!.i) := (r1.cellAt (j * 2 + 1) (by omega)).trans e1
      have y0 : wr.cell? ⟨g2, j * 2, none⟩ = some (.int .i64 F[j]!.a) := (r2.cellAt (j * 2) (by omega)).trans e0
      have y1 : wr.cell? ⟨g2, j * 2 + 1, none⟩ = some (.int .i64 F[j]!.i) := (r2.cellAt (j * 2 + 1) (by omega)).trans e1
      clear e0 e1 r1 r2 h1 h2
      generalize F[j]! = x at *
      have hji : (j : Int) < (F.length : Int) := by omega
      go_wp2
      go_quiet (fail)
      go_wp2
      have hj2 : j ≤ 100000 := Nat.le_trans hjl (Nat.le_trans hlen'.out (by decide))
      refine ⟨⟨j + 1, ?_, hj, drewN_below hbl nq⟩, ?_⟩
      · first | exact int_wsucc hj2 | exact int_succ j
      · first | exact meas_w hj hj2 | exact meas_1 hj
    · have hji : ¬ (j : Int) < (F.length : Int) := by omega
      clear r1 r2 h1 h2
      go_wp2
      go_ret
      exact ⟨rfl, hbl⟩
end Go.Proofs.Ytejfogajlddaeaa
