/- slices.Equal at two slices of the same ints; First's and Down's boxes are Packed's. -/
import Derived.Test.YtfnkboegbclnaaaKrq
namespace Go.Proofs.Ytfnkboegbclnaaa
open Go.RowKit
set_option linter.unusedSectionVars false
set_option linter.unusedVariables false

set_option maxHeartbeats 1000000 in
set_option maxRecDepth 100000 in
theorem equal_n {w : World} {E : Nat → Int} {n : Nat} {p1 p2 : Option Addr} {c1 c2 B1 B2 : Nat} (h1 : w.ownsRow B1 3 1 (.slice p1 n c1) n (numf E n)) (h2 : w.ownsRow B2 3 1 (.slice p2 n c2) n (numf E n)) (hlen : n ≤ 4000) :
    Calls Try.prog 17 #[.slice p1 n c1, .slice p2 n c2] w fun e w' => e = .returned (.bool true) ∧ Below w.heap.size w w' := by
  have hlen' : Hid (n ≤ 4000) := hlen
  clear hlen
  go_enter Try.func17, Try.ntmps17
  go_wp2
  go_loopw [13] (fun iv wr => ∃ j : Nat, iv = .int .i64 j ∧ j ≤ n ∧ Below w.heap.size w wr)
    (fun iv _ => n - (intOf iv).toNat)
  case atStart => exact ⟨0, rfl, Nat.zero_le _, Below.refl _ _⟩
  case round =>
    obtain ⟨j, rfl, hjl, hbl⟩ := hrel
    have r1 := row_below h1 hbl
    have r2 := row_below h2 hbl
    by_cases hj : j < n
    · obtain ⟨g, rfl, z0, _⟩ := row_num r1 hj
      obtain ⟨g2, rfl, y0, _⟩ := row_num r2 hj
      clear r1 r2 h1 h2
      generalize E j = x at *
      have hji : (j : Int) < (n : Int) := by omega
      have hxx : (x != x) = false := by simp
      go_wp2
      go_quiet (fail)
      go_wp2
      have hj2 : j ≤ 100000 := Nat.le_trans hjl (Nat.le_trans hlen'.out (by decide))
      refine ⟨⟨j + 1, ?_, hj, hbl.trans ⟨rfl, rfl, rfl, Nat.le_refl _, fun _ _ => rfl⟩⟩, ?_⟩
      · first | exact int_wsucc hj2 | exact int_succ j
      · first | exact meas_w hj hj2 | exact meas_1 hj
    · have hji : ¬ (j : Int) < (n : Int) := by omega
      clear r1 r2 h1 h2
      go_wp2
      go_ret
      exact ⟨rfl, hbl⟩
theorem jin_all {R : List Nat} {s : Fs} {n : Nat} (h : Perm0 n R) : numf (jin R s) n = numf s.inn n := numf_congr fun j hj => by
  unfold jin
  rw [if_pos (h.perm.mem_iff.2 (List.mem_range.2 hj))]
theorem pgd_map {P : List Nat} {n : Nat} (h : P.length = n) : (List.range n).map (pgd P) = P.map fun (i : Nat) => (i : Int) := by
  apply List.ext_getElem
  · simp [h]
  · intro j h1 h2
    have hj : j < P.length := by simpa using h2
    simp [pgd, hj]
end Go.Proofs.Ytfnkboegbclnaaa
