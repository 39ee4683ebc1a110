/- The library's Min, Max and Index at rows of numbers of one's own. -/
import Derived.Test.YthfpdbogbmccjaaDoorOjc
namespace Go.Proofs.YthfpdbogbmccjaaDoor
open Go.RowKit Gm Pm
set_option linter.unusedSectionVars false
set_option linter.unusedVariables false

theorem lm_step (W : Nat → Int) (k : Nat) : min (W (lm W k)) (W k) = W (lm W (k + 1)) := by
  rw [lm]
  split <;> omega
theorem xm_step (W : Nat → Int) (k : Nat) : max (xm W k) (W k) = xm W (k + 1) := by
  rw [xm]
  split <;> omega

set_option maxHeartbeats 1000000 in
set_option maxRecDepth 100000 in
theorem Min_any {w : World} {B : Nat} {p : Option Addr} {W : Nat → Int} {m c : Nat} (hr : w.ownsRow B 2 1 (.slice p m c) m (numf W m)) (hm : 1 ≤ m) (hm2 : m ≤ 1000) :
    Calls Tryd.prog 43 #[.slice p m c] w fun e w' => e = .returned (.int .i64 (W (lm W m))) ∧ w' = w := by
  have hmH : Hid (m ≤ 1000) := hm2
  obtain ⟨g, rfl, z0, _⟩ := row_num hr (k := 0) (by omega)
  have h1i : ¬ (m : Int) < 1 := by omega
  have hm0 : (0 : Int) < (m : Int) := by omega
  have z00 : w.cell? ⟨g, 0, none⟩ = some (.int .i64 (W 0)) := z0
  clear hm2 z0
  go_enter Tryd.func43, Tryd.ntmps43
  go_wp2
  clear z00 h1i hm0
  go_loopw [3, 4] (fun sv iv wr => ∃ j : Nat, iv = .int .i64 j ∧ sv = .int .i64 (W (lm W j)) ∧ 1 ≤ j ∧ j ≤ m ∧ wr = w)
    (fun _ iv _ => m - (intOf iv).toNat)
  case atStart => exact ⟨1, rfl, by rw [lm_one], Nat.le_refl _, hm, rfl⟩
  case round =>
    obtain ⟨j, rfl, rfl, hj1, hjl, rfl⟩ := hrel
    by_cases hj : j < m
    · obtain ⟨g', e, z1, _⟩ := row_num hr hj
      cases e
      have hji : (j : Int) < (m : Int) := by omega
      have hjH : Hid (j < m) := hj
      have hj1H : Hid (1 ≤ j) := hj1
      have hj2 : Hid (j ≤ 100000) := by have := hmH.out; show _ ≤ _; omega
      have hst : Hid (min (W (lm W j)) (W j) = W (lm W (j + 1))) := lm_step W j
      generalize W (lm W j) = S at *
      generalize W j = x at *
      clear hj hj1 hjl hm
      go_wp2
      refine ⟨⟨j + 1, ?_, ?_, by have := hj1H.out; omega, hjH.out, by first | rfl | trivial⟩, ?_⟩
      · first | exact int_succ j | exact int_wsucc hj2.out
      · (rw [← hst.out]) <;> exact congrArg (Value.int .i64) (by split <;> omega)
      · first | exact meas_1 hjH.out | exact meas_w hjH.out hj2.out
    · have hji : ¬ (j : Int) < (m : Int) := by omega
      have e : j = m := by omega
      subst e
      go_wp2
      go_ret
      exact ⟨rfl, rfl⟩

set_option maxHeartbeats 1000000 in
set_option maxRecDepth 100000 in
theorem Max_any {w : World} {B : Nat} {p : Option Addr} {W : Nat → Int} {m c : Nat} (hr : w.ownsRow B 2 1 (.slice p m c) m (numf W m)) (hm : 1 ≤ m) (hm2 : m ≤ 1000) :
    Calls Tryd.prog 44 #[.slice p m c] w fun e w' => e = .returned (.int .i64 (xm W m)) ∧ w' = w := by
  have hmH : Hid (m ≤ 1000) := hm2
  obtain ⟨g, rfl, z0, _⟩ := row_num hr (k := 0) (by omega)
  have h1i : ¬ (m : Int) < 1 := by omega
  have hm0 : (0 : Int) < (m : Int) := by omega
  have z00 : w.cell? ⟨g, 0, none⟩ = some (.int .i64 (W 0)) := z0
  clear hm2 z0
  go_enter Tryd.func44, Tryd.ntmps44
  go_wp2
  clear z00 h1i hm0
  go_loopw [3, 4] (fun sv iv wr => ∃ j : Nat, iv = .int .i64 j ∧ sv = .int .i64 (xm W j) ∧ 1 ≤ j ∧ j ≤ m ∧ wr = w)
    (fun _ iv _ => m - (intOf iv).toNat)
  case atStart => exact ⟨1, rfl, by rw [xm_one], Nat.le_refl _, hm, rfl⟩
  case round =>
    obtain ⟨j, rfl, rfl, hj1, hjl, rfl⟩ := hrel
    by_cases hj : j < m
    · obtain ⟨g', e, z1, _⟩ := row_num hr hj
      cases e
      have hji : (j : Int) < (m : Int) := by omega
      have hjH : Hid (j < m) := hj
      have hj1H : Hid (1 ≤ j) := hj1
      have hj2 : Hid (j ≤ 100000) := by have := hmH.out; show _ ≤ _; omega
      have hst : Hid (max (xm W j) (W j) = xm W (j + 1)) := xm_step W j
      generalize xm W j = S at *
      generalize W j = x at *
      clear hj hj1 hjl hm
      go_wp2
      refine ⟨⟨j + 1, ?_, ?_, by have := hj1H.out; omega, hjH.out, by first | rfl | trivial⟩, ?_⟩
      · first | exact int_succ j | exact int_wsucc hj2.out
      · (rw [← hst.out]) <;> exact congrArg (Value.int .i64) (by split <;> omega)
      · first | exact meas_1 hjH.out | exact meas_w hjH.out hj2.out
    · have hji : ¬ (j : Int) < (m : Int) := by omega
      have e : j = m := by omega
      subst e
      go_wp2
      go_ret
      exact ⟨rfl, rfl⟩

set_option maxHeartbeats 1000000 in
set_option maxRecDepth 100000 in
theorem Index_any {w : World} {B : Nat} {p : Option Addr} {W : Nat → Int} {m c k : Nat} (v : Int) (hr : w.ownsRow B 2 1 (.slice p m c) m (numf W m)) (hm2 : m ≤ 1000) (hk : k < m) (hv : W k = v) (hn : ∀ i, i < k → W i ≠ v) :
    Calls Tryd.prog 42 #[.slice p m c, .int .i64 v] w fun e w' => e = .returned (.int .i64 (k : Int)) ∧ w' = w := by
  have hmH : Hid (m ≤ 1000 ∧ k < m) := ⟨hm2, hk⟩
  have hvH : Hid (W k = v ∧ ∀ i, i < k → W i ≠ v) := ⟨hv, hn⟩
  clear hm2 hv hn hk
  go_enter Tryd.func42, Tryd.ntmps42
  go_wp2
  go_loopw [8] (fun iv wr => ∃ j : Nat, iv = .int .i64 j ∧ Hid (j ≤ k) ∧ wr = w)
    (fun iv _ => m - (intOf iv).toNat)
  case atStart => exact ⟨0, rfl, Nat.zero_le _, rfl⟩
  case round =>
    obtain ⟨j, rfl, hjk, rfl⟩ := hrel
    have hj : j < m := by have := hmH.out; have := hjk.out; omega
    obtain ⟨g, rfl, z1, _⟩ := row_num hr hj
    have hji : (j : Int) < (m : Int) := by omega
    have hjH : Hid (j < m) := hj
    have hj2 : Hid (j ≤ 100000) := by have := hmH.out; show _ ≤ _; omega
    by_cases e : j = k
    · have e2 : W j = v := by rw [e]; exact hvH.out.1
      rw [e2] at z1
      have eH : Hid (j = k) := e
      clear hj e e2
      go_wp2
      go_ret
      exact ⟨ret_i (by rw [eH.out]), rfl⟩
    · have e2 : W j ≠ v := hvH.out.2 j (by have := hjk.out; omega)
      have e3 : ¬ v = W j := fun x => e2 x.symm
      have hlt : Hid (j + 1 ≤ k) := by have := hjk.out; show _ ≤ _; omega
      generalize W j = x at *
      clear hj e
      go_wp2
      refine ⟨⟨j + 1, ?_, hlt, by first | rfl | trivial⟩, ?_⟩
      · first | exact int_succ j | exact int_wsucc hj2.out
      · first | exact meas_1 hjH.out | exact meas_w hjH.out hj2.out

end Go.Proofs.YthfpdbogbmccjaaDoor
