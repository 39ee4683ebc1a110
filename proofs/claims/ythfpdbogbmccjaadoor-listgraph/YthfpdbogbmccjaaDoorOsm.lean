/- ListGraham, walked. -/
import Derived.Test.YthfpdbogbmccjaaDoorJgm
namespace Go.Proofs.YthfpdbogbmccjaaDoor
open Go.RowKit Gm Pm
set_option linter.unusedSectionVars false
set_option linter.unusedVariables false

set_option maxHeartbeats 1000000 in
set_option maxRecDepth 100000 in
theorem sum_any {w : World} {q : Option Addr} {l : List Int} {c : Nat} (h : Nums w q l) (hn : l.length ≤ 1000) (hb : ∀ x ∈ l, 0 ≤ x ∧ x ≤ 1099511627776) :
    Calls Tryd.prog 11 #[.slice q l.length c] w fun e w' => e = .returned (.int .i64 (sumR l)) ∧ w' = w := by
  have hnH : Hid (l.length ≤ 1000) := hn
  have hbH : Hid (∀ j, j ≤ l.length → 0 ≤ sumR (l.take j) ∧ sumR (l.take j) ≤ (j : Int) * 1099511627776) := by
    intro j
    induction j with
    | zero => intro _; simp [sumR]
    | succ j ih =>
      intro hj
      have h1 := ih (by omega)
      have h2 := hb _ (nm_mem (show j < l.length by omega))
      rw [sumR_take (by omega)]
      omega
  have hb0 := hb
  clear hn hb
  go_enter Tryd.func11, Tryd.ntmps11
  go_wp2
  go_loopw [3, 8] (fun sv iv wr => ∃ j : Nat, iv = .int .i64 j ∧ sv = .int .i64 (sumR (l.take j)) ∧ j ≤ l.length ∧ wr = w)
    (fun _ iv _ => l.length - (intOf iv).toNat)
  case atStart => exact ⟨0, rfl, rfl, Nat.zero_le _, rfl⟩
  case round =>
    obtain ⟨j, rfl, rfl, hjl, rfl⟩ := hrel
    by_cases hj : j < l.length
    · rcases h with h0 | ⟨b, o, rfl, hA⟩
      · omega
      have z0 := hA.c j hj
      have hji : (j : Int) < (l.length : Int) := by omega
      have hjH : Hid (j < l.length) := hj
      have hj2 : Hid (j ≤ 100000) := by have := hnH.out; show _ ≤ _; omega
      have h1 := hbH.out j hjl
      have h2 := hb0 _ (nm_mem hj)
      have hst : Hid (sumR (l.take (j + 1)) = sumR (l.take j) + nm l j) := sumR_take hj
      generalize nm l j = x at *
      generalize sumR (l.take j) = S at *
      have hw : Hid (wrap64 (S + x) = S + x) := by show _ = _; have := hnH.out; unfold wrap64; omega
      clear hA h1 h2 hj hb0
      go_wp2
      refine ⟨⟨j + 1, ?_, ?_, hjH.out, by first | rfl | trivial⟩, ?_⟩
      · first | exact int_succ j | exact int_wsucc hj2.out
      · rw [hst.out]; first | exact congrArg _ hw.out | rfl
      · first | exact meas_1 hjH.out | exact meas_w hjH.out hj2.out
    · have hji : ¬ (j : Int) < (l.length : Int) := by omega
      have e : j = l.length := by omega
      subst e
      have e2 : sumR (l.take l.length) = sumR l := by rw [List.take_length]
      rw [e2]
      clear hb0 hbH
      go_wp2
      go_ret
      exact ⟨rfl, rfl⟩

theorem wrap_s {x : Int} (h : -1000000000000000000 ≤ x ∧ x ≤ 1000000000000000000) : wrap64 x = x := by unfold wrap64; omega
theorem sumR_bounds0 {l : List Int} {C : Int} (hl : ∀ x ∈ l, 0 ≤ x ∧ x ≤ C) : 0 ≤ sumR l ∧ sumR l ≤ (l.length : Int) * C := by
  induction l with
  | nil => simp [sumR]
  | cons x r ih =>
    have h1 := ih fun y hy => hl y (List.mem_cons_of_mem _ hy)
    have h2 := hl x (List.mem_cons_self ..)
    have e : ((r.length + 1 : Nat) : Int) * C = (r.length : Int) * C + C := mul_succ' _ _
    rw [List.length_cons, sumR, e]
    omega
/-- A number at most 20 times one that is below a million of millions. -/
theorem mul20 {a b : Int} (ha : 0 ≤ a ∧ a ≤ 20) (hb : 0 ≤ b ∧ b ≤ 1000000000000) : 0 ≤ a * b ∧ a * b ≤ 20000000000000 := by
  refine ⟨Int.mul_nonneg ha.1 hb.1, ?_⟩
  have h1 : a * b ≤ 20 * b := Int.mul_le_mul_of_nonneg_right ha.2 hb.1
  omega

end Go.Proofs.YthfpdbogbmccjaaDoor
