/- Package list: the work's method next. -/
import Derived.Test.YthfpdbogbmccjaaDoorJwk
namespace Go.Proofs.YthfpdbogbmccjaaDoor
open Go.RowKit Gm Pm
set_option linter.unusedSectionVars false
set_option linter.unusedVariables false

set_option maxHeartbeats 1000000 in
set_option maxRecDepth 100000 in
theorem next_any {w : World} {g0 gp gA gE gF gT B : Nat} {pd : Option Addr} {cd n m : Nat} {l : List Ed} {d : List Int} {s : Wst} (h : Wk w g0 gp gA gE gF gT B pd cd n m l d s) (hn : n ≤ 60) (t : Int) :
    Calls Tryd.prog 26 #[.pointer (some ⟨gp, 0, none⟩), .int .i64 t] w fun e w' => e = .returned (.int .i64 (nxF s.E t n)) ∧ w' = w := by
  have c2 := h.c2
  have hE : Hid (∀ k, k < n → w.cell? ⟨gE, k, none⟩ = some (.int .i64 (s.E k))) := fun k hk => by rw [h.E.cellAt k (by omega), numf_get hk]
  have hnH : Hid (n ≤ 60) := hn
  clear h hn
  go_enter Tryd.func26, Tryd.ntmps26
  go_wp2
  go_loopw [5, 13] (fun xv iv wr => ∃ k : Nat, iv = .int .i64 k ∧ xv = .int .i64 (nxF s.E t k) ∧ k ≤ n ∧ wr = w)
    (fun _ iv _ => n - (intOf iv).toNat)
  case atStart => exact ⟨0, rfl, rfl, Nat.zero_le _, rfl⟩
  case round =>
    obtain ⟨k, rfl, rfl, hkn, rfl⟩ := hrel
    by_cases hk : k < n
    · have hki : (k : Int) < (n : Int) := by omega
      have hk2 : Hid (k ≤ 100000) := by have := hnH.out; show _ ≤ _; omega
      have hk0 : ¬ (k : Int) < 0 := by omega
      have hkg : ¬ (n : Int) ≤ (k : Int) := by omega
      have z0 := hE.out k hk
      by_cases ht : t < s.E k
      · have hst : Hid (nxF s.E t (k + 1) = min (nxF s.E t k) (s.E k)) := by show _ = _; rw [nxF, if_pos ht]
        generalize s.E k = x at *
        go_wp2
        refine ⟨⟨k + 1, ?_, ?_, hk, by first | rfl | trivial⟩, ?_⟩
        · first | exact int_succ k | exact int_wsucc hk2.out
        · rw [hst.out]
        · first | exact meas_1 hk | exact meas_w hk hk2.out
      · have hst : Hid (nxF s.E t (k + 1) = nxF s.E t k) := by show _ = _; rw [nxF, if_neg ht]
        generalize s.E k = x at *
        go_wp2
        refine ⟨⟨k + 1, ?_, ?_, hk, by first | rfl | trivial⟩, ?_⟩
        · first | exact int_succ k | exact int_wsucc hk2.out
        · rw [hst.out]
        · first | exact meas_1 hk | exact meas_w hk hk2.out
    · have hki : ¬ (k : Int) < (n : Int) := by omega
      have e : k = n := by omega
      subst e
      go_wp2
      go_ret
      exact ⟨rfl, rfl⟩
end Go.Proofs.YthfpdbogbmccjaaDoor
