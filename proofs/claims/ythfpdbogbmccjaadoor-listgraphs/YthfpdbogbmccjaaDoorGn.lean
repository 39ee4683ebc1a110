/- Knot and Reach, walked. -/
import Derived.Test.YthfpdbogbmccjaaDoorGk
namespace Go.Proofs.YthfpdbogbmccjaaDoor
open Go.RowKit Gm
set_option linter.unusedSectionVars false

theorem chk_ok {n : Int} {l : List Ed} (h : chk n l = 0) : 0 ≤ n ∧ n ≤ 60 ∧ l.length ≤ 400 ∧ (∀ e ∈ l, 0 ≤ e.f ∧ e.f < n ∧ 0 ≤ e.t ∧ e.t < n) := by
  unfold chk at h
  split at h
  · cases h
  · split at h
    · cases h
    · split at h
      · rename_i h1 h2 h3
        refine ⟨by omega, by omega, by omega, fun e he => ?_⟩
        have := List.all_eq_true.1 h3 e he
        simpa [okI] using this
      · cases h
theorem chk_60 {n : Int} {l : List Ed} (h : chk n l = 0) : ∀ e ∈ l, 0 ≤ e.f ∧ e.f < 60 ∧ 0 ≤ e.t ∧ e.t < 60 := fun e he => by
  obtain ⟨_, h1, _, h2⟩ := chk_ok h
  have := h2 e he
  omega
theorem chk_gr {n : Int} {l : List Ed} (h : chk n l = 0) : Gr n.toNat l := by
  obtain ⟨h0, h1, _, h2⟩ := chk_ok h
  exact ⟨by omega, fun e he => by have := h2 e he; omega⟩

theorem run_index_lk (r : Nat → Nat → Bool) {F : Nat} (hF : F < 60) (w : World) : (Instr.index 76 (.agg (lk r)) (.int .i64 (F : Int))).run Tryd.prog w = .ok (.int .u64 ((bs (r F) 60 : Nat) : Int)) w := by
  have u := Tryd.underlying76
  have z := Tryd.sizeOf74
  have a := Tryd.isAgg74
  have hg := lk_get r hF
  simp [Instr.index, run_underlying u, asIntOf, part, z, a, hg, go_sem]
  intro h
  omega

end Go.Proofs.YthfpdbogbmccjaaDoor
