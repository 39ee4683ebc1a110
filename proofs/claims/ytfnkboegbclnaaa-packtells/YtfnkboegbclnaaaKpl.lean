/- PackLeast, walked. -/
import Derived.Test.YtfnkboegbclnaaaKla
import Derived.Test.YtfnkboegbclnaaaKph
namespace Go.Proofs.Ytfnkboegbclnaaa
open Go.RowKit
set_option linter.unusedSectionVars false
set_option linter.unusedVariables false

theorem bxR_few {l B : List Int} {size k : Int} (hk : kc l size = 0) (hL : Lst l size k) (h : (bxR l B size).2 = 0) : k ≤ (bxR l B size).1 := by
  unfold bxR at *
  have hk' : ¬ kc l size ≠ 0 := fun h => h hk
  rw [if_neg hk'] at h ⊢
  by_cases h1 : B.length ≠ l.length
  · rw [if_pos h1] at h; simp at h
  rw [if_neg h1] at h ⊢
  by_cases h2 : bxO l B size l.length = true
  · rw [if_pos h2]
    exact hL.few B (by simpa using h1) h2
  · rw [if_neg h2] at h; simp at h

set_option maxHeartbeats 2000000 in
set_option maxRecDepth 100000 in
theorem packLeast_walk (q : Option Addr) (l : List Int) (c : Nat) (size : Int) (qb : Option Addr) (B : List Int) (cb : Nat) (w : World) (h : Nums w q l) (hB : Nums w qb B) (hBw : ∀ x ∈ B, (Lit.int .i64 x).wf = true) :
    Calls Try.prog 7 #[.slice q l.length c, .int .i64 size, .slice qb B.length cb] w fun e w' => e = .returned (.bool true) ∧ Below w.heap.size w w' := by
  have hp := packs_any w
  have hNH : Hid (∀ w', Below w.heap.size w w' → Nums w' q l) := fun w' hb => h.below hb (Nat.le_refl _)
  have hX : Hid (∀ w2, Below w.heap.size w w2 → Calls Try.prog 11 #[.slice q l.length c, .int .i64 size, .slice qb B.length cb] w2 fun e w' => e = .returned (.tuple #[.int .i64 (bxR l B size).1, .int .i64 (bxR l B size).2]) ∧ Below w2.heap.size w2 w') := fun w2 hb => Boxes_any size (hNH.out w2 hb) (hB.below hb (Nat.le_refl _)) hBw
  by_cases hg : kc l size = 0 ∧ l.length ≤ 9
  · obtain ⟨hk, h9⟩ := hg
    obtain ⟨k1, k2, k3, k4⟩ := kc_ok hk
    have hS : Hid (∀ w2, Below w.heap.size w w2 → Calls Try.prog 22 #[.slice q l.length c] w2 fun e w' => e = .returned (.int .i64 (sumR l)) ∧ w' = w2) := fun w2 hb => sum_any (hNH.out w2 hb) (by omega) (fun x hx => by have := k4 x hx; omega)
    have hF : Hid (∀ w2, Below w.heap.size w w2 → Calls Try.prog 10 #[.slice q l.length c, .int .i64 size] w2 fun e w' => (∃ k : Int, Hid (sumR l ≤ wrap64 (k * size)) ∧ Hid (k ≤ (l.length : Int)) ∧ Hid ((decide (0 < k) == decide (0 < l.length)) = true) ∧ Hid ((bxR l B size).2 = 0 → k ≤ (bxR l B size).1) ∧ e = .returned (.tuple #[.int .i64 k, .int .i64 0])) ∧ Below w2.heap.size w2 w') := fun w2 hb => (Least_ok (c := c) size (hNH.out w2 hb) hk h9).mono fun e w' ⟨⟨k, hL, he⟩, hb'⟩ => by
      refine ⟨⟨k, ?_, hL.out.le, ?_, bxR_few hk hL.out, he⟩, hb'⟩
      · have e1 := mul_bounds (m := k) (size := size) ⟨hL.out.nn, by have := hL.out.le; omega⟩ ⟨by omega, k3⟩
        have w4 : wrap64 (k * size) = k * size := wrap_s (by omega)
        show _ ≤ _
        rw [w4]
        exact hL.out.tot
      · have a1 := hL.out.nn
        have a2 := hL.out.le
        have a3 := hL.out.pos
        show _ = _
        by_cases h0 : l.length = 0
        · have : k = 0 := by omega
          subst this
          simp [h0]
        · have b1 : 0 < k := a3 (by omega)
          have b2 : 0 < l.length := by omega
          rw [decide_eq_true b1, decide_eq_true b2]
          rfl
    clear h hB hBw hk k1 k2 k3 k4 h9
    generalize bxR l B size = r at *
    generalize sumR l = S at *
    obtain ⟨nb, f⟩ := r
    dsimp only at *
    by_cases hf : f = 0
    · subst hf
      go_enter Try.func7, Try.ntmps7
      go_wp2_with (first
        | (go_at_call 20; refine hp.mono ?_; rintro e w2 ⟨rfl, hb⟩; clear hp)
        | (go_at_call 10; refine (hF.out _ hb).mono ?_; rintro e w3 ⟨⟨k, f1, f2, f3, f4, rfl⟩, hb3⟩; clear hF; have g4 : k ≤ nb := f4.out trivial; have g2 := f2.out; clear f4 f2; have hb4 := hb.trans (hb3.mono hb.size))
        | (go_at_call 11; refine (hX.out _ hb4).mono ?_; rintro e w5 ⟨rfl, hb5⟩; clear hX; have hb6 := hb4.trans (hb5.mono hb4.size))
        | (go_at_call 22; refine (hS.out _ hb6).mono ?_; rintro e w7 ⟨rfl, rfl⟩; clear hS; have g1 := f1.out; clear f1)
        | fail)
      go_ret
      exact ⟨ret_b f3.out, hb6⟩
    · have hfb : (f != 0) = true := by simpa using hf
      clear hf
      go_enter Try.func7, Try.ntmps7
      go_wp2_with (first
        | (go_at_call 20; refine hp.mono ?_; rintro e w2 ⟨rfl, hb⟩; clear hp)
        | (go_at_call 10; refine (hF.out _ hb).mono ?_; rintro e w3 ⟨⟨k, f1, f2, f3, f4, rfl⟩, hb3⟩; clear hF; have g2 := f2.out; clear f4 f2; have hb4 := hb.trans (hb3.mono hb.size))
        | (go_at_call 11; refine (hX.out _ hb4).mono ?_; rintro e w5 ⟨rfl, hb5⟩; clear hX; have hb6 := hb4.trans (hb5.mono hb4.size))
        | (go_at_call 22; refine (hS.out _ hb6).mono ?_; rintro e w7 ⟨rfl, rfl⟩; clear hS; have g1 := f1.out; clear f1)
        | fail)
      go_ret
      exact ⟨ret_b f3.out, hb6⟩
  · have hF : Hid (∀ w2, Below w.heap.size w w2 → Calls Try.prog 10 #[.slice q l.length c, .int .i64 size] w2 fun e w' => (∃ z : Int, (z != 0) = true ∧ e = .returned (.tuple #[.int .i64 0, .int .i64 z])) ∧ Below w2.heap.size w2 w') := fun w2 hb => by
      by_cases hk : kc l size = 0
      · exact (Least_big (c := c) size (hNH.out w2 hb) hk (by omega)).mono fun e w' ⟨he, hb'⟩ => ⟨⟨2, by decide, he⟩, hb'⟩
      · exact (Least_bad (c := c) size (hNH.out w2 hb) hk).mono fun e w' ⟨he, hb'⟩ => ⟨⟨_, by simpa using hk, he⟩, hb'⟩
    clear h hB hBw hg
    generalize bxR l B size = r at *
    obtain ⟨nb, f⟩ := r
    dsimp only at *
    go_enter Try.func7, Try.ntmps7
    go_wp2_with (first
      | (go_at_call 20; refine hp.mono ?_; rintro e w2 ⟨rfl, hb⟩; clear hp)
      | (go_at_call 10; refine (hF.out _ hb).mono ?_; rintro e w3 ⟨⟨z, hz, rfl⟩, hb3⟩; clear hF; have hb4 := hb.trans (hb3.mono hb.size))
      | (go_at_call 11; refine (hX.out _ hb4).mono ?_; rintro e w5 ⟨rfl, hb5⟩; clear hX; have hb6 := hb4.trans (hb5.mono hb4.size))
      | fail)
    go_ret
    exact ⟨ret_b (by first | rfl | simp), hb6⟩
end Go.Proofs.Ytfnkboegbclnaaa
