/- PackHalf, walked. -/
import Derived.Test.YtfnkboegbclnaaaKhm
namespace Go.Proofs.Ytfnkboegbclnaaa
open Go.RowKit
set_option linter.unusedSectionVars false
set_option linter.unusedVariables false

theorem fsA_nil {size : Int} {R : List Nat} (h : Perm0 0 R) : (fsA [] size R).m = 0 := by
  have : R = [] := List.length_eq_zero_iff.1 h.len
  rw [this]
  rfl
theorem mul_bounds {m size : Int} (hm : 0 ≤ m ∧ m ≤ 1000) (hs : 0 ≤ size ∧ size ≤ 1099511627776) : 0 ≤ m * size ∧ m * size ≤ 1099511627776000 := by
  refine ⟨Int.mul_nonneg hm.1 hs.1, ?_⟩
  have h1 : m * size ≤ 1000 * size := Int.mul_le_mul_of_nonneg_right hm.2 hs.1
  omega
theorem wrap_s {x : Int} (h : -1000000000000000000 ≤ x ∧ x ≤ 1000000000000000000) : wrap64 x = x := by unfold wrap64; omega

set_option maxHeartbeats 2000000 in
set_option maxRecDepth 100000 in
theorem packHalf_walk (q : Option Addr) (l : List Int) (c : Nat) (size : Int) (w : World) (h : Nums w q l) :
    Calls Try.prog 5 #[.slice q l.length c, .int .i64 size] w fun e w' => e = .returned (.bool true) ∧ Below w.heap.size w w' := by
  have hp := packs_any w
  have hNH : Hid (∀ w', Below w.heap.size w w' → Nums w' q l) := fun w' hb => h.below hb (Nat.le_refl _)
  by_cases hk : kc l size = 0
  · obtain ⟨k1, k2, k3, k4⟩ := kc_ok hk
    have hF : Hid (∀ w2, Below w.heap.size w w2 → Calls Try.prog 8 #[.slice q l.length c, .int .i64 size] w2 fun e w' => (∃ R, Perm0 l.length R ∧ ∃ g, e = .returned (.tuple #[.slice (some ⟨g, 0, none⟩) l.length l.length, .int .i64 ((fsA l size R).m : Int), .int .i64 0])) ∧ Below w2.heap.size w2 w') := fun w2 hb => (First_ok size (hNH.out w2 hb) hk).mono fun e w' ⟨⟨g, he, _⟩, hb'⟩ => ⟨⟨_, Perm0.range _, g, he⟩, hb'⟩
    have hD : Hid (∀ w2, Below w.heap.size w w2 → Calls Try.prog 9 #[.slice q l.length c, .int .i64 size] w2 fun e w' => (∃ R, Perm0 l.length R ∧ ∃ g, e = .returned (.tuple #[.slice (some ⟨g, 0, none⟩) l.length l.length, .int .i64 ((fsA l size R).m : Int), .int .i64 0])) ∧ Below w2.heap.size w2 w') := fun w2 hb => (Down_ok size (hNH.out w2 hb) hk).mono fun e w' ⟨⟨R, hP, _, g, he, _⟩, hb'⟩ => ⟨⟨R, hP, g, he⟩, hb'⟩
    have hS : Hid (∀ w2, Below w.heap.size w w2 → Calls Try.prog 22 #[.slice q l.length c] w2 fun e w' => e = .returned (.int .i64 (sumR l)) ∧ w' = w2) := fun w2 hb => sum_any (hNH.out w2 hb) (by omega) (fun x hx => by have := k4 x hx; omega)
    by_cases h0 : l.length = 0
    · have hl : l = [] := List.length_eq_zero_iff.1 h0
      subst hl
      have hm0 : Hid (∀ R, Perm0 ([] : List Int).length R → (fsA [] size R).m = 0) := fun R hR => fsA_nil hR
      clear h hk k1 k2 k3 k4 hS h0
      simp only [List.length_nil] at hF hD hm0 ⊢
      go_enter Try.func5, Try.ntmps5
      go_wp2_with (first
        | (go_at_call 20; refine hp.mono ?_; rintro e w2 ⟨rfl, hb⟩; clear hp)
        | (go_at_call 8; refine (hF.out _ hb).mono ?_; rintro e w3 ⟨⟨R, hP, g, rfl⟩, hb3⟩; clear hF; rw [hm0.out R hP]; have hb4 := hb.trans (hb3.mono hb.size))
        | (go_at_call 9; refine (hD.out _ hb4).mono ?_; rintro e w5 ⟨⟨R5, hP5, g5, rfl⟩, hb5⟩; clear hD; rw [hm0.out R5 hP5]; have hb6 := hb4.trans (hb5.mono hb4.size))
        | fail)
      go_ret
      exact ⟨ret_b (by first | rfl | simp), hb6⟩
    · have hb9 := sumR_bounds k4
      have hb8 := mul_bounds (m := (l.length : Int)) (size := size) ⟨by omega, by omega⟩ ⟨by omega, k3⟩
      have hfh : Hid (∀ R, Perm0 l.length R → ∃ M : Nat, (fsA l size R).m = M ∧ wrap64 (wrap64 ((M : Int) - 1) * size) < wrap64 (2 * sumR l) ∧ sumR l ≤ wrap64 ((M : Int) * size)) := fun R hR => by
        obtain ⟨a1, a2, a3⟩ := fit_half k4 k2 hR h0
        have a4 := (fsA_ok k4 R hR.lt).m
        rw [hR.len] at a4
        refine ⟨_, rfl, ?_⟩
        generalize (fsA l size R).m = M at *
        have e1 := mul_bounds (m := (M : Int)) (size := size) ⟨by omega, by omega⟩ ⟨by omega, k3⟩
        have e2 := mul_bounds (m := (M : Int) - 1) (size := size) ⟨by omega, by omega⟩ ⟨by omega, k3⟩
        have w1 : wrap64 ((M : Int) - 1) = (M : Int) - 1 := wrap_s (by omega)
        have w2 : wrap64 (((M : Int) - 1) * size) = ((M : Int) - 1) * size := wrap_s (by omega)
        have w3 : wrap64 (2 * sumR l) = 2 * sumR l := wrap_s (by omega)
        have w4 : wrap64 ((M : Int) * size) = (M : Int) * size := wrap_s (by omega)
        rw [w1, w2, w3, w4]
        exact ⟨a2, a3⟩
      have hl0 : ((l.length : Int) == 0) = false := by rw [beq_eq_false_iff_ne]; omega
      have hl0' : ¬ (l.length : Int) = 0 := by omega
      have hsz : Hid (1 ≤ size ∧ size ≤ 1099511627776 ∧ l.length ≤ 100) := ⟨k2, k3, k1⟩
      clear h hk k1 k2 k3 k4 h0 hb9 hb8
      generalize sumR l = S at *
      go_enter Try.func5, Try.ntmps5
      go_wp2_with (first
        | (go_at_call 20; refine hp.mono ?_; rintro e w2 ⟨rfl, hb⟩; clear hp)
        | (go_at_call 8; refine (hF.out _ hb).mono ?_; rintro e w3 ⟨⟨R, hP, g, rfl⟩, hb3⟩; clear hF; obtain ⟨M, hM, fw1, fg1⟩ := hfh.out R hP; rw [hM]; have fgH : Hid _ := fg1; clear hM fg1; have hb4 := hb.trans (hb3.mono hb.size))
        | (go_at_call 9; refine (hD.out _ hb4).mono ?_; rintro e w5 ⟨⟨R5, hP5, g5, rfl⟩, hb5⟩; clear hD; obtain ⟨M5, hM, fw5, fg5⟩ := hfh.out R5 hP5; rw [hM]; clear hM fg5; have hb6 := hb4.trans (hb5.mono hb4.size))
        | (go_at_call 22; refine (hS.out _ hb6).mono ?_; rintro e w7 ⟨rfl, rfl⟩)
        | fail)
      go_ret
      exact ⟨ret_b (decide_eq_true fgH.out), hb6⟩
  · have hF : Hid (∀ w2, Below w.heap.size w w2 → Calls Try.prog 8 #[.slice q l.length c, .int .i64 size] w2 fun e w' => e = .returned (.tuple #[.slice none 0 0, .int .i64 0, .int .i64 (kc l size)]) ∧ Below w2.heap.size w2 w') := fun w2 hb => First_bad size (hNH.out w2 hb) hk
    have hD : Hid (∀ w2, Below w.heap.size w w2 → Calls Try.prog 9 #[.slice q l.length c, .int .i64 size] w2 fun e w' => e = .returned (.tuple #[.slice none 0 0, .int .i64 0, .int .i64 (kc l size)]) ∧ Below w2.heap.size w2 w') := fun w2 hb => Down_bad size (hNH.out w2 hb) hk
    have hkb : (kc l size != 0) = true := by simpa using hk
    clear h hk
    go_enter Try.func5, Try.ntmps5
    go_wp2_with (first
      | (go_at_call 20; refine hp.mono ?_; rintro e w2 ⟨rfl, hb⟩; clear hp)
      | (go_at_call 8; refine (hF.out _ hb).mono ?_; rintro e w3 ⟨rfl, hb3⟩; clear hF; have hb4 := hb.trans (hb3.mono hb.size))
      | (go_at_call 9; refine (hD.out _ hb4).mono ?_; rintro e w5 ⟨rfl, hb5⟩; clear hD; have hb6 := hb4.trans (hb5.mono hb4.size))
      | fail)
    go_ret
    exact ⟨ret_b (by first | rfl | simp), hb6⟩
end Go.Proofs.Ytfnkboegbclnaaa
