/- Package list: check; the library's IndexFunc, ContainsFunc, Index, Min and Max at numbers. -/
import Derived.Test.YthfpdbogbmccjaaDoorOjm
namespace Go.Proofs.YthfpdbogbmccjaaDoor
open Go.RowKit Gm Pm
set_option linter.unusedSectionVars false
set_option linter.unusedVariables false

set_option maxHeartbeats 1000000 in
set_option maxRecDepth 100000 in
theorem indexF_span (f : Int → Bool) {w : World} {q : Option Addr} {d : List Int} {c : Nat} (h : Nums w q d) (hlen : d.length ≤ 4000)
    (hf : ∀ x, x ∈ d → Calls Tryd.prog 41 #[.int .i64 x] w fun e w' => e = .returned (.bool (f x)) ∧ w' = w) :
    Calls Tryd.prog 33 #[.slice q d.length c, .func (.func 41) #[] #[]] w fun e w' => e = .returned (.int .i64 (fz f d)) ∧ w' = w := by
  have hlen' : Hid (d.length ≤ 4000) := hlen
  have hfH : Hid (∀ x, x ∈ d → Calls Tryd.prog 41 #[.int .i64 x] w fun e w' => e = .returned (.bool (f x)) ∧ w' = w) := hf
  clear hlen hf
  go_enter Tryd.func33, Tryd.ntmps33
  go_wp2
  go_loopw [8] (fun iv wr => ∃ j : Nat, iv = .int .i64 j ∧ j ≤ d.length ∧ Hid (∀ i, i < j → f (nm d i) = false) ∧ wr = w)
    (fun iv _ => d.length - (intOf iv).toNat)
  case atStart => exact ⟨0, rfl, Nat.zero_le _, fun i hi => by omega, rfl⟩
  case round =>
    obtain ⟨j, rfl, hjl, hall, rfl⟩ := hrel
    by_cases hj : j < d.length
    · rcases h with h0 | ⟨b, o, rfl, hA⟩
      · omega
      have z0 := hA.c j hj
      have hf1 := hfH.out (nm d j) (nm_mem hj)
      have hji : (j : Int) < (d.length : Int) := by omega
      have hj2 : Hid (j ≤ 100000) := by have := hlen'.out; show _ ≤ _; omega
      have hyes : Hid (f (nm d j) = true → fz f d = (j : Int)) := fun h2 => fz_at hj h2 hall.out
      have hno : Hid (f (nm d j) = false → ∀ i, i < j + 1 → f (nm d i) = false) := fun h2 i hi => by
        by_cases e : i = j
        · rw [e]; exact h2
        · exact hall.out i (by omega)
      generalize f (nm d j) = s at *
      generalize nm d j = x at *
      clear hA hall hfH
      cases s with
      | true =>
        have hy2 : Hid _ := hyes.out rfl
        clear hyes hno
        go_wp2_with (first
          | (go_at_call 41; refine hf1.mono ?_; rintro e w' ⟨rfl, hw'⟩; have hw'' := hw'.symm; subst hw''; clear hf1)
          | go_in)
        go_ret
        exact ⟨ret_i hy2.out.symm, rfl⟩
      | false =>
        have hn2 : Hid _ := hno.out rfl
        clear hyes hno
        go_wp2_with (first
          | (go_at_call 41; refine hf1.mono ?_; rintro e w' ⟨rfl, hw'⟩; have hw'' := hw'.symm; subst hw''; clear hf1)
          | go_in)
        refine ⟨⟨j + 1, ?_, hj, hn2, by first | rfl | trivial⟩, ?_⟩
        · first | exact int_succ j | exact int_wsucc hj2.out
        · first | exact meas_1 hj | exact meas_w hj hj2.out
    · have hji : ¬ (j : Int) < (d.length : Int) := by omega
      have e : j = d.length := by omega
      subst e
      have hy2 : Hid (fz f d = -1) := fz_none hall.out
      clear hall hfH h
      go_wp2
      go_ret
      exact ⟨ret_i hy2.out.symm, rfl⟩

set_option maxRecDepth 100000 in
theorem containsF_span (f : Int → Bool) {w : World} {q : Option Addr} {d : List Int} {c : Nat} (h : Nums w q d) (hlen : d.length ≤ 4000)
    (hf : ∀ x, x ∈ d → Calls Tryd.prog 41 #[.int .i64 x] w fun e w' => e = .returned (.bool (f x)) ∧ w' = w) :
    Calls Tryd.prog 19 #[.slice q d.length c, .func (.func 41) #[] #[]] w fun e w' => e = .returned (.bool (d.any f)) ∧ w' = w := by
  have hi := indexF_span (c := c) f h hlen hf
  clear h hlen hf
  go_enter Tryd.func19, Tryd.ntmps19
  go_wp2_with (first | (go_at_call 33; refine hi.mono ?_; rintro e w' ⟨rfl, hw'⟩; have hw'' := hw'.symm; subst hw''; clear hi) | go_in)
  go_ret
  exact ⟨ret_b (fz_any f d), rfl⟩

/-! ### check -/
def nsB (x : Int) : Bool := decide (x < 0) || decide (1000000000 < x)
theorem lnoSpan_any (x : Int) (w : World) : Calls Tryd.prog 41 #[.int .i64 x] w fun e w' => e = .returned (.bool (nsB x)) ∧ w' = w := by
  by_cases h0 : x < 0
  · have e : nsB x = true := by simp [nsB, h0]
    have h0d : decide (x < 0) = true := decide_eq_true h0
    rw [e]
    clear e
    go_enter Tryd.func41, Tryd.ntmps41
    go_wp2
    go_ret
    exact ⟨by first | rfl | simp, rfl⟩
  · have e : nsB x = decide (1000000000 < x) := by simp [nsB, h0]
    have h0d : decide (x < 0) = false := decide_eq_false h0
    rw [e]
    clear e
    go_enter Tryd.func41, Tryd.ntmps41
    go_wp2
    go_ret
    exact ⟨by first | rfl | simp, rfl⟩
/-- What check tells. -/
def kl (m : Int) (l : List Int) : Int := if ¬ (1 ≤ m ∧ m ≤ 20) then 1 else if 60 < l.length then 2 else if l.any nsB = true then 4 else 0
theorem kl_ok {m : Int} {l : List Int} (h : kl m l = 0) : (1 ≤ m ∧ m ≤ 20) ∧ l.length ≤ 60 ∧ ∀ x ∈ l, 0 ≤ x ∧ x ≤ 1000000000 := by
  unfold kl at h
  by_cases h1 : ¬ (1 ≤ m ∧ m ≤ 20)
  · rw [if_pos h1] at h; omega
  rw [if_neg h1] at h
  by_cases h2 : 60 < l.length
  · rw [if_pos h2] at h; omega
  rw [if_neg h2] at h
  by_cases h3 : l.any nsB = true
  · rw [if_pos h3] at h; omega
  refine ⟨by omega, by omega, fun x hx => ?_⟩
  have h4 : nsB x = false := by
    cases e : nsB x
    · rfl
    · exact absurd (List.any_eq_true.2 ⟨x, hx, e⟩) h3
  simp [nsB] at h4
  omega
set_option maxHeartbeats 1000000 in
set_option maxRecDepth 100000 in
theorem lcheck_any {w : World} {q : Option Addr} {l : List Int} {c : Nat} (m : Int) (h : Nums w q l) :
    Calls Tryd.prog 29 #[.int .i64 m, .slice q l.length c] w fun e w' => e = .returned (.int .i64 (kl m l)) ∧ w' = w := by
  by_cases h1 : 1 ≤ m ∧ m ≤ 20
  · have hcr := isCrew_yes h1
    by_cases h2 : 60 < l.length
    · have h2i : (60 : Int) < (l.length : Int) := by omega
      have eH : Hid (kl m l = 2) := by unfold kl; rw [if_neg (by simpa using h1), if_pos h2]; rfl
      clear h1 h2 h
      go_enter Tryd.func29, Tryd.ntmps29
      go_wp2_with (first | (go_at_call 12; refine (hcr _).mono ?_; rintro e w' ⟨rfl, hw'⟩; have hw'' := hw'.symm; subst hw'') | go_in)
      go_ret
      exact ⟨ret_i eH.out.symm, rfl⟩
    · have h2i : ¬ (60 : Int) < (l.length : Int) := by omega
      have hcall := containsF_span (c := c) nsB h (by omega) (fun x _ => lnoSpan_any x w)
      have eH : Hid (kl m l = if l.any nsB = true then 4 else 0) := by unfold kl; rw [if_neg (by simpa using h1), if_neg h2]; rfl
      clear h1 h2 h
      generalize l.any nsB = s at *
      cases s with
      | true =>
        go_enter Tryd.func29, Tryd.ntmps29
        go_wp2_with (first | (go_at_call 12; refine (hcr _).mono ?_; rintro e w' ⟨rfl, hw'⟩; have hw'' := hw'.symm; subst hw'') | (go_at_call 19; refine hcall.mono ?_; rintro e w' ⟨rfl, hw'⟩; have hw'' := hw'.symm; subst hw''; clear hcall) | go_in)
        go_ret
        exact ⟨ret_i eH.out.symm, rfl⟩
      | false =>
        go_enter Tryd.func29, Tryd.ntmps29
        go_wp2_with (first | (go_at_call 12; refine (hcr _).mono ?_; rintro e w' ⟨rfl, hw'⟩; have hw'' := hw'.symm; subst hw'') | (go_at_call 19; refine hcall.mono ?_; rintro e w' ⟨rfl, hw'⟩; have hw'' := hw'.symm; subst hw''; clear hcall) | go_in)
        go_ret
        exact ⟨ret_i eH.out.symm, rfl⟩
  · have hcr := isCrew_no h1
    have eH : Hid (kl m l = 1) := by unfold kl; rw [if_pos h1]; rfl
    clear h1 h
    go_enter Tryd.func29, Tryd.ntmps29
    go_wp2_with (first | (go_at_call 12; refine (hcr _).mono ?_; rintro e w' ⟨rfl, hw'⟩; have hw'' := hw'.symm; subst hw'') | go_in)
    go_ret
    exact ⟨ret_i eH.out.symm, rfl⟩

end Go.Proofs.YthfpdbogbmccjaaDoor
