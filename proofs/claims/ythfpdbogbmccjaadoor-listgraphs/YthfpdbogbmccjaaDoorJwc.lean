/- Package list: the closures of begin and ready, the library's IndexFunc and ContainsFunc with them. -/
import Derived.Test.YthfpdbogbmccjaaDoorJwm
namespace Go.Proofs.YthfpdbogbmccjaaDoor
open Go.RowKit Gm Pm
set_option linter.unusedSectionVars false
set_option linter.unusedVariables false

/-- The place of the first that fits. -/
def fz (f : Int → Bool) (d : List Int) : Int := match d.findIdx? f with
  | some j => (j : Int)
  | none => -1
theorem fz_at {f : Int → Bool} {d : List Int} {j : Nat} (hj : j < d.length) (h : f (nm d j) = true) (hn : ∀ i, i < j → f (nm d i) = false) : fz f d = (j : Int) := by
  have e : d.findIdx? f = some j := by
    rw [List.findIdx?_eq_some_iff_getElem]
    refine ⟨hj, by rw [← nm_get hj]; exact h, fun i hi => ?_⟩
    have := hn i hi
    rw [nm_get (show i < d.length by omega)] at this
    simp [this]
  unfold fz
  rw [e]
theorem fz_none {f : Int → Bool} {d : List Int} (hn : ∀ i, i < d.length → f (nm d i) = false) : fz f d = -1 := by
  have e : d.findIdx? f = none := by
    rw [List.findIdx?_eq_none_iff]
    intro x hx
    obtain ⟨i, hi, rfl⟩ := List.getElem_of_mem hx
    have := hn i hi
    rwa [nm_get hi] at this
  unfold fz
  rw [e]
theorem fz_any (f : Int → Bool) (d : List Int) : decide (0 ≤ fz f d) = d.any f := by
  unfold fz
  cases h : d.findIdx? f with
  | none =>
    have : d.any f = false := by
      rw [List.any_eq_false]
      intro x hx
      have := List.findIdx?_eq_none_iff.1 h x hx
      simp [this]
    rw [this]
    rfl
  | some j =>
    obtain ⟨hj, h1, _⟩ := List.findIdx?_eq_some_iff_getElem.1 h
    have : d.any f = true := List.any_eq_true.2 ⟨_, List.getElem_mem hj, h1⟩
    rw [this]
    show decide (0 ≤ (j : Int)) = true
    exact decide_eq_true (by omega)
theorem alloc2 (w : World) (t : TypeId) (v : Value) : (w.alloc (.cells #[v] t)).cell? ⟨w.heap.size, 0, none⟩ = some v := (cell_of_row _ _ 0 _ _ _ (heap_alloc_new w (.cells #[v] t))).trans rfl

theorem bgn1_any {w : World} {b : Nat} {at_ : Int} (x : Int) (hc : w.cell? ⟨b, 0, none⟩ = some (.int .i64 at_)) :
    Calls Tryd.prog 39 #[.int .i64 x, .pointer (some ⟨b, 0, none⟩)] w fun e w' => e = .returned (.bool (decide (x ≤ at_))) ∧ w' = w := by
  go_enter Tryd.func39, Tryd.ntmps39
  go_wp2
  go_ret
  exact ⟨by first | rfl | simp, rfl⟩

set_option maxHeartbeats 1000000 in
set_option maxRecDepth 100000 in
theorem indexF_bgn (f : Int → Bool) (bx : Nat) {w : World} {q : Option Addr} {d : List Int} {c : Nat} (h : Nums w q d) (hlen : d.length ≤ 4000)
    (hf : ∀ x, x ∈ d → Calls Tryd.prog 39 #[.int .i64 x, .pointer (some ⟨bx, 0, none⟩)] w fun e w' => e = .returned (.bool (f x)) ∧ w' = w) :
    Calls Tryd.prog 33 #[.slice q d.length c, .func (.func 39) #[] #[.pointer (some ⟨bx, 0, none⟩)]] w fun e w' => e = .returned (.int .i64 (fz f d)) ∧ w' = w := by
  have hlen' : Hid (d.length ≤ 4000) := hlen
  have hfH : Hid (∀ x, x ∈ d → Calls Tryd.prog 39 #[.int .i64 x, .pointer (some ⟨bx, 0, none⟩)] w fun e w' => e = .returned (.bool (f x)) ∧ w' = w) := hf
  clear hlen hf
  go_enter Tryd.func33, Tryd.ntmps33
  go_wp2
  go_loopw [8] (fun iv wr => ∃ j : Nat, iv = .int .i64 j ∧ j ≤ d.length ∧ Hid (∀ i, i < j → f (nm d i) = false) ∧ wr = w)
    (fun iv _ => d.length - (intOf iv).toNat)
  case atStart => exact ⟨0, rfl, Nat.zero_le _, fun i hi => by omega, rfl⟩
  case round =>
    obtain ⟨j, rfl, hjl, hall, rfl⟩ := hrel
    by_cases hj : j < d.length
    · rcases h with h0 | ⟨b, o, rfl, hA⟩
      · omega
      have z0 := hA.c j hj
      have hf1 := hfH.out (nm d j) (nm_mem hj)
      have hji : (j : Int) < (d.length : Int) := by omega
      have hj2 : Hid (j ≤ 100000) := by have := hlen'.out; show _ ≤ _; omega
      have hyes : Hid (f (nm d j) = true → fz f d = (j : Int)) := fun h2 => fz_at hj h2 hall.out
      have hno : Hid (f (nm d j) = false → ∀ i, i < j + 1 → f (nm d i) = false) := fun h2 i hi => by
        by_cases e : i = j
        · rw [e]; exact h2
        · exact hall.out i (by omega)
      generalize f (nm d j) = s at *
      generalize nm d j = x at *
      clear hA hall hfH
      cases s with
      | true =>
        have hy2 : Hid _ := hyes.out rfl
        clear hyes hno
        go_wp2_with (first
          | (go_at_call 39; refine hf1.mono ?_; rintro e w' ⟨rfl, hw'⟩; have hw'' := hw'.symm; subst hw''; clear hf1)
          | go_in)
        go_ret
        exact ⟨ret_i hy2.out.symm, rfl⟩
      | false =>
        have hn2 : Hid _ := hno.out rfl
        clear hyes hno
        go_wp2_with (first
          | (go_at_call 39; refine hf1.mono ?_; rintro e w' ⟨rfl, hw'⟩; have hw'' := hw'.symm; subst hw''; clear hf1)
          | go_in)
        refine ⟨⟨j + 1, ?_, hj, hn2, by first | rfl | trivial⟩, ?_⟩
        · first | exact int_succ j | exact int_wsucc hj2.out
        · first | exact meas_1 hj | exact meas_w hj hj2.out
    · have hji : ¬ (j : Int) < (d.length : Int) := by omega
      have e : j = d.length := by omega
      subst e
      have hy2 : Hid (fz f d = -1) := fz_none hall.out
      clear hall hfH h
      go_wp2
      go_ret
      exact ⟨ret_i hy2.out.symm, rfl⟩
end Go.Proofs.YthfpdbogbmccjaaDoor
