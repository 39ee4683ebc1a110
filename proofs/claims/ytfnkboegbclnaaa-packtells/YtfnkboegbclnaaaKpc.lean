/- Package pack: the library's IndexFunc and ContainsFunc at numbers, with whatever closure that only reads; Check. -/
import Derived.Test.YtfnkboegbclnaaaKb
namespace Go.Proofs.Ytfnkboegbclnaaa
open Go.RowKit
set_option linter.unusedSectionVars false
set_option linter.unusedVariables false

/-- The place of the first that fits. -/
def fz (f : Int → Bool) (d : List Int) : Int := match d.findIdx? f with
  | some j => (j : Int)
  | none => -1
theorem fz_at {f : Int → Bool} {d : List Int} {j : Nat} (hj : j < d.length) (h : f (nm d j) = true) (hn : ∀ i, i < j → f (nm d i) = false) : fz f d = (j : Int) := by
  have e : d.findIdx? f = some j := by
    rw [List.findIdx?_eq_some_iff_getElem]
    refine ⟨hj, by rw [← nm_get hj]; exact h, fun i hi => ?_⟩
    have := hn i hi
    rw [nm_get (show i < d.length by omega)] at this
    simp [this]
  unfold fz
  rw [e]
theorem fz_none {f : Int → Bool} {d : List Int} (hn : ∀ i, i < d.length → f (nm d i) = false) : fz f d = -1 := by
  have e : d.findIdx? f = none := by
    rw [List.findIdx?_eq_none_iff]
    intro x hx
    obtain ⟨i, hi, rfl⟩ := List.getElem_of_mem hx
    have := hn i hi
    rwa [nm_get hi] at this
  unfold fz
  rw [e]
theorem fz_any (f : Int → Bool) (d : List Int) : decide (0 ≤ fz f d) = d.any f := by
  unfold fz
  cases h : d.findIdx? f with
  | none =>
    have : d.any f = false := by
      rw [List.any_eq_false]
      intro x hx
      have := List.findIdx?_eq_none_iff.1 h x hx
      simp [this]
    rw [this]
    rfl
  | some j =>
    obtain ⟨hj, h1, _⟩ := List.findIdx?_eq_some_iff_getElem.1 h
    have : d.any f = true := List.any_eq_true.2 ⟨_, List.getElem_mem hj, h1⟩
    rw [this]
    show decide (0 ≤ (j : Int)) = true
    exact decide_eq_true (by omega)

set_option maxHeartbeats 1000000 in
set_option maxRecDepth 100000 in
theorem indexF_check (f : Int → Bool) (bx : Nat) {w : World} {q : Option Addr} {d : List Int} {c : Nat} (h : Nums w q d) (hlen : d.length ≤ 4000)
    (hf : ∀ x, x ∈ d → Calls Try.prog 30 #[.int .i64 x, .pointer (some ⟨bx, 0, none⟩)] w fun e w' => e = .returned (.bool (f x)) ∧ w' = w) :
    Calls Try.prog 34 #[.slice q d.length c, .func (.func 30) #[] #[.pointer (some ⟨bx, 0, none⟩)]] w fun e w' => e = .returned (.int .i64 (fz f d)) ∧ w' = w := by
  have hlen' : Hid (d.length ≤ 4000) := hlen
  have hfH : Hid (∀ x, x ∈ d → Calls Try.prog 30 #[.int .i64 x, .pointer (some ⟨bx, 0, none⟩)] w fun e w' => e = .returned (.bool (f x)) ∧ w' = w) := hf
  clear hlen hf
  go_enter Try.func34, Try.ntmps34
  go_wp2
  go_loopw [8] (fun iv wr => ∃ j : Nat, iv = .int .i64 j ∧ j ≤ d.length ∧ Hid (∀ i, i < j → f (nm d i) = false) ∧ wr = w)
    (fun iv _ => d.length - (intOf iv).toNat)
  case atStart => exact ⟨0, rfl, Nat.zero_le _, fun i hi => by omega, rfl⟩
  case round =>
    obtain ⟨j, rfl, hjl, hall, rfl⟩ := hrel
    by_cases hj : j < d.length
    · rcases h with h0 | ⟨b, o, rfl, hA⟩
      · omega
      have z0 := hA.c j hj
      have hf1 := hfH.out (nm d j) (nm_mem hj)
      have hji : (j : Int) < (d.length : Int) := by omega
      have hj2 : Hid (j ≤ 100000) := by have := hlen'.out; show _ ≤ _; omega
      have hyes : Hid (f (nm d j) = true → fz f d = (j : Int)) := fun h2 => fz_at hj h2 hall.out
      have hno : Hid (f (nm d j) = false → ∀ i, i < j + 1 → f (nm d i) = false) := fun h2 i hi => by
        by_cases e : i = j
        · rw [e]; exact h2
        · exact hall.out i (by omega)
      generalize f (nm d j) = s at *
      generalize nm d j = x at *
      clear hA hall hfH
      cases s with
      | true =>
        have hy2 : Hid _ := hyes.out rfl
        clear hyes hno
        go_wp2_with (first
          | (go_at_call 30; refine hf1.mono ?_; rintro e w' ⟨rfl, hw'⟩; have hw'' := hw'.symm; subst hw''; clear hf1)
          | go_in)
        go_ret
        exact ⟨ret_i hy2.out.symm, rfl⟩
      | false =>
        have hn2 : Hid _ := hno.out rfl
        clear hyes hno
        go_wp2_with (first
          | (go_at_call 30; refine hf1.mono ?_; rintro e w' ⟨rfl, hw'⟩; have hw'' := hw'.symm; subst hw''; clear hf1)
          | go_in)
        refine ⟨⟨j + 1, ?_, hj, hn2, by first | rfl | trivial⟩, ?_⟩
        · first | exact int_succ j | exact int_wsucc hj2.out
        · first | exact meas_1 hj | exact meas_w hj hj2.out
    · have hji : ¬ (j : Int) < (d.length : Int) := by omega
      have e : j = d.length := by omega
      subst e
      have hy2 : Hid (fz f d = -1) := fz_none hall.out
      clear hall hfH h
      go_wp2
      go_ret
      exact ⟨ret_i hy2.out.symm, rfl⟩

set_option maxRecDepth 100000 in
theorem containsF_check (f : Int → Bool) (bx : Nat) {w : World} {q : Option Addr} {d : List Int} {c : Nat} (h : Nums w q d) (hlen : d.length ≤ 4000)
    (hf : ∀ x, x ∈ d → Calls Try.prog 30 #[.int .i64 x, .pointer (some ⟨bx, 0, none⟩)] w fun e w' => e = .returned (.bool (f x)) ∧ w' = w) :
    Calls Try.prog 29 #[.slice q d.length c, .func (.func 30) #[] #[.pointer (some ⟨bx, 0, none⟩)]] w fun e w' => e = .returned (.bool (d.any f)) ∧ w' = w := by
  have hi := indexF_check (c := c) f bx h hlen hf
  clear h hlen hf
  go_enter Try.func29, Try.ntmps29
  go_wp2_with (first | (go_at_call 34; refine hi.mono ?_; rintro e w' ⟨rfl, hw'⟩; have hw'' := hw'.symm; subst hw''; clear hi) | go_in)
  go_ret
  exact ⟨ret_b (fz_any f d), rfl⟩

set_option maxHeartbeats 1000000 in
set_option maxRecDepth 100000 in
theorem indexF_fill (f : Int → Bool) (bx by_ : Nat) {w : World} {q : Option Addr} {d : List Int} {c : Nat} (h : Nums w q d) (hlen : d.length ≤ 4000)
    (hf : ∀ x, x ∈ d → Calls Try.prog 35 #[.int .i64 x, .pointer (some ⟨bx, 0, none⟩), .pointer (some ⟨by_, 0, none⟩)] w fun e w' => e = .returned (.bool (f x)) ∧ w' = w) :
    Calls Try.prog 34 #[.slice q d.length c, .func (.func 35) #[] #[.pointer (some ⟨bx, 0, none⟩), .pointer (some ⟨by_, 0, none⟩)]] w fun e w' => e = .returned (.int .i64 (fz f d)) ∧ w' = w := by
  have hlen' : Hid (d.length ≤ 4000) := hlen
  have hfH : Hid (∀ x, x ∈ d → Calls Try.prog 35 #[.int .i64 x, .pointer (some ⟨bx, 0, none⟩), .pointer (some ⟨by_, 0, none⟩)] w fun e w' => e = .returned (.bool (f x)) ∧ w' = w) := hf
  clear hlen hf
  go_enter Try.func34, Try.ntmps34
  go_wp2
  go_loopw [8] (fun iv wr => ∃ j : Nat, iv = .int .i64 j ∧ j ≤ d.length ∧ Hid (∀ i, i < j → f (nm d i) = false) ∧ wr = w)
    (fun iv _ => d.length - (intOf iv).toNat)
  case atStart => exact ⟨0, rfl, Nat.zero_le _, fun i hi => by omega, rfl⟩
  case round =>
    obtain ⟨j, rfl, hjl, hall, rfl⟩ := hrel
    by_cases hj : j < d.length
    · rcases h with h0 | ⟨b, o, rfl, hA⟩
      · omega
      have z0 := hA.c j hj
      have hf1 := hfH.out (nm d j) (nm_mem hj)
      have hji : (j : Int) < (d.length : Int) := by omega
      have hj2 : Hid (j ≤ 100000) := by have := hlen'.out; show _ ≤ _; omega
      have hyes : Hid (f (nm d j) = true → fz f d = (j : Int)) := fun h2 => fz_at hj h2 hall.out
      have hno : Hid (f (nm d j) = false → ∀ i, i < j + 1 → f (nm d i) = false) := fun h2 i hi => by
        by_cases e : i = j
        · rw [e]; exact h2
        · exact hall.out i (by omega)
      generalize f (nm d j) = s at *
      generalize nm d j = x at *
      clear hA hall hfH
      cases s with
      | true =>
        have hy2 : Hid _ := hyes.out rfl
        clear hyes hno
        go_wp2_with (first
          | (go_at_call 35; refine hf1.mono ?_; rintro e w' ⟨rfl, hw'⟩; have hw'' := hw'.symm; subst hw''; clear hf1)
          | go_in)
        go_ret
        exact ⟨ret_i hy2.out.symm, rfl⟩
      | false =>
        have hn2 : Hid _ := hno.out rfl
        clear hyes hno
        go_wp2_with (first
          | (go_at_call 35; refine hf1.mono ?_; rintro e w' ⟨rfl, hw'⟩; have hw'' := hw'.symm; subst hw''; clear hf1)
          | go_in)
        refine ⟨⟨j + 1, ?_, hj, hn2, by first | rfl | trivial⟩, ?_⟩
        · first | exact int_succ j | exact int_wsucc hj2.out
        · first | exact meas_1 hj | exact meas_w hj hj2.out
    · have hji : ¬ (j : Int) < (d.length : Int) := by omega
      have e : j = d.length := by omega
      subst e
      have hy2 : Hid (fz f d = -1) := fz_none hall.out
      clear hall hfH h
      go_wp2
      go_ret
      exact ⟨ret_i hy2.out.symm, rfl⟩

/-! ### Check -/
def ucB (size x : Int) : Bool := decide (x < 1) || decide (size < x)
theorem check1_any (x size : Int) (b : Nat) (w : World) (hc : w.cell? ⟨b, 0, none⟩ = some (.int .i64 size)) : Calls Try.prog 30 #[.int .i64 x, .pointer (some ⟨b, 0, none⟩)] w fun e w' => e = .returned (.bool (ucB size x)) ∧ w' = w := by
  by_cases h0 : x < 1
  · have e : ucB size x = true := by simp [ucB, h0]
    have h0d : decide (x < 1) = true := decide_eq_true h0
    rw [e]
    clear e
    go_enter Try.func30, Try.ntmps30
    go_wp2
    go_ret
    exact ⟨by first | rfl | simp, rfl⟩
  · have e : ucB size x = decide (size < x) := by simp [ucB, h0]
    have h0d : decide (x < 1) = false := decide_eq_false h0
    rw [e]
    clear e
    go_enter Try.func30, Try.ntmps30
    go_wp2
    go_ret
    exact ⟨by first | rfl | simp, rfl⟩
/-- What Check tells. -/
def kc (l : List Int) (size : Int) : Int := if 100 < l.length then 2 else if size < 1 ∨ 1099511627776 < size then 1 else if l.any (ucB size) = true then 4 else 0
theorem kc_ok {l : List Int} {size : Int} (h : kc l size = 0) : l.length ≤ 100 ∧ 1 ≤ size ∧ size ≤ 1099511627776 ∧ ∀ x ∈ l, 1 ≤ x ∧ x ≤ size := by
  unfold kc at h
  by_cases h1 : 100 < l.length
  · rw [if_pos h1] at h; omega
  rw [if_neg h1] at h
  by_cases h2 : size < 1 ∨ 1099511627776 < size
  · rw [if_pos h2] at h; omega
  rw [if_neg h2] at h
  by_cases h3 : l.any (ucB size) = true
  · rw [if_pos h3] at h; omega
  refine ⟨by omega, by omega, by omega, fun x hx => ?_⟩
  have h4 : ucB size x = false := by
    cases e : ucB size x
    · rfl
    · exact absurd (List.any_eq_true.2 ⟨x, hx, e⟩) h3
  simp [ucB] at h4
  omega
set_option maxHeartbeats 1000000 in
set_option maxRecDepth 100000 in
theorem Check_any {w : World} {q : Option Addr} {d : List Int} {c : Nat} (size : Int) (h : Nums w q d) :
    Calls Try.prog 13 #[.slice q d.length c, .int .i64 size] w fun e w' => e = .returned (.int .i64 (kc d size)) ∧ Below w.heap.size w w' := by
  have hb1 : Below w.heap.size w (w.alloc (.cells #[.int .i64 size] 2)) := (Below.refl _ _).alloc (Nat.le_refl _) _
  have hbH : Hid (Below w.heap.size w (w.alloc (.cells #[.int .i64 size] 2))) := hb1
  have hc0 : (w.alloc (.cells #[.int .i64 size] 2)).cell? ⟨w.heap.size, 0, none⟩ = some (.int .i64 size) := (cell_of_row _ _ 0 _ _ _ (heap_alloc_new w (.cells #[.int .i64 size] 2))).trans rfl
  have hN := h.below hb1 (Nat.le_refl _)
  clear hb1
  by_cases h1 : 100 < d.length
  · have h1i : (100 : Int) < (d.length : Int) := by omega
    have eH : Hid (kc d size = 2) := by unfold kc; rw [if_pos h1]; rfl
    clear h1 h hN
    go_enter Try.func13, Try.ntmps13
    go_wp2
    go_ret
    exact ⟨ret_i eH.out.symm, hbH.out⟩
  have h1i : ¬ (100 : Int) < (d.length : Int) := by omega
  by_cases h2 : size < 1 ∨ 1099511627776 < size
  · have eH : Hid (kc d size = 1) := by unfold kc; rw [if_neg h1, if_pos h2]; rfl
    clear h1 h hN
    by_cases h3 : size < 1
    · have h3d : decide (size < 1) = true := decide_eq_true h3
      clear h2
      go_enter Try.func13, Try.ntmps13
      go_wp2
      go_ret
      exact ⟨ret_i eH.out.symm, hbH.out⟩
    · have h3d : decide (size < 1) = false := decide_eq_false h3
      have h4 : 1099511627776 < size := by omega
      clear h2
      go_enter Try.func13, Try.ntmps13
      go_wp2
      go_ret
      exact ⟨ret_i eH.out.symm, hbH.out⟩
  have h3 : ¬ size < 1 := by omega
  have h3d : decide (size < 1) = false := decide_eq_false h3
  have h4 : ¬ 1099511627776 < size := by omega
  have hcall := containsF_check (c := c) (ucB size) w.heap.size hN (by omega) (fun x _ => check1_any x size w.heap.size _ hc0)
  have eH : Hid (kc d size = if d.any (ucB size) = true then 4 else 0) := by unfold kc; rw [if_neg h1, if_neg h2]; rfl
  clear h1 h2 h hN
  generalize d.any (ucB size) = s at *
  cases s with
  | true =>
    go_enter Try.func13, Try.ntmps13
    go_wp2_with (first | (go_at_call 29; refine hcall.mono ?_; rintro e w' ⟨rfl, hw'⟩; have hw'' := hw'.symm; subst hw''; clear hcall) | go_in)
    go_ret
    exact ⟨ret_i eH.out.symm, hbH.out⟩
  | false =>
    go_enter Try.func13, Try.ntmps13
    go_wp2_with (first | (go_at_call 29; refine hcall.mono ?_; rintro e w' ⟨rfl, hw'⟩; have hw'' := hw'.symm; subst hw''; clear hcall) | go_in)
    go_ret
    exact ⟨ret_i eH.out.symm, hbH.out⟩
end Go.Proofs.Ytfnkboegbclnaaa
