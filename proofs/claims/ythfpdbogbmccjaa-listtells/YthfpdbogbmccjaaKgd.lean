/- good: whether none of some errors is one. -/
import Derived.Test.YthfpdbogbmccjaaKb
namespace Go.Proofs.Ythfpdbogbmccjaa
open Go.RowKit
set_option linter.unusedSectionVars false
set_option linter.unusedVariables false

def gx (L : List Int) (k : Nat) : Int := L.getD k 0
theorem gx_get {L : List Int} {k : Nat} (hk : k < L.length) : gx L k = L[k] := by simp [gx, hk]
theorem gx_mem {L : List Int} {k : Nat} (hk : k < L.length) : gx L k ∈ L := by rw [gx_get hk]; exact List.getElem_mem hk
def gdB (L : List Int) : Bool := L.all fun x => decide (x = 0)
theorem gd_take {L : List Int} {j : Nat} (hj : j < L.length) (h : gdB (L.take j) = true) (h2 : gx L j = 0) : gdB (L.take (j + 1)) = true := by
  unfold gdB at *
  rw [gx_get hj] at h2
  rw [← List.take_append_getElem hj, List.all_append, h]
  simp [h2]
theorem gd_no {L : List Int} {j : Nat} (hj : j < L.length) (h2 : gx L j ≠ 0) : gdB L = false := by
  unfold gdB
  rw [List.all_eq_false]
  exact ⟨_, gx_mem hj, by simp [h2]⟩

theorem good1_0 (w : World) : Calls Try.prog 33 #[.int .i64 0] w fun e w' => e = .returned (.bool false) ∧ w' = w := by
  go_enter Try.func33, Try.ntmps33
  go_wp2
  go_ret
  exact ⟨rfl, rfl⟩
theorem good1_1 {x : Int} (hx : x ≠ 0) (w : World) : Calls Try.prog 33 #[.int .i64 x] w fun e w' => e = .returned (.bool true) ∧ w' = w := by
  have hx' : (x == 0) = false := by simpa using hx
  have hx2 : (x != 0) = true := by simpa using hx
  go_enter Try.func33, Try.ntmps33
  go_wp2
  go_ret
  exact ⟨rfl, rfl⟩

set_option maxHeartbeats 1000000 in
set_option maxRecDepth 100000 in
theorem indexf_g {w : World} {b n : Nat} {L : List Int} (hL : L.length = n) (h : ∀ j, j < n → w.cell? ⟨b, j, none⟩ = some (.int .i64 (gx L j))) (hlen : n ≤ 4000) :
    Calls Try.prog 42 #[.slice (some ⟨b, 0, none⟩) n n, .func (.func 33) #[] #[]] w fun e w' => (∃ z : Int, e = .returned (.int .i64 z) ∧ (0 ≤ z ↔ gdB L = false)) ∧ w' = w := by
  have hlen' : Hid (n ≤ 4000) := hlen
  have hLH : Hid (L.length = n) := hL
  have hh : Hid (∀ j, j < n → w.cell? ⟨b, j, none⟩ = some (.int .i64 (gx L j))) := h
  clear hlen hL h
  go_enter Try.func42, Try.ntmps42
  go_wp2
  go_loopw [8] (fun iv wr => ∃ j : Nat, iv = .int .i64 j ∧ j ≤ n ∧ Hid (gdB (L.take j) = true) ∧ wr = w)
    (fun iv _ => n - (intOf iv).toNat)
  case atStart => exact ⟨0, rfl, Nat.zero_le _, rfl, rfl⟩
  case round =>
    obtain ⟨j, rfl, hjl, hall, rfl⟩ := hrel
    by_cases hj : j < n
    · have z0 := hh.out j hj
      have hji : (j : Int) < (n : Int) := by omega
      have hj2 : Hid (j ≤ 100000) := by have := hlen'.out; show _ ≤ _; omega
      have hyes : Hid (gx L j = 0 → gdB (L.take (j + 1)) = true) := fun h2 => gd_take (by have := hLH.out; omega) hall.out h2
      have hno : Hid (gx L j ≠ 0 → gdB L = false) := fun h2 => gd_no (by have := hLH.out; omega) h2
      generalize gx L j = x at *
      clear hall
      by_cases hx : x = 0
      · have hy2 : Hid (gdB (L.take (j + 1)) = true) := hyes.out hx
        subst hx
        have hns1 := good1_0 wr
        clear hyes hno
        go_wp2_with (first
          | (go_at_call 33; refine hns1.mono ?_; rintro e w' ⟨rfl, hw'⟩; have hw'' := hw'.symm; subst hw''; clear hns1)
          | go_in)
        refine ⟨⟨j + 1, ?_, hj, hy2, by first | rfl | trivial⟩, ?_⟩
        · first | exact int_succ j | exact int_wsucc hj2.out
        · first | exact meas_1 hj | exact meas_w hj hj2.out
      · have hn2 : Hid (gdB L = false) := hno.out hx
        have hns1 := good1_1 hx wr
        clear hyes hno hx
        go_wp2_with (first
          | (go_at_call 33; refine hns1.mono ?_; rintro e w' ⟨rfl, hw'⟩; have hw'' := hw'.symm; subst hw''; clear hns1)
          | go_in)
        go_ret
        exact ⟨⟨_, rfl, fun _ => hn2.out, fun _ => by omega⟩, rfl⟩
    · have hji : ¬ (j : Int) < (n : Int) := by omega
      have e : j = n := by omega
      have hy2 : Hid (gdB L = true) := by have := hall.out; rwa [e, ← hLH.out, List.take_length] at this
      clear hall
      go_wp2
      go_ret
      exact ⟨⟨_, rfl, fun h => absurd h (by omega), fun h => by rw [hy2.out] at h; cases h⟩, rfl⟩

set_option maxRecDepth 100000 in
theorem good_any {w : World} {b n : Nat} {L : List Int} (hL : L.length = n) (h : ∀ j, j < n → w.cell? ⟨b, j, none⟩ = some (.int .i64 (gx L j))) (hlen : n ≤ 4000) :
    Calls Try.prog 21 #[.slice (some ⟨b, 0, none⟩) n n] w fun e w' => e = .returned (.bool (gdB L)) ∧ w' = w := by
  have hc : Calls Try.prog 32 #[.slice (some ⟨b, 0, none⟩) n n, .func (.func 33) #[] #[]] w fun e w' => e = .returned (.bool (!gdB L)) ∧ w' = w := by
    have hi := indexf_g hL h hlen
    clear hL h hlen
    go_enter Try.func32, Try.ntmps32
    go_wp2_with (first | (go_at_call 42; refine hi.mono ?_; rintro e w' ⟨⟨z, rfl, hz⟩, hw'⟩; have hw'' := hw'.symm; subst hw''; have hzH : Hid (0 ≤ z ↔ gdB L = false) := hz; clear hz hi) | go_in)
    go_ret
    refine ⟨ret_b ?_, rfl⟩
    by_cases h0 : 0 ≤ z
    · rw [hzH.out.1 h0]; simpa using h0
    · have : gdB L = true := by
        cases e : gdB L
        · exact absurd (hzH.out.2 e) h0
        · rfl
      rw [this]; simpa using h0
  clear hL h hlen
  generalize gdB L = gb at *
  go_enter Try.func21, Try.ntmps21
  go_wp2_with (go_at_call 32; refine hc.mono ?_; rintro e w' ⟨rfl, rfl⟩)
  go_ret
  exact ⟨ret_b (by simp), rfl⟩
end Go.Proofs.Ythfpdbogbmccjaa
