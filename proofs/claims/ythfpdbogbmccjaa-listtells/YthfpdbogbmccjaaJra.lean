/- The reference of package list: WorkFault, UpTo. -/
import Derived.Test.YthfpdbogbmccjaaJrs
namespace Go.Proofs.Ythfpdbogbmccjaa
open Go.RowKit
set_option linter.unusedSectionVars false
set_option linter.unusedVariables false

set_option maxHeartbeats 1000000 in
set_option maxRecDepth 100000 in
theorem upTo_any {w : World} {n : Nat} (hn : n ≤ 1000) :
    Calls Try.prog 13 #[.int .i64 (n : Int)] w fun e w' => e = .returned (.slice (some ⟨w.heap.size, 0, none⟩) n n) ∧ w'.ownsRow w.heap.size 3 1 (.slice (some ⟨w.heap.size, 0, none⟩) n n) n (numf (fun j => (j : Int)) n) ∧ Below w.heap.size w w' := by
  have hnH : Hid (n ≤ 1000) := hn
  have hnn : ¬ (n : Int) < 0 := by omega
  clear hn
  go_enter Try.func13, Try.ntmps13
  go_wp2_with (first
    | (at_make; obtain ⟨i0, hi, hz0, hz1, hz2⟩ := info_parts info_int; refine wpList_make_full _ rfl _ _ 23 rfl w.heap.size 3 i0 (.int .i64 0) 1 Try.underlying23 hi hz0 hz1 _ _ _ _ n rfl rfl rfl rfl (by rw [hz2]; have := hnH.out; omega) (by unfold maxLen; have := hnH.out; omega) (Nat.le_refl _) ?_; intro w1 hown1 hgrow1; clear hi hz0 hz1 hz2)
    | go_in)
  have hat1 : w1.ownsRow w.heap.size 3 1 (.slice (some ⟨w.heap.size, 0, none⟩) n n) n (numf (fun _ => 0) n) := by
    have e : (madeCells (Value.int .i64 0).cells (n * 1)).toList = numf (fun _ => 0) n := by
      rw [numf_zero, Nat.mul_one]
      exact toList_madeCells_one _ _
    rw [← e]; exact hown1
  have hB1 : Below w.heap.size w w1 := ⟨hgrow1.os, hgrow1.tape, hgrow1.output, hgrow1.size, fun k hk => hgrow1.block k hk (by simp)⟩
  clear hown1 hgrow1
  generalize hgb : w.heap.size = gb at *
  have hgbH : Hid (w.heap.size = gb) := hgb
  clear hgb
  go_loopw [9] (fun kv wr => ∃ (k : Nat), kv = .int .i64 k ∧ k ≤ n ∧ wr.ownsRow gb 3 1 (.slice (some ⟨gb, 0, none⟩) n n) n (numf (fun j => if j < k then (j : Int) else 0) n) ∧ Below gb w wr)
    (fun kv _ => n - (intOf kv).toNat)
  case atStart => exact ⟨0, rfl, Nat.zero_le _, by simpa using hat1, hB1⟩
  case round =>
    clear hat1 hB1
    obtain ⟨k, rfl, hkn, hown, hbl⟩ := hrel
    by_cases hk : k < n
    · have hki : (k : Int) < (n : Int) := by omega
      have hkH : Hid (k < n) := hk
      have hk2 : Hid (k ≤ 100000) := by have := hnH.out; show _ ≤ _; omega
      have y0 : wr.cell? ⟨gb, k, none⟩ = some (.int .i64 (if k < k then (k : Int) else 0)) := by rw [hown.cellAt k (by omega), numf_get hk]
      have f0 := owns_frz hown k
      have hownH : Hid _ := hown
      have hblH : Hid (Below gb w wr) := hbl
      clear hown hbl hk
      go_wp2
      refine ⟨⟨k + 1, ?_, hkH.out, ?_, ?_⟩, ?_⟩
      · first | exact int_succ k | exact int_wsucc hk2.out
      · have h2 := owns_store hownH.out (j := k) (.int .i64 (k : Int))
        rw [numf_set] at h2
        have e : numf (fp (fun j => if j < k then (j : Int) else 0) k (k : Int)) n = numf (fun j => if j < k + 1 then (j : Int) else 0) n := numf_congr fun j _ => by
          unfold fp
          by_cases e1 : j = k
          · rw [if_pos e1, if_pos (by omega), e1]
          · rw [if_neg e1]
            show (if j < k then (j : Int) else 0) = _
            by_cases e2 : j < k
            · rw [if_pos e2, if_pos (by omega)]
            · rw [if_neg e2, if_neg (by omega)]
        rw [← e]
        exact h2
      · exact hblH.out.setCell (Nat.le_refl gb) _
      · first | exact meas_1 hkH.out | exact meas_w hkH.out hk2.out
    · have hki : ¬ (k : Int) < (n : Int) := by omega
      have e : k = n := by omega
      subst e
      have e2 : numf (fun j => if j < k then (j : Int) else 0) k = numf (fun j => (j : Int)) k := numf_congr fun j hj => by rw [if_pos hj]
      rw [e2] at hown
      clear e2
      go_wp2
      go_ret
      rw [hgbH.out]
      exact ⟨rfl, hown, hbl⟩

theorem nsB_lo {x : Int} (h : x < 0) : nsB x = true := by simp [nsB]; omega
theorem nsB_hi {x : Int} (h : 1000000000 < x) : nsB x = true := by simp [nsB]; omega
theorem nsB_no {x : Int} (h1 : ¬ x < 0) (h2 : ¬ 1000000000 < x) : nsB x = false := by simp [nsB]; omega
theorem kl_any {m : Int} {l : List Int} {j : Nat} (h0 : 1 ≤ m ∧ m ≤ 20) (h1 : ¬ 60 < l.length) (hj : j < l.length) (h : nsB (nm l j) = true) : kl m l = 4 := by
  unfold kl
  rw [if_neg (by simpa using h0), if_neg h1, if_pos (List.any_eq_true.2 ⟨_, nm_mem hj, h⟩)]
theorem kl_none {m : Int} {l : List Int} (h0 : 1 ≤ m ∧ m ≤ 20) (h1 : ¬ 60 < l.length) (h : ∀ i, i < l.length → nsB (nm l i) = false) : kl m l = 0 := by
  unfold kl
  rw [if_neg (by simpa using h0), if_neg h1, if_neg]
  intro h3
  obtain ⟨x, hx, hu⟩ := List.any_eq_true.1 h3
  obtain ⟨i, hi, rfl⟩ := List.getElem_of_mem hx
  have := h i hi
  rw [nm_get hi, hu] at this
  cases this

set_option maxHeartbeats 1000000 in
set_option maxRecDepth 100000 in
theorem fault_any {w : World} {q : Option Addr} {l : List Int} {c : Nat} (m : Int) (h : Nums w q l) :
    Calls Try.prog 11 #[.int .i64 m, .slice q l.length c] w fun e w' => e = .returned (.int .i64 (kl m l)) ∧ w' = w := by
  by_cases h0 : 1 ≤ m ∧ m ≤ 20
  · have h3 : ¬ m < 1 := by omega
    have h4 : ¬ 20 < m := by omega
    by_cases h1 : 60 < l.length
    · have h1i : (60 : Int) < (l.length : Int) := by omega
      have e : kl m l = 2 := by unfold kl; rw [if_neg (by simpa using h0), if_pos h1]
      rw [e]
      clear h e h1 h0
      go_enter Try.func11, Try.ntmps11
      go_wp2
      go_ret
      exact ⟨rfl, rfl⟩
    have h1i : ¬ (60 : Int) < (l.length : Int) := by omega
    have hany : Hid (∀ j, j < l.length → nsB (nm l j) = true → kl m l = 4) := fun j hj hu => kl_any h0 h1 hj hu
    have hnone : Hid ((∀ i, i < l.length → nsB (nm l i) = false) → kl m l = 0) := fun hu => kl_none h0 h1 hu
    have hnH : Hid (l.length ≤ 60) := by show _ ≤ _; omega
    have hNH : Hid (Nums w q l) := h
    clear h h1 h0
    generalize kl m l = z at *
    go_enter Try.func11, Try.ntmps11
    go_wp2
    go_loopw [18] (fun iv wr => ∃ j : Nat, iv = .int .i64 j ∧ j ≤ l.length ∧ Hid (∀ i, i < j → nsB (nm l i) = false) ∧ wr = w)
      (fun iv _ => l.length - (intOf iv).toNat)
    case atStart => exact ⟨0, rfl, Nat.zero_le _, fun i hi => absurd hi (Nat.not_lt_zero _), rfl⟩
    case round =>
      obtain ⟨j, rfl, hjl, hall, rfl⟩ := hrel
      by_cases hj : j < l.length
      · rcases hNH.out with h0 | ⟨b, o, rfl, hA⟩
        · omega
        have z0 := hA.c j hj
        have hji : (j : Int) < (l.length : Int) := by omega
        have hjH : Hid (j < l.length) := hj
        have hj2 : Hid (j ≤ 100000) := by have := hnH.out; show _ ≤ _; omega
        have hup : Hid (nsB (nm l j) = true → z = 4) := fun hu => hany.out j hj hu
        have hnx : Hid (nsB (nm l j) = false → ∀ i, i < j + 1 → nsB (nm l i) = false) := fun hu i hi => by
          by_cases e : i = j
          · rw [e]; exact hu
          · exact hall.out i (by omega)
        clear hA hall hj hany hnone
        generalize nm l j = x at *
        by_cases c1 : x < 0
        · have ez := hup.out (nsB_lo c1)
          subst ez
          clear hup hnx
          go_wp2
          go_ret
          exact ⟨rfl, rfl⟩
        · by_cases c2 : 1000000000 < x
          · have ez := hup.out (nsB_hi c2)
            subst ez
            clear hup hnx
            go_wp2
            go_ret
            exact ⟨rfl, rfl⟩
          · have hy : Hid (∀ i, i < j + 1 → nsB (nm l i) = false) := hnx.out (nsB_no c1 c2)
            clear hup hnx
            go_wp2
            refine ⟨⟨j + 1, ?_, hjH.out, hy, by first | rfl | trivial⟩, ?_⟩
            · first | exact int_succ j | exact int_wsucc hj2.out
            · first | exact meas_1 hjH.out | exact meas_w hjH.out hj2.out
      · have hji : ¬ (j : Int) < (l.length : Int) := by omega
        have ez := hnone.out fun i hi => hall.out i (by omega)
        subst ez
        clear hany hnone hall
        go_wp2
        go_ret
        exact ⟨rfl, rfl⟩
  · have e : kl m l = 1 := by unfold kl; rw [if_pos h0]
    rw [e]
    clear h e
    by_cases h3 : m < 1
    · clear h0
      go_enter Try.func11, Try.ntmps11
      go_wp2
      go_ret
      exact ⟨rfl, rfl⟩
    · have h4 : 20 < m := by omega
      clear h0
      go_enter Try.func11, Try.ntmps11
      go_wp2
      go_ret
      exact ⟨rfl, rfl⟩
end Go.Proofs.Ythfpdbogbmccjaa
