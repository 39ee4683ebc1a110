/- The reference of package pack: ThingsFault, UpTo, room. -/
import Derived.Test.YtfnkboegbclnaaaKpl
namespace Go.Proofs.Ytfnkboegbclnaaa
open Go.RowKit
set_option linter.unusedSectionVars false
set_option linter.unusedVariables false

theorem ucB_lo {size x : Int} (h : x < 1) : ucB size x = true := by simp [ucB]; omega
theorem ucB_hi {size x : Int} (h : size < x) : ucB size x = true := by simp [ucB]; omega
theorem ucB_no {size x : Int} (h1 : ¬ x < 1) (h2 : ¬ size < x) : ucB size x = false := by simp [ucB]; omega
theorem kc_any {l : List Int} {size : Int} {j : Nat} (h1 : ¬ 100 < l.length) (h2 : ¬ (size < 1 ∨ 1099511627776 < size)) (hj : j < l.length) (h : ucB size (nm l j) = true) : kc l size = 4 := by
  unfold kc
  rw [if_neg h1, if_neg h2, if_pos (List.any_eq_true.2 ⟨_, nm_mem hj, h⟩)]
theorem kc_none {l : List Int} {size : Int} (h1 : ¬ 100 < l.length) (h2 : ¬ (size < 1 ∨ 1099511627776 < size)) (h : ∀ i, i < l.length → ucB size (nm l i) = false) : kc l size = 0 := by
  unfold kc
  rw [if_neg h1, if_neg h2, if_neg]
  intro h3
  obtain ⟨x, hx, hu⟩ := List.any_eq_true.1 h3
  obtain ⟨i, hi, rfl⟩ := List.getElem_of_mem hx
  have := h i hi
  rw [nm_get hi, hu] at this
  cases this

set_option maxHeartbeats 1000000 in
set_option maxRecDepth 100000 in
theorem fault_any {w : World} {q : Option Addr} {l : List Int} {c : Nat} (size : Int) (h : Nums w q l) :
    Calls Try.prog 12 #[.slice q l.length c, .int .i64 size] w fun e w' => e = .returned (.int .i64 (kc l size)) ∧ w' = w := by
  by_cases h1 : 100 < l.length
  · have h1i : (100 : Int) < (l.length : Int) := by omega
    have e : kc l size = 2 := by unfold kc; rw [if_pos h1]
    rw [e]
    clear h e h1
    go_enter Try.func12, Try.ntmps12
    go_wp2
    go_ret
    exact ⟨rfl, rfl⟩
  have h1i : ¬ (100 : Int) < (l.length : Int) := by omega
  by_cases h2 : size < 1 ∨ 1099511627776 < size
  · have e : kc l size = 1 := by unfold kc; rw [if_neg h1, if_pos h2]
    rw [e]
    clear h e h1
    by_cases h3 : size < 1
    · clear h2
      go_enter Try.func12, Try.ntmps12
      go_wp2
      go_ret
      exact ⟨rfl, rfl⟩
    · have h4 : 1099511627776 < size := by omega
      clear h2
      go_enter Try.func12, Try.ntmps12
      go_wp2
      go_ret
      exact ⟨rfl, rfl⟩
  have h3 : ¬ size < 1 := by omega
  have h4 : ¬ 1099511627776 < size := by omega
  have hany : Hid (∀ j, j < l.length → ucB size (nm l j) = true → kc l size = 4) := fun j hj hu => kc_any h1 h2 hj hu
  have hnone : Hid ((∀ i, i < l.length → ucB size (nm l i) = false) → kc l size = 0) := fun hu => kc_none h1 h2 hu
  have hnH : Hid (l.length ≤ 100) := by show _ ≤ _; omega
  have hNH : Hid (Nums w q l) := h
  clear h h1 h2
  generalize kc l size = z at *
  go_enter Try.func12, Try.ntmps12
  go_wp2
  go_loopw [18] (fun iv wr => ∃ j : Nat, iv = .int .i64 j ∧ j ≤ l.length ∧ Hid (∀ i, i < j → ucB size (nm l i) = false) ∧ wr = w)
    (fun iv _ => l.length - (intOf iv).toNat)
  case atStart => exact ⟨0, rfl, Nat.zero_le _, fun i hi => absurd hi (Nat.not_lt_zero _), rfl⟩
  case round =>
    obtain ⟨j, rfl, hjl, hall, rfl⟩ := hrel
    by_cases hj : j < l.length
    · rcases hNH.out with h0 | ⟨b, o, rfl, hA⟩
      · omega
      have z0 := hA.c j hj
      have hji : (j : Int) < (l.length : Int) := by omega
      have hjH : Hid (j < l.length) := hj
      have hj2 : Hid (j ≤ 100000) := by have := hnH.out; show _ ≤ _; omega
      have hup : Hid (ucB size (nm l j) = true → z = 4) := fun hu => hany.out j hj hu
      have hnx : Hid (ucB size (nm l j) = false → ∀ i, i < j + 1 → ucB size (nm l i) = false) := fun hu i hi => by
        by_cases e : i = j
        · rw [e]; exact hu
        · exact hall.out i (by omega)
      clear hA hall hj hany hnone
      generalize nm l j = x at *
      by_cases c1 : x < 1
      · have ez := hup.out (ucB_lo c1)
        subst ez
        clear hup hnx
        go_wp2
        go_ret
        exact ⟨rfl, rfl⟩
      · by_cases c2 : size < x
        · have ez := hup.out (ucB_hi c2)
          subst ez
          clear hup hnx
          go_wp2
          go_ret
          exact ⟨rfl, rfl⟩
        · have hy : Hid (∀ i, i < j + 1 → ucB size (nm l i) = false) := hnx.out (ucB_no c1 c2)
          clear hup hnx
          go_wp2
          refine ⟨⟨j + 1, ?_, hjH.out, hy, by first | rfl | trivial⟩, ?_⟩
          · first | exact int_succ j | exact int_wsucc hj2.out
          · first | exact meas_1 hjH.out | exact meas_w hjH.out hj2.out
    · have hji : ¬ (j : Int) < (l.length : Int) := by omega
      have ez := hnone.out fun i hi => hall.out i (by omega)
      subst ez
      clear hany hnone hall
      go_wp2
      go_ret
      exact ⟨rfl, rfl⟩

set_option maxHeartbeats 1000000 in
set_option maxRecDepth 100000 in
theorem upTo_any {w : World} {n : Nat} (hn : n ≤ 1000) :
    Calls Try.prog 15 #[.int .i64 (n : Int)] w fun e w' => e = .returned (.slice (some ⟨w.heap.size, 0, none⟩) n n) ∧ w'.ownsRow w.heap.size 3 1 (.slice (some ⟨w.heap.size, 0, none⟩) n n) n (numf (fun j => (j : Int)) n) ∧ Below w.heap.size w w' := by
  have hnH : Hid (n ≤ 1000) := hn
  have hnn : ¬ (n : Int) < 0 := by omega
  clear hn
  go_enter Try.func15, Try.ntmps15
  go_wp2_with (first
    | (at_make; obtain ⟨i0, hi, hz0, hz1, hz2⟩ := info_parts info_int; refine wpList_make_full _ rfl _ _ 23 rfl w.heap.size 3 i0 (.int .i64 0) 1 Try.underlying23 hi hz0 hz1 _ _ _ _ n rfl rfl rfl rfl (by rw [hz2]; have := hnH.out; omega) (by unfold maxLen; have := hnH.out; omega) (Nat.le_refl _) ?_; intro w1 hown1 hgrow1; clear hi hz0 hz1 hz2)
    | go_in)
  have hat1 : w1.ownsRow w.heap.size 3 1 (.slice (some ⟨w.heap.size, 0, none⟩) n n) n (numf (fun _ => 0) n) := by
    have e : (madeCells (Value.int .i64 0).cells (n * 1)).toList = numf (fun _ => 0) n := by
      rw [numf_zero, Nat.mul_one]
      exact toList_madeCells_one _ _
    rw [← e]; exact hown1
  have hB1 : Below w.heap.size w w1 := ⟨hgrow1.os, hgrow1.tape, hgrow1.output, hgrow1.size, fun k hk => hgrow1.block k hk (by simp)⟩
  clear hown1 hgrow1
  generalize hgb : w.heap.size = gb at *
  have hgbH : Hid (w.heap.size = gb) := hgb
  clear hgb
  go_loopw [9] (fun kv wr => ∃ (k : Nat), kv = .int .i64 k ∧ k ≤ n ∧ wr.ownsRow gb 3 1 (.slice (some ⟨gb, 0, none⟩) n n) n (numf (fun j => if j < k then (j : Int) else 0) n) ∧ Below gb w wr)
    (fun kv _ => n - (intOf kv).toNat)
  case atStart => exact ⟨0, rfl, Nat.zero_le _, by simpa using hat1, hB1⟩
  case round =>
    clear hat1 hB1
    obtain ⟨k, rfl, hkn, hown, hbl⟩ := hrel
    by_cases hk : k < n
    · have hki : (k : Int) < (n : Int) := by omega
      have hkH : Hid (k < n) := hk
      have hk2 : Hid (k ≤ 100000) := by have := hnH.out; show _ ≤ _; omega
      have y0 : wr.cell? ⟨gb, k, none⟩ = some (.int .i64 (if k < k then (k : Int) else 0)) := by rw [hown.cellAt k (by omega), numf_get hk]
      have f0 := owns_frz hown k
      have hownH : Hid _ := hown
      have hblH : Hid (Below gb w wr) := hbl
      clear hown hbl hk
      go_wp2
      refine ⟨⟨k + 1, ?_, hkH.out, ?_, ?_⟩, ?_⟩
      · first | exact int_succ k | exact int_wsucc hk2.out
      · have h2 := owns_store hownH.out (j := k) (.int .i64 (k : Int))
        rw [numf_set] at h2
        have e : numf (fp (fun j => if j < k then (j : Int) else 0) k (k : Int)) n = numf (fun j => if j < k + 1 then (j : Int) else 0) n := numf_congr fun j _ => by
          unfold fp
          by_cases e1 : j = k
          · rw [if_pos e1, if_pos (by omega), e1]
          · rw [if_neg e1]
            show (if j < k then (j : Int) else 0) = _
            by_cases e2 : j < k
            · rw [if_pos e2, if_pos (by omega)]
            · rw [if_neg e2, if_neg (by omega)]
        rw [← e]
        exact h2
      · exact hblH.out.setCell (Nat.le_refl gb) _
      · first | exact meas_1 hkH.out | exact meas_w hkH.out hk2.out
    · have hki : ¬ (k : Int) < (n : Int) := by omega
      have e : k = n := by omega
      subst e
      have e2 : numf (fun j => if j < k then (j : Int) else 0) k = numf (fun j => (j : Int)) k := numf_congr fun j hj => by rw [if_pos hj]
      rw [e2] at hown
      clear e2
      go_wp2
      go_ret
      rw [hgbH.out]
      exact ⟨rfl, hown, hbl⟩

theorem sb_succ (l : List Int) (I : Nat → Int) (b : Int) (j : Nat) : sb l I b (List.range (j + 1)) = sb l I b (List.range j) + if I j = b then nm l j else 0 := by
  rw [List.range_succ, sb_app]
  simp [sb]
theorem sb_bounds {l : List Int} {I : Nat → Int} {b : Int} (hx : ∀ i, i < l.length → 0 ≤ nm l i ∧ nm l i ≤ 1099511627776) : ∀ j, j ≤ l.length → 0 ≤ sb l I b (List.range j) ∧ sb l I b (List.range j) ≤ (j : Int) * 1099511627776 := by
  intro j
  induction j with
  | zero => intro _; simp [sb]
  | succ j ih =>
    intro hj
    have h1 := ih (by omega)
    have h2 := hx j (by omega)
    rw [sb_succ]
    split <;> omega

set_option maxHeartbeats 1000000 in
set_option maxRecDepth 100000 in
theorem room_any {w : World} {q qb : Option Addr} {l B : List Int} {c cb : Nat} (size b : Int) (h : Nums w q l) (hB : Nums w qb B) (hlen : B.length ≤ l.length) (hn : l.length ≤ 1000) (hx : ∀ x ∈ l, 0 ≤ x ∧ x ≤ 1099511627776) (hs : 0 ≤ size ∧ size ≤ 1099511627776) :
    Calls Try.prog 31 #[.slice q l.length c, .int .i64 size, .slice qb B.length cb, .int .i64 b] w fun e w' => e = .returned (.int .i64 (size - sb l (nm B) b (List.range B.length))) ∧ w' = w := by
  have hnH : Hid (B.length ≤ l.length ∧ l.length ≤ 1000) := ⟨hlen, hn⟩
  have hbd : Hid (∀ j, j ≤ l.length → 0 ≤ sb l (nm B) b (List.range j) ∧ sb l (nm B) b (List.range j) ≤ (j : Int) * 1099511627776) := sb_bounds fun i hi => hx _ (nm_mem hi)
  have hxH : Hid (∀ i, i < l.length → 0 ≤ nm l i ∧ nm l i ≤ 1099511627776) := fun i hi => hx _ (nm_mem hi)
  have hsH : Hid (0 ≤ size ∧ size ≤ 1099511627776) := hs
  have hNH : Hid (Nums w q l) := h
  have hBH : Hid (Nums w qb B) := hB
  clear h hB hlen hn hx hs
  go_enter Try.func31, Try.ntmps31
  go_wp2
  go_loopw [1, 13] (fun sv iv wr => ∃ j : Nat, iv = .int .i64 j ∧ sv = .int .i64 (size - sb l (nm B) b (List.range j)) ∧ j ≤ B.length ∧ wr = w)
    (fun _ iv _ => B.length - (intOf iv).toNat)
  case atStart => exact ⟨0, rfl, by simp [sb], Nat.zero_le _, rfl⟩
  case round =>
    obtain ⟨j, rfl, rfl, hjl, rfl⟩ := hrel
    by_cases hj : j < B.length
    · have hjl2 : j < l.length := by have := hnH.out; omega
      rcases hNH.out with h0 | ⟨g1, o1, rfl, hA1⟩
      · omega
      rcases hBH.out with h0 | ⟨g2, o2, rfl, hA2⟩
      · omega
      have z1 := hA1.c j hjl2
      have z2 := hA2.c j hj
      have hji : (j : Int) < (B.length : Int) := by omega
      have hji2 : (j : Int) < (l.length : Int) := by omega
      have hjH : Hid (j < B.length) := hj
      have hj2 : Hid (j ≤ 100000) := by have := hnH.out; show _ ≤ _; omega
      have hst : Hid (sb l (nm B) b (List.range (j + 1)) = sb l (nm B) b (List.range j) + if nm B j = b then nm l j else 0) := sb_succ l (nm B) b j
      have hw : Hid (wrap64 (size - sb l (nm B) b (List.range j) - nm l j) = size - sb l (nm B) b (List.range j) - nm l j) := by
        have a1 := hbd.out j (by omega)
        have a2 := hxH.out j hjl2
        have a3 := hnH.out
        have a4 := hsH.out
        show _ = _
        generalize sb l (nm B) b (List.range j) = S at *
        generalize nm l j = x at *
        clear hA1 hA2 z1 z2
        exact wrap_s (by omega)
      clear hA1 hA2 hj hjl2
      generalize sb l (nm B) b (List.range j) = S at *
      generalize nm l j = x at *
      generalize nm B j = y at *
      by_cases hy : y = b
      · subst hy
        go_wp2
        refine ⟨⟨j + 1, ?_, ?_, hjH.out, by first | rfl | trivial⟩, ?_⟩
        · first | exact int_succ j | exact int_wsucc hj2.out
        · rw [hst.out, if_pos rfl]
          have : size - (S + x) = size - S - x := by omega
          rw [this]
          first | exact congrArg _ hw.out | rfl
        · first | exact meas_1 hjH.out | exact meas_w hjH.out hj2.out
      · have hyb : (y == b) = false := by simpa using hy
        have hyH : Hid (y ≠ b) := hy
        clear hw
        go_wp2
        refine ⟨⟨j + 1, ?_, ?_, hjH.out, by first | rfl | trivial⟩, ?_⟩
        · first | exact int_succ j | exact int_wsucc hj2.out
        · rw [hst.out, if_neg hyH.out, Int.add_zero]
        · first | exact meas_1 hjH.out | exact meas_w hjH.out hj2.out
    · have hji : ¬ (j : Int) < (B.length : Int) := by omega
      have e : j = B.length := by omega
      subst e
      clear hbd hxH
      go_wp2
      go_ret
      exact ⟨rfl, rfl⟩
end Go.Proofs.Ytfnkboegbclnaaa
