/- Package list: Least; ListLeast, walked. -/
import Derived.Test.YthfpdbogbmccjaaJv
namespace Go.Proofs.Ythfpdbogbmccjaa
open Go.RowKit
set_option linter.unusedSectionVars false
set_option linter.unusedVariables false

set_option maxHeartbeats 1000000 in
set_option maxRecDepth 100000 in
theorem Least_bad {w : World} {q : Option Addr} {l : List Int} {c : Nat} (m : Int) (h : Nums w q l) (hk : kl m l ≠ 0) :
    Calls Try.prog 9 #[.int .i64 m, .slice q l.length c] w fun e w' => e = .returned (.tuple #[.int .i64 0, .int .i64 (kl m l)]) ∧ w' = w := by
  have hc := check_any (c := c) m h
  have hkb : (kl m l != 0) = true := by simpa using hk
  clear h hk
  go_enter Try.func9, Try.ntmps9
  go_wp2_with (first
    | (go_at_call 22; refine hc.mono ?_; rintro e w2 ⟨rfl, hw'⟩; have hw'' := hw'.symm; subst hw''; clear hc)
    | go_in)
  go_ret2
  exact ⟨rfl, rfl⟩

set_option maxHeartbeats 1000000 in
set_option maxRecDepth 100000 in
theorem Least_big {w : World} {q : Option Addr} {l : List Int} {c : Nat} (m : Int) (h : Nums w q l) (hk : kl m l = 0) (hn : 9 < l.length) :
    Calls Try.prog 9 #[.int .i64 m, .slice q l.length c] w fun e w' => e = .returned (.tuple #[.int .i64 0, .int .i64 2]) ∧ w' = w := by
  have hc := check_any (c := c) m h
  rw [hk] at hc
  have hz : (9 : Int) < (l.length : Int) := by omega
  clear h hk hn
  go_enter Try.func9, Try.ntmps9
  go_wp2_with (first
    | (go_at_call 22; refine hc.mono ?_; rintro e w2 ⟨rfl, hw'⟩; have hw'' := hw'.symm; subst hw''; clear hc)
    | go_in)
  go_ret2
  exact ⟨rfl, rfl⟩

set_option maxHeartbeats 1000000 in
set_option maxRecDepth 100000 in
theorem Least_ok {w : World} {q : Option Addr} {l : List Int} {c m : Nat} (h : Nums w q l) (hk : kl (m : Int) l = 0) (hn : l.length ≤ 9) :
    Calls Try.prog 9 #[.int .i64 (m : Int), .slice q l.length c] w fun e w' => (∃ v, e = .returned (.tuple #[.int .i64 v, .int .i64 0]) ∧ Bst l m (2 ^ l.length - 1) v) ∧ Below w.heap.size w w' := by
  have hc := check_any (c := c) (m : Int) h
  obtain ⟨k1, k2, k3⟩ := kl_ok hk
  rw [hk] at hc
  have hz : ¬ (9 : Int) < (l.length : Int) := by omega
  have hsu := sums_any (c := c) h rfl hn k3
  have hle : Hid (∀ (w3 : World) (B g T : Nat), T = 2 ^ l.length → w3.ownsRow B 2 1 (.slice (some ⟨g, 0, none⟩) T T) T (numf (aln l) T) → Calls Try.prog 28 #[.int .i64 (m : Int), .slice (some ⟨g, 0, none⟩) T T] w3 fun e w' => (∃ v, e = .returned (.int .i64 v) ∧ Bst l m (T - 1) v) ∧ Below w3.heap.size w3 w') := fun w3 B g T hT hr => least_any hr rfl hn hT (by omega) k3
  obtain ⟨T, hT⟩ : ∃ T, T = 2 ^ l.length := ⟨_, rfl⟩
  have hTH : Hid (T = 2 ^ l.length) := hT
  rw [← hT] at hsu ⊢
  clear h hk hn k1 k2 k3 hT
  go_enter Try.func9, Try.ntmps9
  go_wp2_with (first
    | (go_at_call 22; refine hc.mono ?_; rintro e w2 ⟨rfl, hw'⟩; have hw'' := hw'.symm; subst hw''; clear hc)
    | (go_at_call 29; refine hsu.mono ?_; rintro e w3 ⟨rfl, hr3, hb3⟩; clear hsu)
    | (go_at_call 28; refine (hle.out _ _ _ _ hTH.out hr3).mono ?_; rintro e w4 ⟨⟨v, rfl, hv⟩, hb4⟩; clear hle)
    | fail)
  go_ret2
  exact ⟨⟨v, rfl, hv⟩, hb3.trans (hb4.mono hb3.size)⟩

set_option maxHeartbeats 2000000 in
set_option maxRecDepth 100000 in
theorem listLeast_walk (m : Int) (q : Option Addr) (l : List Int) (c : Nat) (qb : Option Addr) (B : List Int) (cb : Nat) (w : World) (h : Nums w q l) (hB : Nums w qb B) :
    Calls Try.prog 6 #[.int .i64 m, .slice q l.length c, .slice qb B.length cb] w fun e w' => e = .returned (.bool true) ∧ Below w.heap.size w w' := by
  have hp := lists_any w
  have hNH : Hid (∀ w', Below w.heap.size w w' → Nums w' q l) := fun w' hb => h.below hb (Nat.le_refl _)
  have hNB : Hid (∀ w', Below w.heap.size w w' → Nums w' qb B) := fun w' hb => hB.below hb (Nat.le_refl _)
  by_cases hk : kl m l = 0
  · obtain ⟨k1, k2, k3⟩ := kl_ok hk
    obtain ⟨m, rfl⟩ : ∃ n : Nat, m = (n : Int) := ⟨m.toNat, by omega⟩
    have hSp : Hid (∀ w2, Below w.heap.size w w2 → Calls Try.prog 10 #[.int .i64 (m : Int), .slice q l.length c, .slice qb B.length cb] w2 fun e w' => e = .returned (.tuple #[.int .i64 (spR m l B).1, .int .i64 (spR m l B).2]) ∧ Below w2.heap.size w2 w') := fun w2 hb => Span_ok (hNH.out w2 hb) (hNB.out w2 hb) hk
    by_cases hn : l.length ≤ 9
    · have hL : Hid (∀ w2, Below w.heap.size w w2 → Calls Try.prog 9 #[.int .i64 (m : Int), .slice q l.length c] w2 fun e w' => (∃ v, e = .returned (.tuple #[.int .i64 v, .int .i64 0]) ∧ Bst l m (2 ^ l.length - 1) v) ∧ Below w2.heap.size w2 w') := fun w2 hb => Least_ok (hNH.out w2 hb) hk hn
      have hS : Hid (∀ w2, Below w.heap.size w w2 → Calls Try.prog 20 #[.slice q l.length c] w2 fun e w' => e = .returned (.int .i64 (sumR l)) ∧ w' = w2) := fun w2 hb => sum_any (hNH.out w2 hb) (by omega) (fun x hx => by have := k3 x hx; omega)
      have hmv : Hid (∀ v, Bst l m (2 ^ l.length - 1) v → sumR l ≤ wrap64 ((m : Int) * v)) := fun v hv => by
        have h1 := way_sum hv.way
        have h2 := mul20 (a := (m : Int)) (b := v) (by omega) (by have := hv.b; omega)
        have h3 : wrap64 ((m : Int) * v) = (m : Int) * v := wrap_s (by omega)
        rw [h3]; exact h1
      have hcase : Hid ((∃ y, spR m l B = (y, 0) ∧ ∀ v, Bst l m (2 ^ l.length - 1) v → v ≤ y) ∨ spR m l B = (0, 1)) := by
        by_cases e : B.length = l.length ∧ B.all (hdB m) = true
        · refine Or.inl ⟨_, by unfold spR; rw [if_pos e], fun v hv => ?_⟩
          refine lo_all hv.lo (fun i hi => ?_) (by omega)
          exact of_decide_eq_true (List.all_eq_true.1 e.2 _ (nm_mem (by omega)))
        · exact Or.inr (by unfold spR; rw [if_neg e])
      clear h hB hk k1 k2 k3 hn
      rcases hcase.out with ⟨y, hy, hle⟩ | hy
      · rw [hy] at hSp
        have hleH : Hid (∀ v, Bst l m (2 ^ l.length - 1) v → v ≤ y) := hle
        generalize 2 ^ l.length - 1 = full at *
        clear hcase hy hle
        go_enter Try.func6, Try.ntmps6
        go_wp2_with (first
          | (go_at_call 19; refine hp.mono ?_; rintro e w2 ⟨rfl, hb⟩; clear hp)
          | (go_at_call 9; refine (hL.out _ hb).mono ?_; rintro e w3 ⟨⟨v, rfl, hv⟩, hb3⟩; clear hL; have hb4 := hb.trans (hb3.mono hb.size); have hvy := decide_eq_true (hleH.out v hv); have hmvH : Hid _ := hmv.out v hv; clear hv)
          | (go_at_call 10; refine (hSp.out _ hb4).mono ?_; rintro e w5 ⟨rfl, hb5⟩; clear hSp; have hb6 := hb4.trans (hb5.mono hb4.size))
          | (go_at_call 20; refine (hS.out _ hb6).mono ?_; rintro e w7 ⟨rfl, hw'⟩; have hw'' := hw'.symm; subst hw'')
          | fail)
        go_ret
        exact ⟨ret_b (decide_eq_true hmvH.out), hb6⟩
      · rw [hy] at hSp
        generalize 2 ^ l.length - 1 = full at *
        clear hcase hy
        go_enter Try.func6, Try.ntmps6
        go_wp2_with (first
          | (go_at_call 19; refine hp.mono ?_; rintro e w2 ⟨rfl, hb⟩; clear hp)
          | (go_at_call 9; refine (hL.out _ hb).mono ?_; rintro e w3 ⟨⟨v, rfl, hv⟩, hb3⟩; clear hL; have hb4 := hb.trans (hb3.mono hb.size); have hmvH : Hid _ := hmv.out v hv; clear hv)
          | (go_at_call 10; refine (hSp.out _ hb4).mono ?_; rintro e w5 ⟨rfl, hb5⟩; clear hSp; have hb6 := hb4.trans (hb5.mono hb4.size))
          | (go_at_call 20; refine (hS.out _ hb6).mono ?_; rintro e w7 ⟨rfl, hw'⟩; have hw'' := hw'.symm; subst hw'')
          | fail)
        go_ret
        exact ⟨ret_b (decide_eq_true hmvH.out), hb6⟩
    · have hL : Hid (∀ w2, Below w.heap.size w w2 → Calls Try.prog 9 #[.int .i64 (m : Int), .slice q l.length c] w2 fun e w' => e = .returned (.tuple #[.int .i64 0, .int .i64 2]) ∧ w' = w2) := fun w2 hb => Least_big _ (hNH.out w2 hb) hk (by omega)
      clear h hB hk k1 k2 k3 hn
      generalize spR m l B = y at *
      go_enter Try.func6, Try.ntmps6
      go_wp2_with (first
        | (go_at_call 19; refine hp.mono ?_; rintro e w2 ⟨rfl, hb⟩; clear hp)
        | (go_at_call 9; refine (hL.out _ hb).mono ?_; rintro e w3 ⟨rfl, hw'⟩; have hw'' := hw'.symm; subst hw''; clear hL)
        | (go_at_call 10; refine (hSp.out _ hb).mono ?_; rintro e w5 ⟨rfl, hb5⟩; clear hSp; have hb6 := hb.trans (hb5.mono hb.size))
        | fail)
      go_ret
      exact ⟨ret_b (by first | rfl | simp), hb6⟩
  · have hL : Hid (∀ w2, Below w.heap.size w w2 → Calls Try.prog 9 #[.int .i64 m, .slice q l.length c] w2 fun e w' => e = .returned (.tuple #[.int .i64 0, .int .i64 (kl m l)]) ∧ w' = w2) := fun w2 hb => Least_bad _ (hNH.out w2 hb) hk
    have hSp : Hid (∀ w2, Below w.heap.size w w2 → Calls Try.prog 10 #[.int .i64 m, .slice q l.length c, .slice qb B.length cb] w2 fun e w' => e = .returned (.tuple #[.int .i64 0, .int .i64 (kl m l)]) ∧ w' = w2) := fun w2 hb => Span_bad _ (hNH.out w2 hb) hk
    have hkb : (kl m l != 0) = true := by simpa using hk
    clear h hB hk
    go_enter Try.func6, Try.ntmps6
    go_wp2_with (first
      | (go_at_call 19; refine hp.mono ?_; rintro e w2 ⟨rfl, hb⟩; clear hp)
      | (go_at_call 9; refine (hL.out _ hb).mono ?_; rintro e w3 ⟨rfl, hw'⟩; have hw'' := hw'.symm; subst hw''; clear hL)
      | (go_at_call 10; refine (hSp.out _ hb).mono ?_; rintro e w5 ⟨rfl, hw'⟩; have hw'' := hw'.symm; subst hw''; clear hSp)
      | fail)
    go_ret
    exact ⟨ret_b (by first | rfl | simp), hb⟩
end Go.Proofs.Ythfpdbogbmccjaa
