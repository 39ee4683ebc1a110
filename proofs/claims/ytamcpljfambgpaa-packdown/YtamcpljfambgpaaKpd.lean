/- PackDown, walked. -/
import Derived.Test.YtamcpljfambgpaaKdm
import Derived.Test.YtamcpljfambgpaaKpl
import Derived.Test.YtamcpljfambgpaaKpf
namespace Go.Proofs.Ytamcpljfambgpaa
open Go.RowKit
set_option linter.unusedSectionVars false
set_option linter.unusedVariables false

theorem good2_any {w : World} {b : Nat} {x y : Int} (h0 : w.cell? ⟨b, 0, none⟩ = some (.int .i64 x)) (h1 : w.cell? ⟨b, 1, none⟩ = some (.int .i64 y)) :
    Calls Try.prog 21 #[.slice (some ⟨b, 0, none⟩) 2 2] w fun e w' => e = .returned (.bool (gdB [x, y])) ∧ w' = w := by
  have h := good_any (L := [x, y]) (n := 2) (w := w) (b := b) rfl (fun j hj => by
    rcases (show j = 0 ∨ j = 1 by omega) with rfl | rfl
    · exact h0
    · exact h1) (by omega)
  exact h

set_option maxHeartbeats 2000000 in
set_option maxRecDepth 100000 in
theorem packDown_walk (q : Option Addr) (l : List Int) (c : Nat) (size : Int) (w : World) (h : Nums w q l) :
    Calls Try.prog 6 #[.slice q l.length c, .int .i64 size] w fun e w' => e = .returned (.bool true) ∧ Below w.heap.size w w' := by
  have hp := packs_any w
  have hNH : Hid (∀ w', Below w.heap.size w w' → Nums w' q l) := fun w' hb => h.below hb (Nat.le_refl _)
  by_cases hk : kc l size = 0
  · have hD : Hid (∀ w2, Below w.heap.size w w2 → Calls Try.prog 9 #[.slice q l.length c, .int .i64 size] w2 fun e w' => (∃ (M g : Nat), Hid (M ≤ l.length ∧ ∀ k, Lst l size k → k ≤ (M : Int) ∧ 2 * (M : Int) ≤ 3 * k) ∧ e = .returned (.tuple #[.slice (some ⟨g, 0, none⟩) l.length l.length, .int .i64 (M : Int), .int .i64 0])) ∧ Below w2.heap.size w2 w') := fun w2 hb => (Down_ok size (hNH.out w2 hb) hk).mono fun e w' ⟨⟨R, hP, hDw, g, he, hr⟩, hb'⟩ => by
      refine ⟨⟨_, g, ⟨?_, fun k hL => ⟨?_, down_half hk hL hP hDw⟩⟩, he⟩, hb'⟩
      · obtain ⟨k1, k2, k3, k4⟩ := kc_ok hk
        have := (fsA_ok k4 R hP.lt).m
        rwa [hP.len] at this
      · have e1 := fits_boxes hk hP
        have := bxR_few (B := (List.range l.length).map (fsA l size R).inn) hk hL (by rw [e1])
        rwa [e1] at this
    by_cases h9 : l.length ≤ 9
    · have hF : Hid (∀ w2, Below w.heap.size w w2 → Calls Try.prog 10 #[.slice q l.length c, .int .i64 size] w2 fun e w' => (∃ k, Hid (Lst l size k) ∧ e = .returned (.tuple #[.int .i64 k, .int .i64 0])) ∧ Below w2.heap.size w2 w') := fun w2 hb => Least_ok (c := c) size (hNH.out w2 hb) hk h9
      have h9H : Hid (l.length ≤ 9) := h9
      clear h hk h9
      go_enter Try.func6, Try.ntmps6
      go_wp2_with (first
        | (go_at_call 20; refine hp.mono ?_; rintro e w2 ⟨rfl, hb⟩; clear hp)
        | (go_at_call 9; refine (hD.out _ hb).mono ?_; rintro e w3 ⟨⟨M, g, hM, rfl⟩, hb3⟩; clear hD; have hb4 := hb.trans (hb3.mono hb.size))
        | (go_at_call 10; refine (hF.out _ hb4).mono ?_; rintro e w5 ⟨⟨k, hL, rfl⟩, hb5⟩; clear hF; have hb6 := hb4.trans (hb5.mono hb4.size))
        | fail)
      have hn9 := heap_alloc_new w5 (.cells #[.int .i64 0, .int .i64 0] 24)
      have hg9 := good2_any ((cell_of_row _ _ 0 _ _ _ hn9).trans rfl) ((cell_of_row _ _ 1 _ _ _ hn9).trans rfl)
      have hbA : Below w.heap.size w (w5.alloc (.cells #[.int .i64 0, .int .i64 0] 24)) := hb6.alloc hb6.size _
      have g2 := (hM.out.2 k hL.out).1
      have g3 : Hid (wrap64 (2 * (M : Int)) ≤ wrap64 (3 * k)) := by
        have a1 := (hM.out.2 k hL.out).2
        have a2 := hM.out.1
        have a3 := h9H.out
        have a4 := hL.out.nn
        have a5 := hL.out.le
        have w1 : wrap64 (2 * (M : Int)) = 2 * (M : Int) := wrap_s (by omega)
        have w2 : wrap64 (3 * k) = 3 * k := wrap_s (by omega)
        show _ ≤ _
        rw [w1, w2]
        exact a1
      clear hn9 hM hL h9H
      rw [show gdB [0, 0] = true from rfl] at hg9
      go_wp2_with (first
        | (go_at_call 21; refine hg9.mono ?_; rintro e w10 ⟨rfl, hw10⟩; have hw11 := hw10.symm; subst hw11; clear hg9)
        | fail)
      go_ret
      exact ⟨ret_b (decide_eq_true g3.out), hbA⟩
    · have hF : Hid (∀ w2, Below w.heap.size w w2 → Calls Try.prog 10 #[.slice q l.length c, .int .i64 size] w2 fun e w' => e = .returned (.tuple #[.int .i64 0, .int .i64 2]) ∧ Below w2.heap.size w2 w') := fun w2 hb => Least_big (c := c) size (hNH.out w2 hb) hk (by omega)
      have h9i : (9 : Int) < (l.length : Int) := by omega
      clear h hk h9
      go_enter Try.func6, Try.ntmps6
      go_wp2_with (first
        | (go_at_call 20; refine hp.mono ?_; rintro e w2 ⟨rfl, hb⟩; clear hp)
        | (go_at_call 9; refine (hD.out _ hb).mono ?_; rintro e w3 ⟨⟨M, g, hM, rfl⟩, hb3⟩; clear hD; have hb4 := hb.trans (hb3.mono hb.size))
        | (go_at_call 10; refine (hF.out _ hb4).mono ?_; rintro e w5 ⟨rfl, hb5⟩; clear hF; have hb6 := hb4.trans (hb5.mono hb4.size))
        | fail)
      have hn9 := heap_alloc_new w5 (.cells #[.int .i64 0, .int .i64 2] 24)
      have hg9 := good2_any ((cell_of_row _ _ 0 _ _ _ hn9).trans rfl) ((cell_of_row _ _ 1 _ _ _ hn9).trans rfl)
      have hbA : Below w.heap.size w (w5.alloc (.cells #[.int .i64 0, .int .i64 2] 24)) := hb6.alloc hb6.size _
      clear hn9 hM
      rw [show gdB [0, 2] = false from rfl] at hg9
      go_wp2_with (first
        | (go_at_call 21; refine hg9.mono ?_; rintro e w10 ⟨rfl, hw10⟩; have hw11 := hw10.symm; subst hw11; clear hg9)
        | fail)
      go_ret
      exact ⟨ret_b (by first | rfl | simp | (simp; omega) | exact decide_eq_true h9i), hbA⟩
  · have hD : Hid (∀ w2, Below w.heap.size w w2 → Calls Try.prog 9 #[.slice q l.length c, .int .i64 size] w2 fun e w' => e = .returned (.tuple #[.slice none 0 0, .int .i64 0, .int .i64 (kc l size)]) ∧ Below w2.heap.size w2 w') := fun w2 hb => Down_bad size (hNH.out w2 hb) hk
    have hF : Hid (∀ w2, Below w.heap.size w w2 → Calls Try.prog 10 #[.slice q l.length c, .int .i64 size] w2 fun e w' => e = .returned (.tuple #[.int .i64 0, .int .i64 (kc l size)]) ∧ Below w2.heap.size w2 w') := fun w2 hb => Least_bad (c := c) size (hNH.out w2 hb) hk
    have hkb : (kc l size != 0) = true := by simpa using hk
    have hgf : gdB [kc l size, kc l size] = false := by simp [gdB, hk]
    clear h hk
    generalize kc l size = z at *
    go_enter Try.func6, Try.ntmps6
    go_wp2_with (first
      | (go_at_call 20; refine hp.mono ?_; rintro e w2 ⟨rfl, hb⟩; clear hp)
      | (go_at_call 9; refine (hD.out _ hb).mono ?_; rintro e w3 ⟨rfl, hb3⟩; clear hD; have hb4 := hb.trans (hb3.mono hb.size))
      | (go_at_call 10; refine (hF.out _ hb4).mono ?_; rintro e w5 ⟨rfl, hb5⟩; clear hF; have hb6 := hb4.trans (hb5.mono hb4.size))
      | fail)
    have hn9 := heap_alloc_new w5 (.cells #[.int .i64 z, .int .i64 z] 24)
    have hg9 := good2_any ((cell_of_row _ _ 0 _ _ _ hn9).trans rfl) ((cell_of_row _ _ 1 _ _ _ hn9).trans rfl)
    have hbA : Below w.heap.size w (w5.alloc (.cells #[.int .i64 z, .int .i64 z] 24)) := hb6.alloc hb6.size _
    rw [hgf] at hg9
    clear hn9 hgf
    go_wp2_with (first
      | (go_at_call 21; refine hg9.mono ?_; rintro e w10 ⟨rfl, hw10⟩; have hw11 := hw10.symm; subst hw11; clear hg9)
      | fail)
    go_ret
    exact ⟨ret_b (by first | rfl | simp), hbA⟩
end Go.Proofs.Ytamcpljfambgpaa
