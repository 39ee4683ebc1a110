/- PackFits, walked. -/
import Derived.Test.YtamcpljfambgpaaKfm
import Derived.Test.YtamcpljfambgpaaKgd
import Derived.Test.YtamcpljfambgpaaKph
namespace Go.Proofs.Ytamcpljfambgpaa
open Go.RowKit
set_option linter.unusedSectionVars false
set_option linter.unusedVariables false

theorem good3_any {w : World} {b : Nat} (h0 : w.cell? ⟨b, 0, none⟩ = some (.int .i64 0)) (h1 : w.cell? ⟨b, 1, none⟩ = some (.int .i64 0)) (h2 : w.cell? ⟨b, 2, none⟩ = some (.int .i64 0)) :
    Calls Try.prog 21 #[.slice (some ⟨b, 0, none⟩) 3 3] w fun e w' => e = .returned (.bool true) ∧ w' = w := by
  have h := good_any (L := [0, 0, 0]) (n := 3) (w := w) (b := b) rfl (fun j hj => by
    rcases (show j = 0 ∨ j = 1 ∨ j = 2 by omega) with rfl | rfl | rfl
    · exact h0
    · exact h1
    · exact h2) (by omega)
  exact h
theorem row_wf {l : List Int} {size : Int} {R : List Nat} (hk : kc l size = 0) (hR : Perm0 l.length R) : ∀ x ∈ (List.range l.length).map (fsA l size R).inn, (Lit.int .i64 x).wf = true := by
  intro x hx
  obtain ⟨k1, k2, k3, k4⟩ := kc_ok hk
  obtain ⟨i, hi, rfl⟩ := List.mem_map.1 hx
  obtain ⟨b, e1, e2⟩ := (inb_all (size := size) hR).lt i hi
  have h3 := (fsA_ok k4 R hR.lt).m
  rw [hR.len] at h3
  exact wf_s (by rw [e1]; omega)

set_option maxHeartbeats 2000000 in
set_option maxRecDepth 100000 in
theorem packFits_walk (q : Option Addr) (l : List Int) (c : Nat) (size : Int) (w : World) (h : Nums w q l) :
    Calls Try.prog 4 #[.slice q l.length c, .int .i64 size] w fun e w' => e = .returned (.bool true) ∧ Below w.heap.size w w' := by
  have hp := packs_any w
  have hNH : Hid (∀ w', Below w.heap.size w w' → Nums w' q l) := fun w' hb => h.below hb (Nat.le_refl _)
  by_cases hk : kc l size = 0
  · obtain ⟨k1, k2, k3, k4⟩ := kc_ok hk
    have hF : Hid (∀ w2, Below w.heap.size w w2 → Calls Try.prog 8 #[.slice q l.length c, .int .i64 size] w2 fun e w' => (∃ (M g : Nat) (B : List Int), e = .returned (.tuple #[.slice (some ⟨g, 0, none⟩) l.length l.length, .int .i64 (M : Int), .int .i64 0]) ∧ M ≤ l.length ∧ Hid (B.length = l.length ∧ (∀ x ∈ B, (Lit.int .i64 x).wf = true) ∧ bxR l B size = ((M : Int), 0)) ∧ Nums w' (some ⟨g, 0, none⟩) B) ∧ Below w2.heap.size w2 w') := fun w2 hb => (First_ok size (hNH.out w2 hb) hk).mono fun e w' ⟨⟨g, he, hr⟩, hb'⟩ => ⟨⟨_, g, _, he, by have := (fsA_ok k4 (List.range l.length) (Perm0.range _).lt).m; rwa [List.length_range] at this, ⟨by simp, row_wf hk (Perm0.range _), fits_boxes hk (Perm0.range _)⟩, nums_row hr⟩, hb'⟩
    have hD : Hid (∀ w2, Below w.heap.size w w2 → Calls Try.prog 9 #[.slice q l.length c, .int .i64 size] w2 fun e w' => (∃ (M g : Nat) (B : List Int), e = .returned (.tuple #[.slice (some ⟨g, 0, none⟩) l.length l.length, .int .i64 (M : Int), .int .i64 0]) ∧ M ≤ l.length ∧ Hid (B.length = l.length ∧ (∀ x ∈ B, (Lit.int .i64 x).wf = true) ∧ bxR l B size = ((M : Int), 0)) ∧ Nums w' (some ⟨g, 0, none⟩) B) ∧ Below w2.heap.size w2 w') := fun w2 hb => (Down_ok size (hNH.out w2 hb) hk).mono fun e w' ⟨⟨R, hP, _, g, he, hr⟩, hb'⟩ => ⟨⟨_, g, _, he, by have := (fsA_ok k4 R hP.lt).m; rwa [hP.len] at this, ⟨by simp, row_wf hk hP, fits_boxes hk hP⟩, nums_row hr⟩, hb'⟩
    have hX : Hid (∀ (w2 : World) (g M : Nat) (B : List Int), Below w.heap.size w w2 → Hid (B.length = l.length ∧ (∀ x ∈ B, (Lit.int .i64 x).wf = true) ∧ bxR l B size = ((M : Int), 0)) → Nums w2 (some ⟨g, 0, none⟩) B → Calls Try.prog 11 #[.slice q l.length c, .int .i64 size, .slice (some ⟨g, 0, none⟩) l.length l.length] w2 fun e w' => e = .returned (.tuple #[.int .i64 (M : Int), .int .i64 0]) ∧ Below w2.heap.size w2 w') := by
      intro w2 g M B hb hB hN
      have h2 := Boxes_any (c := c) (cb := l.length) size (hNH.out w2 hb) hN hB.out.2.1
      rw [hB.out.2.2, hB.out.1] at h2
      exact h2
    clear h hk k1 k2 k3 k4
    go_enter Try.func4, Try.ntmps4
    go_wp2_with (first
      | (go_at_call 20; refine hp.mono ?_; rintro e w2 ⟨rfl, hb⟩; clear hp)
      | (go_at_call 8; refine (hF.out _ hb).mono ?_; rintro e w3 ⟨⟨M, g, B, rfl, hM, hB, hN3⟩, hb3⟩; clear hF; have hMz : (M : Int) ≤ (l.length : Int) := Int.ofNat_le.2 hM; have hb4 := hb.trans (hb3.mono hb.size))
      | (go_at_call 9; refine (hD.out _ hb4).mono ?_; rintro e w5 ⟨⟨M5, g5, B5, rfl, hM5, hB5, hN5⟩, hb5⟩; clear hD; have hMz5 : (M5 : Int) ≤ (l.length : Int) := Int.ofNat_le.2 hM5; have hb6 := hb4.trans (hb5.mono hb4.size); have hN4 := hN3.below hb5 (Nat.le_refl _))
      | (go_at_call 11; first
          | (refine (hX.out _ g M B hb6 hB hN4).mono ?_; rintro e w7 ⟨rfl, hb7⟩; have hb8 := hb6.trans (hb7.mono hb6.size); have hN6 := hN5.below hb7 (Nat.le_refl _); clear hN4 hB)
          | (refine (hX.out _ g5 M5 B5 hb8 hB5 hN6).mono ?_; rintro e w9 ⟨rfl, hb9⟩; have hbX := hb8.trans (hb9.mono hb8.size); clear hN6 hB5))
      | fail)
    have hn9 := heap_alloc_new w9 (.cells #[.int .i64 0, .int .i64 0, .int .i64 0] 24)
    have hg9 := good3_any ((cell_of_row _ _ 0 _ _ _ hn9).trans rfl) ((cell_of_row _ _ 1 _ _ _ hn9).trans rfl) ((cell_of_row _ _ 2 _ _ _ hn9).trans rfl)
    have hbA : Below w.heap.size w (w9.alloc (.cells #[.int .i64 0, .int .i64 0, .int .i64 0] 24)) := hbX.alloc hbX.size _
    have hq1 : ((M : Int) == (M : Int)) = true := by simp
    have hq2 : ((M5 : Int) == (M5 : Int)) = true := by simp
    clear hn9
    go_wp2_with (first
      | (go_at_call 21; refine hg9.mono ?_; rintro e w10 ⟨rfl, hw10⟩; have hw11 := hw10.symm; subst hw11; clear hg9)
      | fail)
    go_ret
    exact ⟨ret_b (by first | rfl | (simp; omega) | simp), hbA⟩
  · have hF : Hid (∀ w2, Below w.heap.size w w2 → Calls Try.prog 8 #[.slice q l.length c, .int .i64 size] w2 fun e w' => e = .returned (.tuple #[.slice none 0 0, .int .i64 0, .int .i64 (kc l size)]) ∧ Below w2.heap.size w2 w') := fun w2 hb => First_bad size (hNH.out w2 hb) hk
    have hD : Hid (∀ w2, Below w.heap.size w w2 → Calls Try.prog 9 #[.slice q l.length c, .int .i64 size] w2 fun e w' => e = .returned (.tuple #[.slice none 0 0, .int .i64 0, .int .i64 (kc l size)]) ∧ Below w2.heap.size w2 w') := fun w2 hb => Down_bad size (hNH.out w2 hb) hk
    have hkb : (kc l size != 0) = true := by simpa using hk
    clear h hk
    go_enter Try.func4, Try.ntmps4
    go_wp2_with (first
      | (go_at_call 20; refine hp.mono ?_; rintro e w2 ⟨rfl, hb⟩; clear hp)
      | (go_at_call 8; refine (hF.out _ hb).mono ?_; rintro e w3 ⟨rfl, hb3⟩; clear hF; have hb4 := hb.trans (hb3.mono hb.size))
      | (go_at_call 9; refine (hD.out _ hb4).mono ?_; rintro e w5 ⟨rfl, hb5⟩; clear hD; have hb6 := hb4.trans (hb5.mono hb4.size))
      | fail)
    go_ret
    exact ⟨ret_b (by first | rfl | simp), hb6⟩
end Go.Proofs.Ytamcpljfambgpaa
