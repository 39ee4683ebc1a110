/- Package list: Long; ListLong, walked. -/
import Derived.Test.YthfpdbogbmccjaaJq
import Derived.Test.YthfpdbogbmccjaaKgd
namespace Go.Proofs.Ythfpdbogbmccjaa
open Go.RowKit
set_option linter.unusedSectionVars false
set_option linter.unusedVariables false

theorem nums_q {w : World} {q : Option Addr} {l : List Int} (h : Nums w q l) : ∀ g o, q = some ⟨g, o, none⟩ → l.length ≠ 0 → g < w.heap.size := fun g o e h0 => by
  rcases h with h1 | ⟨b, o2, e2, hA⟩
  · exact absurd h1 h0
  · rw [e] at e2; cases e2; exact hA.lt

set_option maxHeartbeats 1000000 in
set_option maxRecDepth 100000 in
theorem Long_bad {w : World} {q : Option Addr} {l : List Int} {c : Nat} (m : Int) (h : Nums w q l) (hk : kl m l ≠ 0) :
    Calls Try.prog 8 #[.int .i64 m, .slice q l.length c] w fun e w' => e = .returned (.tuple #[.slice none 0 0, .int .i64 0, .int .i64 (kl m l)]) ∧ Below w.heap.size w w' := by
  have hbA : Below w.heap.size w (w.alloc (.cells #[.slice q l.length c] 22)) := (Below.refl _ _).alloc (Nat.le_refl _) _
  have hc0 : (w.alloc (.cells #[.slice q l.length c] 22)).cell? ⟨w.heap.size, 0, none⟩ = some (.slice q l.length c) := (cell_of_row _ _ 0 _ _ _ (heap_alloc_new w (.cells #[.slice q l.length c] 22))).trans rfl
  have hc := check_any (c := c) m (h.below hbA (Nat.le_refl _))
  have hkb : (kl m l != 0) = true := by simpa using hk
  clear h hk
  go_enter Try.func8, Try.ntmps8
  go_wp2_with (first
    | (go_at_call 22; refine hc.mono ?_; rintro e w2 ⟨rfl, hw'⟩; have hw'' := hw'.symm; subst hw''; clear hc)
    | go_in)
  go_ret3
  exact ⟨rfl, hbA⟩

set_option maxHeartbeats 1000000 in
set_option maxRecDepth 100000 in
theorem Long_ok {w : World} {q : Option Addr} {l : List Int} {c m : Nat} (h : Nums w q l) (hk : kl (m : Int) l = 0) :
    Calls Try.prog 8 #[.int .i64 (m : Int), .slice q l.length c] w fun e w' => (∃ R, Perm0 l.length R ∧ Dwn l R ∧ ∃ g, e = .returned (.tuple #[.slice (some ⟨g, 0, none⟩) l.length l.length, .int .i64 (xm (lsA l m R).W m), .int .i64 0]) ∧ w'.ownsRow w.heap.size 3 1 (.slice (some ⟨g, 0, none⟩) l.length l.length) l.length (numf (lsA l m R).on l.length)) ∧ Below w.heap.size w w' := by
  obtain ⟨k1, k2, k3⟩ := kl_ok hk
  have hbA : Below w.heap.size w (w.alloc (.cells #[.slice q l.length c] 22)) := (Below.refl _ _).alloc (Nat.le_refl _) _
  have hc0 : (w.alloc (.cells #[.slice q l.length c] 22)).cell? ⟨w.heap.size, 0, none⟩ = some (.slice q l.length c) := (cell_of_row _ _ 0 _ _ _ (heap_alloc_new w (.cells #[.slice q l.length c] 22))).trans rfl
  have hhA : (w.alloc (.cells #[.slice q l.length c] 22)).heap.size = w.heap.size + 1 := by simp
  have hNA := h.below hbA (Nat.le_refl _)
  have hc : Calls Try.prog 22 #[.int .i64 (m : Int), .slice q l.length c] (w.alloc (.cells #[.slice q l.length c] 22)) fun e w' => e = .returned (.int .i64 0) ∧ Below (w.alloc (.cells #[.slice q l.length c] 22)).heap.size (w.alloc (.cells #[.slice q l.length c] 22)) w' := by
    have h2 := check_any (c := c) (m : Int) hNA
    rw [hk] at h2
    exact h2.mono fun e w' ⟨a, b⟩ => ⟨a, by rw [b]; exact Below.refl _ _⟩
  have hq := nums_q h
  have hio : Hid (∀ w2, Calls Try.prog 24 #[.slice q l.length c] w2 fun e w' => e = .returned (.slice (some ⟨w2.heap.size, 0, none⟩) l.length l.length) ∧ w'.ownsRow w2.heap.size 3 1 (.slice (some ⟨w2.heap.size, 0, none⟩) l.length l.length) l.length (numf (fun j => (j : Int)) l.length) ∧ Below w2.heap.size w2 w') := fun w2 => inOrder_any q (by omega)
  have hbAH : Hid (Below w.heap.size w (w.alloc (.cells #[.slice q l.length c] 22))) := hbA
  have hszH : Hid (w.heap.size < (w.alloc (.cells #[.slice q l.length c] 22)).heap.size) := by show _ < _; omega
  have hso : Hid (∀ (w3 : World) (g cap : Nat), Below (w.alloc (.cells #[.slice q l.length c] 22)).heap.size (w.alloc (.cells #[.slice q l.length c] 22)) w3 → (w.alloc (.cells #[.slice q l.length c] 22)).heap.size ≤ g → w3.ownsRow g 3 1 (.slice (some ⟨g, 0, none⟩) l.length cap) l.length (numf (fun j => (j : Int)) l.length) →
      Calls Try.prog 25 #[.slice (some ⟨g, 0, none⟩) l.length cap, .func (.func 26) #[] #[.pointer (some ⟨w.heap.size, 0, none⟩)]] w3 fun e w' => e = .returned (.tuple #[]) ∧ Below g w3 w' ∧ ∃ R, Perm0 l.length R ∧ Dwn l R ∧ Nums w' (some ⟨g, 0, none⟩) (R.map fun (i : Nat) => (i : Int))) := by
    intro w3 g cap hb hg hr
    exact sortD_any (c := c) rfl (by omega) (hNA.below hb (Nat.le_refl _)) (fun g' o e h0 => by have := hq g' o e h0; omega) ((hb.cell (p := ⟨w.heap.size, 0, none⟩) hszH.out).trans hc0) (by have := hszH.out; omega) hr
  have hfi : Hid (∀ (w3 : World) (qr : Option Addr) (cr : Nat) (R : List Nat), Below (w.alloc (.cells #[.slice q l.length c] 22)).heap.size (w.alloc (.cells #[.slice q l.length c] 22)) w3 → Perm0 l.length R → Nums w3 qr (R.map fun (i : Nat) => (i : Int)) → Calls Try.prog 23 #[.int .i64 (m : Int), .slice q l.length c, .slice qr l.length cr] w3 fun e w' => (∃ g, e = .returned (.tuple #[.slice (some ⟨g, 0, none⟩) l.length l.length, .int .i64 (xm (lsA l m R).W m)]) ∧ w'.ownsRow w3.heap.size 3 1 (.slice (some ⟨g, 0, none⟩) l.length l.length) l.length (numf (lsA l m R).on l.length)) ∧ Below w3.heap.size w3 w') := by
    intro w3 qr cr R hb hP hN
    have h2 := share_any (cl := c) (cr := cr) (m := m) (hNA.below hb (Nat.le_refl _)) hN (by omega) (by rw [hP.len]; omega) (by omega) k3 hP.lt
    rwa [hP.len] at h2
  have hcell : Hid (∀ w3, Below (w.alloc (.cells #[.slice q l.length c] 22)).heap.size (w.alloc (.cells #[.slice q l.length c] 22)) w3 → w3.cell? ⟨w.heap.size, 0, none⟩ = some (.slice q l.length c)) := fun w3 hb => (hb.cell (p := ⟨w.heap.size, 0, none⟩) hszH.out).trans hc0
  have hb0 : Hid (Below (w.alloc (.cells #[.slice q l.length c] 22)).heap.size (w.alloc (.cells #[.slice q l.length c] 22)) (w.alloc (.cells #[.slice q l.length c] 22))) := Below.refl _ _
  clear h hk k1 k2 k3 hbA hNA hq hhA
  go_enter Try.func8, Try.ntmps8
  go_wp2_with (first
    | (go_at_call 22; refine hc.mono ?_; rintro e w2 ⟨rfl, hb⟩; clear hc hc0; have z2 := hcell.out w2 hb)
    | (go_at_call 24; refine (hio.out _).mono ?_; rintro e w3 ⟨rfl, hr3, hb3⟩; clear hio z2; have hb4 := hb.trans (hb3.mono hb.size))
    | (go_at_call 25; refine (hso.out _ _ _ hb4 hb.size hr3).mono ?_; rintro e w5 ⟨rfl, hb5, R, hP, hD, hN5⟩; clear hso; have hb6 := hb4.trans (hb5.mono hb.size); have z5 := hcell.out w5 hb6)
    | (go_at_call 23; refine (hfi.out _ _ _ R hb6 hP hN5).mono ?_; rintro e w7 ⟨⟨g, rfl, hr7⟩, hb7⟩; clear hfi z5)
    | fail)
  go_ret3
  have hb8 := hbAH.out.trans (hb6.mono (Nat.le_of_lt hszH.out))
  exact ⟨⟨R, hP, hD, g, rfl, owns_base' hr7 hb8.size⟩, hb8.trans (hb7.mono hb8.size)⟩

set_option maxRecDepth 100000 in
theorem good2_any {w : World} {b : Nat} {x y : Int} (h0 : w.cell? ⟨b, 0, none⟩ = some (.int .i64 x)) (h1 : w.cell? ⟨b, 1, none⟩ = some (.int .i64 y)) :
    Calls Try.prog 21 #[.slice (some ⟨b, 0, none⟩) 2 2] w fun e w' => e = .returned (.bool (gdB [x, y])) ∧ w' = w :=
  good_any (L := [x, y]) rfl (fun j hj => by
    rcases (show j = 0 ∨ j = 1 by omega) with rfl | rfl
    · exact h0
    · exact h1) (by omega)

/-- What ListLong asks. -/
theorem long_all {l : List Int} {m : Nat} {R : List Nat} {v : Int} (hm : 1 ≤ m ∧ m ≤ 20) (hl : ∀ x ∈ l, 0 ≤ x ∧ x ≤ 1000000000) (hn : l.length ≤ 60) (hR : Perm0 l.length R) (hD : Dwn l R) (hv : Bst l m (2 ^ l.length - 1) v) :
    v ≤ xm (lsA l m R).W m ∧ wrap64 (wrap64 (3 * (m : Int)) * xm (lsA l m R).W m) ≤ wrap64 (wrap64 (wrap64 (4 * (m : Int)) - 1) * v) := by
  have hl0 : ∀ x ∈ l, 0 ≤ x := fun x hx => (hl x hx).1
  have h1 := lpt hR hD hl0 hm.1 hv.way
  have hb : ∀ b, 0 ≤ (lsA l m R).W b ∧ (lsA l m R).W b ≤ 1000000000000 := lsA_b60 hl hR.lt (by rw [hR.len]; omega)
  obtain ⟨c, hc, e⟩ := xm_is (lsA l m R).W hm.1
  have hbx := hb c
  rw [← e] at hbx
  have hon := lsA_on (l := l) hm.1 R ⟨fun _ => 0, fun _ => 0⟩ (fun i => ⟨Int.le_refl _, by show (0 : Int) < m; omega⟩)
  have h2 : v ≤ xm (lsA l m R).W m := by
    rw [xm_congr hm.1 fun b _ => lsA_spF hm.1 hR b]
    exact lo_all hv.lo (fun i _ => hon i) hm.1
  refine ⟨h2, ?_⟩
  generalize xm (lsA l m R).W m = S at *
  have e1 := mul20 (a := (m : Int)) (b := S) (by omega) hbx
  have e2 := mul20 (a := (m : Int)) (b := v) (by omega) (by have := hv.b; omega)
  have hvb := hv.b
  have w1 : wrap64 (3 * (m : Int)) = 3 * (m : Int) := wrap_s (by omega)
  have w2 : wrap64 (4 * (m : Int)) = 4 * (m : Int) := wrap_s (by omega)
  have w3 : wrap64 (4 * (m : Int) - 1) = 4 * (m : Int) - 1 := wrap_s (by omega)
  have m1 : 3 * (m : Int) * S = 3 * ((m : Int) * S) := Int.mul_assoc _ _ _
  have m2 : (4 * (m : Int) - 1) * v = 4 * ((m : Int) * v) - v := by rw [Int.sub_mul, Int.mul_assoc]; omega
  have w4 : wrap64 (3 * (m : Int) * S) = 3 * (m : Int) * S := wrap_s (by omega)
  have w5 : wrap64 ((4 * (m : Int) - 1) * v) = (4 * (m : Int) - 1) * v := wrap_s (by omega)
  rw [w1, w2, w3, w4, w5, m1, m2]
  exact h1

set_option maxHeartbeats 2000000 in
set_option maxRecDepth 100000 in
theorem listLong_walk (m : Int) (q : Option Addr) (l : List Int) (c : Nat) (w : World) (h : Nums w q l) :
    Calls Try.prog 5 #[.int .i64 m, .slice q l.length c] w fun e w' => e = .returned (.bool true) ∧ Below w.heap.size w w' := by
  have hp := lists_any w
  have hNH : Hid (∀ w', Below w.heap.size w w' → Nums w' q l) := fun w' hb => h.below hb (Nat.le_refl _)
  by_cases hk : kl m l = 0
  · obtain ⟨k1, k2, k3⟩ := kl_ok hk
    obtain ⟨m, rfl⟩ : ∃ n : Nat, m = (n : Int) := ⟨m.toNat, by omega⟩
    have hD : Hid (∀ w2, Below w.heap.size w w2 → Calls Try.prog 8 #[.int .i64 (m : Int), .slice q l.length c] w2 fun e w' => (∃ (S : Int) (g : Nat), Hid (∀ v, Bst l m (2 ^ l.length - 1) v → v ≤ S ∧ wrap64 (wrap64 (3 * (m : Int)) * S) ≤ wrap64 (wrap64 (wrap64 (4 * (m : Int)) - 1) * v)) ∧ e = .returned (.tuple #[.slice (some ⟨g, 0, none⟩) l.length l.length, .int .i64 S, .int .i64 0])) ∧ Below w2.heap.size w2 w') := fun w2 hb => (Long_ok (hNH.out w2 hb) hk).mono fun e w' ⟨⟨R, hP, hDw, g, he, hr⟩, hb'⟩ =>
      ⟨⟨_, g, fun v hv => long_all (by omega) k3 k2 hP hDw hv, he⟩, hb'⟩
    by_cases h9 : l.length ≤ 9
    · have hF : Hid (∀ w2, Below w.heap.size w w2 → Calls Try.prog 9 #[.int .i64 (m : Int), .slice q l.length c] w2 fun e w' => (∃ v, Hid (Bst l m (2 ^ l.length - 1) v) ∧ e = .returned (.tuple #[.int .i64 v, .int .i64 0])) ∧ Below w2.heap.size w2 w') := fun w2 hb => (Least_ok (c := c) (hNH.out w2 hb) hk h9).mono fun e w' ⟨⟨v, he, hv⟩, hb'⟩ => ⟨⟨v, hv, he⟩, hb'⟩
      clear h hk h9 k1 k2 k3
      generalize 2 ^ l.length - 1 = full at *
      go_enter Try.func5, Try.ntmps5
      go_wp2_with (first
        | (go_at_call 19; refine hp.mono ?_; rintro e w2 ⟨rfl, hb⟩; clear hp)
        | (go_at_call 8; refine (hD.out _ hb).mono ?_; rintro e w3 ⟨⟨S, g, hS, rfl⟩, hb3⟩; clear hD; have hb4 := hb.trans (hb3.mono hb.size))
        | (go_at_call 9; refine (hF.out _ hb4).mono ?_; rintro e w5 ⟨⟨k, hL, rfl⟩, hb5⟩; clear hF; have hb6 := hb4.trans (hb5.mono hb4.size))
        | fail)
      have hn9 := heap_alloc_new w5 (.cells #[.int .i64 0, .int .i64 0] 24)
      have hg9 := good2_any ((cell_of_row _ _ 0 _ _ _ hn9).trans rfl) ((cell_of_row _ _ 1 _ _ _ hn9).trans rfl)
      have hbA : Below w.heap.size w (w5.alloc (.cells #[.int .i64 0, .int .i64 0] 24)) := hb6.alloc hb6.size _
      have g2 := (hS.out k hL.out).1
      have g3 : Hid (wrap64 (wrap64 (3 * (m : Int)) * S) ≤ wrap64 (wrap64 (wrap64 (4 * (m : Int)) - 1) * k)) := (hS.out k hL.out).2
      clear hn9 hS hL
      rw [show gdB [0, 0] = true from rfl] at hg9
      go_wp2_with (first
        | (go_at_call 21; refine hg9.mono ?_; rintro e w10 ⟨rfl, hw10⟩; have hw11 := hw10.symm; subst hw11; clear hg9)
        | fail)
      go_ret
      exact ⟨ret_b (decide_eq_true g3.out), hbA⟩
    · have hF : Hid (∀ w2, Below w.heap.size w w2 → Calls Try.prog 9 #[.int .i64 (m : Int), .slice q l.length c] w2 fun e w' => e = .returned (.tuple #[.int .i64 0, .int .i64 2]) ∧ w' = w2) := fun w2 hb => Least_big _ (hNH.out w2 hb) hk (by omega)
      have h9i : (9 : Int) < (l.length : Int) := by omega
      clear h hk h9 k1 k2 k3
      generalize 2 ^ l.length - 1 = full at *
      go_enter Try.func5, Try.ntmps5
      go_wp2_with (first
        | (go_at_call 19; refine hp.mono ?_; rintro e w2 ⟨rfl, hb⟩; clear hp)
        | (go_at_call 8; refine (hD.out _ hb).mono ?_; rintro e w3 ⟨⟨S, g, hS, rfl⟩, hb3⟩; clear hD; have hb4 := hb.trans (hb3.mono hb.size))
        | (go_at_call 9; refine (hF.out _ hb4).mono ?_; rintro e w5 ⟨rfl, hw5⟩; have hw6 := hw5.symm; subst hw6; clear hF)
        | fail)
      have hn9 := heap_alloc_new w3 (.cells #[.int .i64 0, .int .i64 2] 24)
      have hg9 := good2_any ((cell_of_row _ _ 0 _ _ _ hn9).trans rfl) ((cell_of_row _ _ 1 _ _ _ hn9).trans rfl)
      have hbA : Below w.heap.size w (w3.alloc (.cells #[.int .i64 0, .int .i64 2] 24)) := hb4.alloc hb4.size _
      clear hn9 hS
      rw [show gdB [0, 2] = false from rfl] at hg9
      go_wp2_with (first
        | (go_at_call 21; refine hg9.mono ?_; rintro e w10 ⟨rfl, hw10⟩; have hw11 := hw10.symm; subst hw11; clear hg9)
        | fail)
      go_ret
      exact ⟨ret_b (by first | rfl | simp | (simp; omega) | exact decide_eq_true h9i), hbA⟩
  · have hD : Hid (∀ w2, Below w.heap.size w w2 → Calls Try.prog 8 #[.int .i64 m, .slice q l.length c] w2 fun e w' => e = .returned (.tuple #[.slice none 0 0, .int .i64 0, .int .i64 (kl m l)]) ∧ Below w2.heap.size w2 w') := fun w2 hb => Long_bad m (hNH.out w2 hb) hk
    have hF : Hid (∀ w2, Below w.heap.size w w2 → Calls Try.prog 9 #[.int .i64 m, .slice q l.length c] w2 fun e w' => e = .returned (.tuple #[.int .i64 0, .int .i64 (kl m l)]) ∧ w' = w2) := fun w2 hb => Least_bad m (hNH.out w2 hb) hk
    have hkb : (kl m l != 0) = true := by simpa using hk
    have hgf : gdB [kl m l, kl m l] = false := by simp [gdB, hk]
    clear h hk
    generalize kl m l = z at *
    go_enter Try.func5, Try.ntmps5
    go_wp2_with (first
      | (go_at_call 19; refine hp.mono ?_; rintro e w2 ⟨rfl, hb⟩; clear hp)
      | (go_at_call 8; refine (hD.out _ hb).mono ?_; rintro e w3 ⟨rfl, hb3⟩; clear hD; have hb4 := hb.trans (hb3.mono hb.size))
      | (go_at_call 9; refine (hF.out _ hb4).mono ?_; rintro e w5 ⟨rfl, hw5⟩; have hw6 := hw5.symm; subst hw6; clear hF)
      | fail)
    have hn9 := heap_alloc_new w3 (.cells #[.int .i64 z, .int .i64 z] 24)
    have hg9 := good2_any ((cell_of_row _ _ 0 _ _ _ hn9).trans rfl) ((cell_of_row _ _ 1 _ _ _ hn9).trans rfl)
    have hbA : Below w.heap.size w (w3.alloc (.cells #[.int .i64 z, .int .i64 z] 24)) := hb4.alloc hb4.size _
    rw [hgf] at hg9
    clear hn9
    go_wp2_with (first
      | (go_at_call 21; refine hg9.mono ?_; rintro e w10 ⟨rfl, hw10⟩; have hw11 := hw10.symm; subst hw11; clear hg9)
      | fail)
    go_ret
    exact ⟨ret_b (by first | rfl | simp), hbA⟩
end Go.Proofs.Ythfpdbogbmccjaa
