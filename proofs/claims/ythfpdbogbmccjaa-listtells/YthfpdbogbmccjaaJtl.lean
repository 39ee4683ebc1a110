/- ListTells, walked. -/
import Derived.Test.YthfpdbogbmccjaaJsh
namespace Go.Proofs.Ythfpdbogbmccjaa
open Go.RowKit
set_option linter.unusedSectionVars false
set_option linter.unusedVariables false

set_option maxHeartbeats 2000000 in
set_option maxRecDepth 100000 in
theorem listTells_bad (m : Int) (q : Option Addr) (l : List Int) (c : Nat) (qb : Option Addr) (B : List Int) (cb : Nat) (w : World) (h : Nums w q l) (hk : kl m l ≠ 0) :
    Calls Try.prog 3 #[.int .i64 m, .slice q l.length c, .slice qb B.length cb] w fun e w' => e = .returned (.bool true) ∧ Below w.heap.size w w' := by
  have hNH : Hid (∀ w', Below w.heap.size w w' → Nums w' q l) := fun w' hb => h.below hb (Nat.le_refl _)
  have hA : Hid (∀ w2, Below w.heap.size w w2 → Calls Try.prog 7 #[.int .i64 m, .slice q l.length c] w2 fun e w' => e = .returned (.tuple #[.slice none 0 0, .int .i64 0, .int .i64 (kl m l)]) ∧ w' = w2) := fun w2 hb => Run_bad m (hNH.out w2 hb) hk
  have hD : Hid (∀ w2, Below w.heap.size w w2 → Calls Try.prog 8 #[.int .i64 m, .slice q l.length c] w2 fun e w' => e = .returned (.tuple #[.slice none 0 0, .int .i64 0, .int .i64 (kl m l)]) ∧ Below w2.heap.size w2 w') := fun w2 hb => Long_bad m (hNH.out w2 hb) hk
  have hF : Hid (∀ w2, Below w.heap.size w w2 → Calls Try.prog 9 #[.int .i64 m, .slice q l.length c] w2 fun e w' => e = .returned (.tuple #[.int .i64 0, .int .i64 (kl m l)]) ∧ w' = w2) := fun w2 hb => Least_bad m (hNH.out w2 hb) hk
  have hX : Hid (∀ w2, Below w.heap.size w w2 → Calls Try.prog 10 #[.int .i64 m, .slice q l.length c, .slice qb B.length cb] w2 fun e w' => e = .returned (.tuple #[.int .i64 0, .int .i64 (kl m l)]) ∧ w' = w2) := fun w2 hb => Span_bad m (hNH.out w2 hb) hk
  have hT : Hid (∀ w2, Below w.heap.size w w2 → Calls Try.prog 11 #[.int .i64 m, .slice q l.length c] w2 fun e w' => e = .returned (.int .i64 (kl m l)) ∧ w' = w2) := fun w2 hb => fault_any m (hNH.out w2 hb)
  have hkb : (kl m l != 0) = true := by simpa using hk
  have hkk : (kl m l == kl m l) = true := by simp
  clear h hk
  generalize kl m l = z at *
  have hb0 : Below w.heap.size w w := Below.refl _ _
  go_enter Try.func3, Try.ntmps3
  go_wp2_with (first
    | (go_at_call 7; refine (hA.out _ hb0).mono ?_; rintro e w3 ⟨rfl, hw3⟩; have hw4 := hw3.symm; subst hw4; clear hA)
    | (go_at_call 8; refine (hD.out _ hb0).mono ?_; rintro e w5 ⟨rfl, hb5⟩; clear hD; have hb6 := hb0.trans (hb5.mono hb0.size))
    | (go_at_call 9; refine (hF.out _ hb6).mono ?_; rintro e w7 ⟨rfl, hw7⟩; have hw8 := hw7.symm; subst hw8; clear hF)
    | (go_at_call 10; refine (hX.out _ hb6).mono ?_; rintro e w9 ⟨rfl, hw9⟩; have hwA := hw9.symm; subst hwA; clear hX)
    | (go_at_call 11; refine (hT.out _ hb6).mono ?_; rintro e w10 ⟨rfl, hw10⟩; have hw11 := hw10.symm; subst hw11; clear hT)
    | fail)
  go_ret
  exact ⟨ret_b (by first | rfl | simp), hb6⟩

set_option maxHeartbeats 4000000 in
set_option maxRecDepth 100000 in
theorem listTells_sy (m : Nat) (q : Option Addr) (l : List Int) (c : Nat) (qb : Option Addr) (B : List Int) (cb : Nat) (w : World) (h : Nums w q l) (hB : Nums w qb B) (hc : l.length ≤ c) (hk : kl (m : Int) l = 0) (h9 : l.length ≤ 9) (hL : B.length = l.length ∧ B.all (hdB m) = true) :
    Calls Try.prog 3 #[.int .i64 (m : Int), .slice q l.length c, .slice qb B.length cb] w fun e w' => e = .returned (.bool true) ∧ Below w.heap.size w w' := by
  obtain ⟨k1, k2, k3⟩ := kl_ok hk
  have hm : 1 ≤ m ∧ m ≤ 20 := by omega
  have hNH : Hid (∀ w', Below w.heap.size w w' → Nums w' q l) := fun w' hb => h.below hb (Nat.le_refl _)
  have hNB : Hid (∀ w', Below w.heap.size w w' → Nums w' qb B) := fun w' hb => hB.below hb (Nat.le_refl _)
  have hRn : Hid (∀ w2, Below w.heap.size w w2 → Calls Try.prog 7 #[.int .i64 (m : Int), .slice q l.length c] w2 fun e w' => (∃ g, e = .returned (.tuple #[.slice (some ⟨g, 0, none⟩) l.length l.length, .int .i64 (xm (lsA l m (List.range l.length)).W m), .int .i64 0]) ∧ w'.ownsRow w2.heap.size 3 1 (.slice (some ⟨g, 0, none⟩) l.length l.length) l.length (numf (lsA l m (List.range l.length)).on l.length)) ∧ Below w2.heap.size w2 w') := fun w2 hb => Run_ok (hNH.out w2 hb) hk
  have hLg : Hid (∀ w2, Below w.heap.size w w2 → Calls Try.prog 8 #[.int .i64 (m : Int), .slice q l.length c] w2 fun e w' => (∃ R, Hid (Perm0 l.length R ∧ Dwn l R) ∧ ∃ g, e = .returned (.tuple #[.slice (some ⟨g, 0, none⟩) l.length l.length, .int .i64 (xm (lsA l m R).W m), .int .i64 0]) ∧ w'.ownsRow w2.heap.size 3 1 (.slice (some ⟨g, 0, none⟩) l.length l.length) l.length (numf (lsA l m R).on l.length)) ∧ Below w2.heap.size w2 w') := fun w2 hb => (Long_ok (hNH.out w2 hb) hk).mono fun e w' ⟨⟨R, hP, hD, g, he, hr⟩, hb'⟩ => ⟨⟨R, ⟨hP, hD⟩, g, he, hr⟩, hb'⟩
  have hLe : Hid (∀ w2, Below w.heap.size w w2 → Calls Try.prog 9 #[.int .i64 (m : Int), .slice q l.length c] w2 fun e w' => (∃ v, Hid (Bst l m (2 ^ l.length - 1) v) ∧ e = .returned (.tuple #[.int .i64 v, .int .i64 0])) ∧ Below w2.heap.size w2 w') := fun w2 hb => (Least_ok (c := c) (hNH.out w2 hb) hk h9).mono fun e w' ⟨⟨v, he, hv⟩, hb'⟩ => ⟨⟨v, hv, he⟩, hb'⟩
  have hSS : Hid (∀ (w2 : World) (v : Int), Below w.heap.size w w2 → Bst l m (2 ^ l.length - 1) v → Calls Try.prog 16 #[.int .i64 (m : Int), .slice q l.length c] w2 fun e w' => e = .returned (.int .i64 v) ∧ Below w2.heap.size w2 w') := fun w2 v hb hv => ShortestSpan_any (hNH.out w2 hb) hc hk h9 hv
  have hSp : Hid (∀ w2, Below w.heap.size w w2 → Calls Try.prog 10 #[.int .i64 (m : Int), .slice q l.length c, .slice qb B.length cb] w2 fun e w' => e = .returned (.tuple #[.int .i64 (xm (spF l (nm B) l.length) m), .int .i64 0]) ∧ Below w2.heap.size w2 w') := fun w2 hb => by
    have h2 := Span_ok (m := m) (c := c) (cb := cb) (hNH.out w2 hb) (hNB.out w2 hb) hk
    have e : spR m l B = ((xm (spF l (nm B) l.length) m), 0) := by unfold spR; rw [if_pos hL]
    rw [e] at h2
    exact h2
  have hFt : Hid (∀ w2, Below w.heap.size w w2 → Calls Try.prog 11 #[.int .i64 (m : Int), .slice q l.length c] w2 fun e w' => e = .returned (.int .i64 0) ∧ w' = w2) := fun w2 hb => by
    have h2 := fault_any (c := c) (m : Int) (hNH.out w2 hb)
    rw [hk] at h2
    exact h2
  have hUp : Hid (∀ w2, Calls Try.prog 13 #[.int .i64 (l.length : Int)] w2 fun e w' => e = .returned (.slice (some ⟨w2.heap.size, 0, none⟩) l.length l.length) ∧ w'.ownsRow w2.heap.size 3 1 (.slice (some ⟨w2.heap.size, 0, none⟩) l.length l.length) l.length (numf (fun j => (j : Int)) l.length) ∧ Below w2.heap.size w2 w') := fun w2 => upTo_any (by omega)
  have hWk : Hid (∀ (w2 : World) (qr : Option Addr) (cr : Nat) (R : List Nat), Below w.heap.size w w2 → Perm0 l.length R → Nums w2 qr (R.map fun (i : Nat) => (i : Int)) → Calls Try.prog 12 #[.int .i64 (m : Int), .slice q l.length c, .slice qr l.length cr] w2 fun e w' => (∃ g, e = .returned (.tuple #[.slice (some ⟨g, 0, none⟩) l.length l.length, .int .i64 (xm (lsA l m R).W m)]) ∧ w'.ownsRow w2.heap.size 3 1 (.slice (some ⟨g, 0, none⟩) l.length l.length) l.length (numf (lsA l m R).on l.length)) ∧ Below w2.heap.size w2 w') := fun w2 qr cr R hb hP hN => by
    have h2 := Worked_any (cl := c) (cr := cr) (m := m) (hNH.out w2 hb) hN (by omega) (by rw [hP.len]; omega) hm k3 hP.lt
    rw [hP.len] at h2
    rw [mst_xm hm.1 fun b _ => (lsA_b60 (m := m) k3 hP.lt (by rw [hP.len]; omega) b).1] at h2
    exact h2
  have hDw : Hid (∀ w2, Below w.heap.size w w2 → Calls Try.prog 14 #[.slice q l.length c] w2 fun e w' => DwO l w2.heap.size e w' ∧ Below w2.heap.size w2 w') := fun w2 hb => downward_any (hNH.out w2 hb) (by omega)
  have hEq : Hid (∀ (w2 : World) (E : Nat → Int) (p1 p2 : Option Addr) (c1 c2 B1 B2 : Nat), w2.ownsRow B1 3 1 (.slice p1 l.length c1) l.length (numf E l.length) → w2.ownsRow B2 3 1 (.slice p2 l.length c2) l.length (numf E l.length) → Calls Try.prog 15 #[.slice p1 l.length c1, .slice p2 l.length c2] w2 fun e w' => e = .returned (.bool true) ∧ Below w2.heap.size w2 w') := fun w2 E p1 p2 c1 c2 B1 B2 h1 h2 => equal_n h1 h2 (by omega)
  have hEq2 := hEq
  have hWk2 := hWk
  have hPr : Hid (Perm0 l.length (List.range l.length)) := Perm0.range _
  have hLd : Hid (∀ w2, Below w.heap.size w w2 → Calls Try.prog 17 #[.int .i64 (m : Int), .slice q l.length c, .slice qb B.length cb] w2 fun e w' => (∃ (p : Option Addr) (c2 : Nat), e = .returned (.tuple #[.slice p m c2, .bool true]) ∧ Hid (Calls Try.prog 18 #[.slice p m c2] w' fun e2 w2' => e2 = .returned (.int .i64 (xm (spF l (nm B) l.length) m)) ∧ w2' = w')) ∧ Below w2.heap.size w2 w') := fun w2 hb => (Loads_any (c := c) (cb := cb) (hNH.out w2 hb) (hNB.out w2 hb) hk).mono fun e w' ⟨ho, hb'⟩ => by
    rcases ho with ⟨_, _, p, c2, he, hr⟩ | ⟨hn, _⟩
    · exact ⟨⟨p, c2, he, Max_any hr hm.1 (by omega)⟩, hb'⟩
    · exact absurd hL hn
  have hnn : ¬ (l.length : Int) < 0 := by omega
  have h9i : ¬ (9 : Int) < (l.length : Int) := by omega
  clear h hB hc hk h9 hL k1 k2 k3 hm
  generalize 2 ^ l.length - 1 = full at *
  have A0 : Below w.heap.size w w := Below.refl _ _
  go_enter Try.func3, Try.ntmps3
  go_wp2_with (first
    | (go_at_call 7; refine (hRn.out _ A0).mono ?_; rintro e w1 ⟨⟨ga, rfl, ra⟩, hb1⟩; clear hRn; have A1 := A0.trans (hb1.mono A0.size))
    | (go_at_call 8; refine (hLg.out _ A1).mono ?_; rintro e w2 ⟨⟨R, hR, gb, rfl, rb⟩, hb2⟩; clear hLg; have A2 := A1.trans (hb2.mono A1.size); have B2 := hb2)
    | (go_at_call 9; refine (hLe.out _ A2).mono ?_; rintro e w3 ⟨⟨v, hv, rfl⟩, hb3⟩; clear hLe; have A3 := A2.trans (hb3.mono A2.size); have B3 := B2.trans (hb3.mono B2.size); have C3 := hb3)
    | (go_at_call 10; refine (hSp.out _ A3).mono ?_; rintro e w4 ⟨rfl, hb4⟩; clear hSp; have A4 := A3.trans (hb4.mono A3.size); have B4 := B3.trans (hb4.mono B3.size); have C4 := C3.trans (hb4.mono C3.size))
    | (go_at_call 11; refine (hFt.out _ A4).mono ?_; rintro e w41 ⟨rfl, hw41⟩; have hw42 := hw41.symm; subst hw42; clear hFt)
    | (go_at_call 13; refine (hUp.out _).mono ?_; rintro e w5 ⟨rfl, ru, hb5⟩; clear hUp; have A5 := A4.trans (hb5.mono A4.size); have B5 := B4.trans (hb5.mono B4.size); have C5 := C4.trans (hb5.mono C4.size); have nu := nums_row ru; clear ru)
    | (go_at_call 12; refine (hWk.out _ _ _ _ A5 hPr.out nu).mono ?_; rintro e w6 ⟨⟨gx, rfl, rx⟩, hb6⟩; clear hWk nu; have A6 := A5.trans (hb6.mono A5.size); have B6 := B5.trans (hb6.mono B5.size); have C6 := C5.trans (hb6.mono C5.size))
    | (go_at_call 14; refine (hDw.out _ A6).mono ?_; rintro e w7 ⟨hdw, hb7⟩; obtain ⟨P, q7, c7, hP, rfl, r7⟩ := hdw; have eP := dwn_uniq hR.out.1 hR.out.2 hP; subst eP; have n7 := nums_row r7; rw [pgd_map hR.out.1.len] at n7; clear hDw r7 hP; have A7 := A6.trans (hb7.mono A6.size); have B7 := B6.trans (hb7.mono B6.size); have C7 := C6.trans (hb7.mono C6.size); have D7 := hb7)
    | (go_at_call 12; refine (hWk2.out _ _ _ _ A7 hR.out.1 n7).mono ?_; rintro e w8 ⟨⟨gy, rfl, ry⟩, hb8⟩; clear hWk2 n7; have A8 := A7.trans (hb8.mono A7.size); have B8 := B7.trans (hb8.mono B7.size); have C8 := C7.trans (hb8.mono C7.size); have D8 := D7.trans (hb8.mono D7.size))
    | (go_at_call 15; refine (hEq.out _ _ _ _ _ _ _ _ (row_below ra B8) (row_below rx D8)).mono ?_; rintro e w9 ⟨rfl, hb9⟩; clear hEq ra rx; have A9 := A8.trans (hb9.mono A8.size); have C9 := C8.trans (hb9.mono C8.size); have E9 := hb9)
    | (go_at_call 15; refine (hEq2.out _ _ _ _ _ _ _ _ (row_below rb C9) (row_below ry E9)).mono ?_; rintro e w10 ⟨rfl, hb10⟩; clear hEq2 rb ry; have A10 := A9.trans (hb10.mono A9.size))
    | (go_at_call 16; refine (hSS.out _ _ A10 hv.out).mono ?_; rintro e w11 ⟨rfl, hb11⟩; clear hSS; have A11 := A10.trans (hb11.mono A10.size))
    | (go_at_call 17; refine (hLd.out _ A11).mono ?_; rintro e w12 ⟨⟨p12, c12, rfl, hmx⟩, hb12⟩; clear hLd; have A12 := A11.trans (hb12.mono A11.size))
    | (go_at_call 18; refine hmx.out.mono ?_; rintro e w13 ⟨rfl, hw13⟩; have hw14 := hw13.symm; subst hw14; clear hmx)
    | fail)
  go_ret
  exact ⟨ret_b (by first | rfl | simp), A12⟩

set_option maxHeartbeats 4000000 in
set_option maxRecDepth 100000 in
theorem listTells_sn (m : Nat) (q : Option Addr) (l : List Int) (c : Nat) (qb : Option Addr) (B : List Int) (cb : Nat) (w : World) (h : Nums w q l) (hB : Nums w qb B) (hc : l.length ≤ c) (hk : kl (m : Int) l = 0) (h9 : l.length ≤ 9) (hL : ¬ (B.length = l.length ∧ B.all (hdB m) = true)) :
    Calls Try.prog 3 #[.int .i64 (m : Int), .slice q l.length c, .slice qb B.length cb] w fun e w' => e = .returned (.bool true) ∧ Below w.heap.size w w' := by
  obtain ⟨k1, k2, k3⟩ := kl_ok hk
  have hm : 1 ≤ m ∧ m ≤ 20 := by omega
  have hNH : Hid (∀ w', Below w.heap.size w w' → Nums w' q l) := fun w' hb => h.below hb (Nat.le_refl _)
  have hNB : Hid (∀ w', Below w.heap.size w w' → Nums w' qb B) := fun w' hb => hB.below hb (Nat.le_refl _)
  have hRn : Hid (∀ w2, Below w.heap.size w w2 → Calls Try.prog 7 #[.int .i64 (m : Int), .slice q l.length c] w2 fun e w' => (∃ g, e = .returned (.tuple #[.slice (some ⟨g, 0, none⟩) l.length l.length, .int .i64 (xm (lsA l m (List.range l.length)).W m), .int .i64 0]) ∧ w'.ownsRow w2.heap.size 3 1 (.slice (some ⟨g, 0, none⟩) l.length l.length) l.length (numf (lsA l m (List.range l.length)).on l.length)) ∧ Below w2.heap.size w2 w') := fun w2 hb => Run_ok (hNH.out w2 hb) hk
  have hLg : Hid (∀ w2, Below w.heap.size w w2 → Calls Try.prog 8 #[.int .i64 (m : Int), .slice q l.length c] w2 fun e w' => (∃ R, Hid (Perm0 l.length R ∧ Dwn l R) ∧ ∃ g, e = .returned (.tuple #[.slice (some ⟨g, 0, none⟩) l.length l.length, .int .i64 (xm (lsA l m R).W m), .int .i64 0]) ∧ w'.ownsRow w2.heap.size 3 1 (.slice (some ⟨g, 0, none⟩) l.length l.length) l.length (numf (lsA l m R).on l.length)) ∧ Below w2.heap.size w2 w') := fun w2 hb => (Long_ok (hNH.out w2 hb) hk).mono fun e w' ⟨⟨R, hP, hD, g, he, hr⟩, hb'⟩ => ⟨⟨R, ⟨hP, hD⟩, g, he, hr⟩, hb'⟩
  have hLe : Hid (∀ w2, Below w.heap.size w w2 → Calls Try.prog 9 #[.int .i64 (m : Int), .slice q l.length c] w2 fun e w' => (∃ v, Hid (Bst l m (2 ^ l.length - 1) v) ∧ e = .returned (.tuple #[.int .i64 v, .int .i64 0])) ∧ Below w2.heap.size w2 w') := fun w2 hb => (Least_ok (c := c) (hNH.out w2 hb) hk h9).mono fun e w' ⟨⟨v, he, hv⟩, hb'⟩ => ⟨⟨v, hv, he⟩, hb'⟩
  have hSS : Hid (∀ (w2 : World) (v : Int), Below w.heap.size w w2 → Bst l m (2 ^ l.length - 1) v → Calls Try.prog 16 #[.int .i64 (m : Int), .slice q l.length c] w2 fun e w' => e = .returned (.int .i64 v) ∧ Below w2.heap.size w2 w') := fun w2 v hb hv => ShortestSpan_any (hNH.out w2 hb) hc hk h9 hv
  have hSp : Hid (∀ w2, Below w.heap.size w w2 → Calls Try.prog 10 #[.int .i64 (m : Int), .slice q l.length c, .slice qb B.length cb] w2 fun e w' => e = .returned (.tuple #[.int .i64 0, .int .i64 1]) ∧ Below w2.heap.size w2 w') := fun w2 hb => by
    have h2 := Span_ok (m := m) (c := c) (cb := cb) (hNH.out w2 hb) (hNB.out w2 hb) hk
    have e : spR m l B = (0, 1) := by unfold spR; rw [if_neg hL]
    rw [e] at h2
    exact h2
  have hFt : Hid (∀ w2, Below w.heap.size w w2 → Calls Try.prog 11 #[.int .i64 (m : Int), .slice q l.length c] w2 fun e w' => e = .returned (.int .i64 0) ∧ w' = w2) := fun w2 hb => by
    have h2 := fault_any (c := c) (m : Int) (hNH.out w2 hb)
    rw [hk] at h2
    exact h2
  have hUp : Hid (∀ w2, Calls Try.prog 13 #[.int .i64 (l.length : Int)] w2 fun e w' => e = .returned (.slice (some ⟨w2.heap.size, 0, none⟩) l.length l.length) ∧ w'.ownsRow w2.heap.size 3 1 (.slice (some ⟨w2.heap.size, 0, none⟩) l.length l.length) l.length (numf (fun j => (j : Int)) l.length) ∧ Below w2.heap.size w2 w') := fun w2 => upTo_any (by omega)
  have hWk : Hid (∀ (w2 : World) (qr : Option Addr) (cr : Nat) (R : List Nat), Below w.heap.size w w2 → Perm0 l.length R → Nums w2 qr (R.map fun (i : Nat) => (i : Int)) → Calls Try.prog 12 #[.int .i64 (m : Int), .slice q l.length c, .slice qr l.length cr] w2 fun e w' => (∃ g, e = .returned (.tuple #[.slice (some ⟨g, 0, none⟩) l.length l.length, .int .i64 (xm (lsA l m R).W m)]) ∧ w'.ownsRow w2.heap.size 3 1 (.slice (some ⟨g, 0, none⟩) l.length l.length) l.length (numf (lsA l m R).on l.length)) ∧ Below w2.heap.size w2 w') := fun w2 qr cr R hb hP hN => by
    have h2 := Worked_any (cl := c) (cr := cr) (m := m) (hNH.out w2 hb) hN (by omega) (by rw [hP.len]; omega) hm k3 hP.lt
    rw [hP.len] at h2
    rw [mst_xm hm.1 fun b _ => (lsA_b60 (m := m) k3 hP.lt (by rw [hP.len]; omega) b).1] at h2
    exact h2
  have hDw : Hid (∀ w2, Below w.heap.size w w2 → Calls Try.prog 14 #[.slice q l.length c] w2 fun e w' => DwO l w2.heap.size e w' ∧ Below w2.heap.size w2 w') := fun w2 hb => downward_any (hNH.out w2 hb) (by omega)
  have hEq : Hid (∀ (w2 : World) (E : Nat → Int) (p1 p2 : Option Addr) (c1 c2 B1 B2 : Nat), w2.ownsRow B1 3 1 (.slice p1 l.length c1) l.length (numf E l.length) → w2.ownsRow B2 3 1 (.slice p2 l.length c2) l.length (numf E l.length) → Calls Try.prog 15 #[.slice p1 l.length c1, .slice p2 l.length c2] w2 fun e w' => e = .returned (.bool true) ∧ Below w2.heap.size w2 w') := fun w2 E p1 p2 c1 c2 B1 B2 h1 h2 => equal_n h1 h2 (by omega)
  have hEq2 := hEq
  have hWk2 := hWk
  have hPr : Hid (Perm0 l.length (List.range l.length)) := Perm0.range _
  have hLd : Hid (∀ w2, Below w.heap.size w w2 → Calls Try.prog 17 #[.int .i64 (m : Int), .slice q l.length c, .slice qb B.length cb] w2 fun e w' => e = .returned (.tuple #[.slice none 0 0, .bool false]) ∧ Below w2.heap.size w2 w') := fun w2 hb => (Loads_any (c := c) (cb := cb) (hNH.out w2 hb) (hNB.out w2 hb) hk).mono fun e w' ⟨ho, hb'⟩ => by
    rcases ho with ⟨h1, h2, _⟩ | ⟨_, he⟩
    · exact absurd ⟨h1, h2⟩ hL
    · exact ⟨he, hb'⟩
  have hnn : ¬ (l.length : Int) < 0 := by omega
  have h9i : ¬ (9 : Int) < (l.length : Int) := by omega
  clear h hB hc hk h9 hL k1 k2 k3 hm
  generalize 2 ^ l.length - 1 = full at *
  have A0 : Below w.heap.size w w := Below.refl _ _
  go_enter Try.func3, Try.ntmps3
  go_wp2_with (first
    | (go_at_call 7; refine (hRn.out _ A0).mono ?_; rintro e w1 ⟨⟨ga, rfl, ra⟩, hb1⟩; clear hRn; have A1 := A0.trans (hb1.mono A0.size))
    | (go_at_call 8; refine (hLg.out _ A1).mono ?_; rintro e w2 ⟨⟨R, hR, gb, rfl, rb⟩, hb2⟩; clear hLg; have A2 := A1.trans (hb2.mono A1.size); have B2 := hb2)
    | (go_at_call 9; refine (hLe.out _ A2).mono ?_; rintro e w3 ⟨⟨v, hv, rfl⟩, hb3⟩; clear hLe; have A3 := A2.trans (hb3.mono A2.size); have B3 := B2.trans (hb3.mono B2.size); have C3 := hb3)
    | (go_at_call 10; refine (hSp.out _ A3).mono ?_; rintro e w4 ⟨rfl, hb4⟩; clear hSp; have A4 := A3.trans (hb4.mono A3.size); have B4 := B3.trans (hb4.mono B3.size); have C4 := C3.trans (hb4.mono C3.size))
    | (go_at_call 11; refine (hFt.out _ A4).mono ?_; rintro e w41 ⟨rfl, hw41⟩; have hw42 := hw41.symm; subst hw42; clear hFt)
    | (go_at_call 13; refine (hUp.out _).mono ?_; rintro e w5 ⟨rfl, ru, hb5⟩; clear hUp; have A5 := A4.trans (hb5.mono A4.size); have B5 := B4.trans (hb5.mono B4.size); have C5 := C4.trans (hb5.mono C4.size); have nu := nums_row ru; clear ru)
    | (go_at_call 12; refine (hWk.out _ _ _ _ A5 hPr.out nu).mono ?_; rintro e w6 ⟨⟨gx, rfl, rx⟩, hb6⟩; clear hWk nu; have A6 := A5.trans (hb6.mono A5.size); have B6 := B5.trans (hb6.mono B5.size); have C6 := C5.trans (hb6.mono C5.size))
    | (go_at_call 14; refine (hDw.out _ A6).mono ?_; rintro e w7 ⟨hdw, hb7⟩; obtain ⟨P, q7, c7, hP, rfl, r7⟩ := hdw; have eP := dwn_uniq hR.out.1 hR.out.2 hP; subst eP; have n7 := nums_row r7; rw [pgd_map hR.out.1.len] at n7; clear hDw r7 hP; have A7 := A6.trans (hb7.mono A6.size); have B7 := B6.trans (hb7.mono B6.size); have C7 := C6.trans (hb7.mono C6.size); have D7 := hb7)
    | (go_at_call 12; refine (hWk2.out _ _ _ _ A7 hR.out.1 n7).mono ?_; rintro e w8 ⟨⟨gy, rfl, ry⟩, hb8⟩; clear hWk2 n7; have A8 := A7.trans (hb8.mono A7.size); have B8 := B7.trans (hb8.mono B7.size); have C8 := C7.trans (hb8.mono C7.size); have D8 := D7.trans (hb8.mono D7.size))
    | (go_at_call 15; refine (hEq.out _ _ _ _ _ _ _ _ (row_below ra B8) (row_below rx D8)).mono ?_; rintro e w9 ⟨rfl, hb9⟩; clear hEq ra rx; have A9 := A8.trans (hb9.mono A8.size); have C9 := C8.trans (hb9.mono C8.size); have E9 := hb9)
    | (go_at_call 15; refine (hEq2.out _ _ _ _ _ _ _ _ (row_below rb C9) (row_below ry E9)).mono ?_; rintro e w10 ⟨rfl, hb10⟩; clear hEq2 rb ry; have A10 := A9.trans (hb10.mono A9.size))
    | (go_at_call 16; refine (hSS.out _ _ A10 hv.out).mono ?_; rintro e w11 ⟨rfl, hb11⟩; clear hSS; have A11 := A10.trans (hb11.mono A10.size))
    | (go_at_call 17; refine (hLd.out _ A11).mono ?_; rintro e w12 ⟨rfl, hb12⟩; clear hLd; have A12 := A11.trans (hb12.mono A11.size))
    | fail)
  go_ret
  exact ⟨ret_b (by first | rfl | simp), A12⟩

set_option maxHeartbeats 4000000 in
set_option maxRecDepth 100000 in
theorem listTells_by (m : Nat) (q : Option Addr) (l : List Int) (c : Nat) (qb : Option Addr) (B : List Int) (cb : Nat) (w : World) (h : Nums w q l) (hB : Nums w qb B) (hc : l.length ≤ c) (hk : kl (m : Int) l = 0) (h9 : 9 < l.length) (hL : B.length = l.length ∧ B.all (hdB m) = true) :
    Calls Try.prog 3 #[.int .i64 (m : Int), .slice q l.length c, .slice qb B.length cb] w fun e w' => e = .returned (.bool true) ∧ Below w.heap.size w w' := by
  obtain ⟨k1, k2, k3⟩ := kl_ok hk
  have hm : 1 ≤ m ∧ m ≤ 20 := by omega
  have hNH : Hid (∀ w', Below w.heap.size w w' → Nums w' q l) := fun w' hb => h.below hb (Nat.le_refl _)
  have hNB : Hid (∀ w', Below w.heap.size w w' → Nums w' qb B) := fun w' hb => hB.below hb (Nat.le_refl _)
  have hRn : Hid (∀ w2, Below w.heap.size w w2 → Calls Try.prog 7 #[.int .i64 (m : Int), .slice q l.length c] w2 fun e w' => (∃ g, e = .returned (.tuple #[.slice (some ⟨g, 0, none⟩) l.length l.length, .int .i64 (xm (lsA l m (List.range l.length)).W m), .int .i64 0]) ∧ w'.ownsRow w2.heap.size 3 1 (.slice (some ⟨g, 0, none⟩) l.length l.length) l.length (numf (lsA l m (List.range l.length)).on l.length)) ∧ Below w2.heap.size w2 w') := fun w2 hb => Run_ok (hNH.out w2 hb) hk
  have hLg : Hid (∀ w2, Below w.heap.size w w2 → Calls Try.prog 8 #[.int .i64 (m : Int), .slice q l.length c] w2 fun e w' => (∃ R, Hid (Perm0 l.length R ∧ Dwn l R) ∧ ∃ g, e = .returned (.tuple #[.slice (some ⟨g, 0, none⟩) l.length l.length, .int .i64 (xm (lsA l m R).W m), .int .i64 0]) ∧ w'.ownsRow w2.heap.size 3 1 (.slice (some ⟨g, 0, none⟩) l.length l.length) l.length (numf (lsA l m R).on l.length)) ∧ Below w2.heap.size w2 w') := fun w2 hb => (Long_ok (hNH.out w2 hb) hk).mono fun e w' ⟨⟨R, hP, hD, g, he, hr⟩, hb'⟩ => ⟨⟨R, ⟨hP, hD⟩, g, he, hr⟩, hb'⟩
  have hLe : Hid (∀ w2, Below w.heap.size w w2 → Calls Try.prog 9 #[.int .i64 (m : Int), .slice q l.length c] w2 fun e w' => e = .returned (.tuple #[.int .i64 0, .int .i64 2]) ∧ w' = w2) := fun w2 hb => Least_big _ (hNH.out w2 hb) hk h9
  have hSp : Hid (∀ w2, Below w.heap.size w w2 → Calls Try.prog 10 #[.int .i64 (m : Int), .slice q l.length c, .slice qb B.length cb] w2 fun e w' => e = .returned (.tuple #[.int .i64 (xm (spF l (nm B) l.length) m), .int .i64 0]) ∧ Below w2.heap.size w2 w') := fun w2 hb => by
    have h2 := Span_ok (m := m) (c := c) (cb := cb) (hNH.out w2 hb) (hNB.out w2 hb) hk
    have e : spR m l B = ((xm (spF l (nm B) l.length) m), 0) := by unfold spR; rw [if_pos hL]
    rw [e] at h2
    exact h2
  have hFt : Hid (∀ w2, Below w.heap.size w w2 → Calls Try.prog 11 #[.int .i64 (m : Int), .slice q l.length c] w2 fun e w' => e = .returned (.int .i64 0) ∧ w' = w2) := fun w2 hb => by
    have h2 := fault_any (c := c) (m : Int) (hNH.out w2 hb)
    rw [hk] at h2
    exact h2
  have hUp : Hid (∀ w2, Calls Try.prog 13 #[.int .i64 (l.length : Int)] w2 fun e w' => e = .returned (.slice (some ⟨w2.heap.size, 0, none⟩) l.length l.length) ∧ w'.ownsRow w2.heap.size 3 1 (.slice (some ⟨w2.heap.size, 0, none⟩) l.length l.length) l.length (numf (fun j => (j : Int)) l.length) ∧ Below w2.heap.size w2 w') := fun w2 => upTo_any (by omega)
  have hWk : Hid (∀ (w2 : World) (qr : Option Addr) (cr : Nat) (R : List Nat), Below w.heap.size w w2 → Perm0 l.length R → Nums w2 qr (R.map fun (i : Nat) => (i : Int)) → Calls Try.prog 12 #[.int .i64 (m : Int), .slice q l.length c, .slice qr l.length cr] w2 fun e w' => (∃ g, e = .returned (.tuple #[.slice (some ⟨g, 0, none⟩) l.length l.length, .int .i64 (xm (lsA l m R).W m)]) ∧ w'.ownsRow w2.heap.size 3 1 (.slice (some ⟨g, 0, none⟩) l.length l.length) l.length (numf (lsA l m R).on l.length)) ∧ Below w2.heap.size w2 w') := fun w2 qr cr R hb hP hN => by
    have h2 := Worked_any (cl := c) (cr := cr) (m := m) (hNH.out w2 hb) hN (by omega) (by rw [hP.len]; omega) hm k3 hP.lt
    rw [hP.len] at h2
    rw [mst_xm hm.1 fun b _ => (lsA_b60 (m := m) k3 hP.lt (by rw [hP.len]; omega) b).1] at h2
    exact h2
  have hDw : Hid (∀ w2, Below w.heap.size w w2 → Calls Try.prog 14 #[.slice q l.length c] w2 fun e w' => DwO l w2.heap.size e w' ∧ Below w2.heap.size w2 w') := fun w2 hb => downward_any (hNH.out w2 hb) (by omega)
  have hEq : Hid (∀ (w2 : World) (E : Nat → Int) (p1 p2 : Option Addr) (c1 c2 B1 B2 : Nat), w2.ownsRow B1 3 1 (.slice p1 l.length c1) l.length (numf E l.length) → w2.ownsRow B2 3 1 (.slice p2 l.length c2) l.length (numf E l.length) → Calls Try.prog 15 #[.slice p1 l.length c1, .slice p2 l.length c2] w2 fun e w' => e = .returned (.bool true) ∧ Below w2.heap.size w2 w') := fun w2 E p1 p2 c1 c2 B1 B2 h1 h2 => equal_n h1 h2 (by omega)
  have hEq2 := hEq
  have hWk2 := hWk
  have hPr : Hid (Perm0 l.length (List.range l.length)) := Perm0.range _
  have hLd : Hid (∀ w2, Below w.heap.size w w2 → Calls Try.prog 17 #[.int .i64 (m : Int), .slice q l.length c, .slice qb B.length cb] w2 fun e w' => (∃ (p : Option Addr) (c2 : Nat), e = .returned (.tuple #[.slice p m c2, .bool true]) ∧ Hid (Calls Try.prog 18 #[.slice p m c2] w' fun e2 w2' => e2 = .returned (.int .i64 (xm (spF l (nm B) l.length) m)) ∧ w2' = w')) ∧ Below w2.heap.size w2 w') := fun w2 hb => (Loads_any (c := c) (cb := cb) (hNH.out w2 hb) (hNB.out w2 hb) hk).mono fun e w' ⟨ho, hb'⟩ => by
    rcases ho with ⟨_, _, p, c2, he, hr⟩ | ⟨hn, _⟩
    · exact ⟨⟨p, c2, he, Max_any hr hm.1 (by omega)⟩, hb'⟩
    · exact absurd hL hn
  have hnn : ¬ (l.length : Int) < 0 := by omega
  have h9i : (9 : Int) < (l.length : Int) := by omega
  clear h hB hc hk h9 hL k1 k2 k3 hm
  generalize 2 ^ l.length - 1 = full at *
  have A0 : Below w.heap.size w w := Below.refl _ _
  go_enter Try.func3, Try.ntmps3
  go_wp2_with (first
    | (go_at_call 7; refine (hRn.out _ A0).mono ?_; rintro e w1 ⟨⟨ga, rfl, ra⟩, hb1⟩; clear hRn; have A1 := A0.trans (hb1.mono A0.size))
    | (go_at_call 8; refine (hLg.out _ A1).mono ?_; rintro e w2 ⟨⟨R, hR, gb, rfl, rb⟩, hb2⟩; clear hLg; have A2 := A1.trans (hb2.mono A1.size); have B2 := hb2)
    | (go_at_call 9; refine (hLe.out _ A2).mono ?_; rintro e w3 ⟨rfl, hw3⟩; have hw31 := hw3.symm; subst hw31; clear hLe; have A3 := A2; have B3 := B2; have C3 := Below.refl w2.heap.size w2)
    | (go_at_call 10; refine (hSp.out _ A3).mono ?_; rintro e w4 ⟨rfl, hb4⟩; clear hSp; have A4 := A3.trans (hb4.mono A3.size); have B4 := B3.trans (hb4.mono B3.size); have C4 := C3.trans (hb4.mono C3.size))
    | (go_at_call 11; refine (hFt.out _ A4).mono ?_; rintro e w41 ⟨rfl, hw41⟩; have hw42 := hw41.symm; subst hw42; clear hFt)
    | (go_at_call 13; refine (hUp.out _).mono ?_; rintro e w5 ⟨rfl, ru, hb5⟩; clear hUp; have A5 := A4.trans (hb5.mono A4.size); have B5 := B4.trans (hb5.mono B4.size); have C5 := C4.trans (hb5.mono C4.size); have nu := nums_row ru; clear ru)
    | (go_at_call 12; refine (hWk.out _ _ _ _ A5 hPr.out nu).mono ?_; rintro e w6 ⟨⟨gx, rfl, rx⟩, hb6⟩; clear hWk nu; have A6 := A5.trans (hb6.mono A5.size); have B6 := B5.trans (hb6.mono B5.size); have C6 := C5.trans (hb6.mono C5.size))
    | (go_at_call 14; refine (hDw.out _ A6).mono ?_; rintro e w7 ⟨hdw, hb7⟩; obtain ⟨P, q7, c7, hP, rfl, r7⟩ := hdw; have eP := dwn_uniq hR.out.1 hR.out.2 hP; subst eP; have n7 := nums_row r7; rw [pgd_map hR.out.1.len] at n7; clear hDw r7 hP; have A7 := A6.trans (hb7.mono A6.size); have B7 := B6.trans (hb7.mono B6.size); have C7 := C6.trans (hb7.mono C6.size); have D7 := hb7)
    | (go_at_call 12; refine (hWk2.out _ _ _ _ A7 hR.out.1 n7).mono ?_; rintro e w8 ⟨⟨gy, rfl, ry⟩, hb8⟩; clear hWk2 n7; have A8 := A7.trans (hb8.mono A7.size); have B8 := B7.trans (hb8.mono B7.size); have C8 := C7.trans (hb8.mono C7.size); have D8 := D7.trans (hb8.mono D7.size))
    | (go_at_call 15; refine (hEq.out _ _ _ _ _ _ _ _ (row_below ra B8) (row_below rx D8)).mono ?_; rintro e w9 ⟨rfl, hb9⟩; clear hEq ra rx; have A9 := A8.trans (hb9.mono A8.size); have C9 := C8.trans (hb9.mono C8.size); have E9 := hb9)
    | (go_at_call 15; refine (hEq2.out _ _ _ _ _ _ _ _ (row_below rb C9) (row_below ry E9)).mono ?_; rintro e w10 ⟨rfl, hb10⟩; clear hEq2 rb ry; have A10 := A9.trans (hb10.mono A9.size))
    | (go_at_call 17; refine (hLd.out _ A10).mono ?_; rintro e w12 ⟨⟨p12, c12, rfl, hmx⟩, hb12⟩; clear hLd; have A12 := A10.trans (hb12.mono A10.size))
    | (go_at_call 18; refine hmx.out.mono ?_; rintro e w13 ⟨rfl, hw13⟩; have hw14 := hw13.symm; subst hw14; clear hmx)
    | fail)
  go_ret
  exact ⟨ret_b (by first | rfl | simp), A12⟩

set_option maxHeartbeats 4000000 in
set_option maxRecDepth 100000 in
theorem listTells_bn (m : Nat) (q : Option Addr) (l : List Int) (c : Nat) (qb : Option Addr) (B : List Int) (cb : Nat) (w : World) (h : Nums w q l) (hB : Nums w qb B) (hc : l.length ≤ c) (hk : kl (m : Int) l = 0) (h9 : 9 < l.length) (hL : ¬ (B.length = l.length ∧ B.all (hdB m) = true)) :
    Calls Try.prog 3 #[.int .i64 (m : Int), .slice q l.length c, .slice qb B.length cb] w fun e w' => e = .returned (.bool true) ∧ Below w.heap.size w w' := by
  obtain ⟨k1, k2, k3⟩ := kl_ok hk
  have hm : 1 ≤ m ∧ m ≤ 20 := by omega
  have hNH : Hid (∀ w', Below w.heap.size w w' → Nums w' q l) := fun w' hb => h.below hb (Nat.le_refl _)
  have hNB : Hid (∀ w', Below w.heap.size w w' → Nums w' qb B) := fun w' hb => hB.below hb (Nat.le_refl _)
  have hRn : Hid (∀ w2, Below w.heap.size w w2 → Calls Try.prog 7 #[.int .i64 (m : Int), .slice q l.length c] w2 fun e w' => (∃ g, e = .returned (.tuple #[.slice (some ⟨g, 0, none⟩) l.length l.length, .int .i64 (xm (lsA l m (List.range l.length)).W m), .int .i64 0]) ∧ w'.ownsRow w2.heap.size 3 1 (.slice (some ⟨g, 0, none⟩) l.length l.length) l.length (numf (lsA l m (List.range l.length)).on l.length)) ∧ Below w2.heap.size w2 w') := fun w2 hb => Run_ok (hNH.out w2 hb) hk
  have hLg : Hid (∀ w2, Below w.heap.size w w2 → Calls Try.prog 8 #[.int .i64 (m : Int), .slice q l.length c] w2 fun e w' => (∃ R, Hid (Perm0 l.length R ∧ Dwn l R) ∧ ∃ g, e = .returned (.tuple #[.slice (some ⟨g, 0, none⟩) l.length l.length, .int .i64 (xm (lsA l m R).W m), .int .i64 0]) ∧ w'.ownsRow w2.heap.size 3 1 (.slice (some ⟨g, 0, none⟩) l.length l.length) l.length (numf (lsA l m R).on l.length)) ∧ Below w2.heap.size w2 w') := fun w2 hb => (Long_ok (hNH.out w2 hb) hk).mono fun e w' ⟨⟨R, hP, hD, g, he, hr⟩, hb'⟩ => ⟨⟨R, ⟨hP, hD⟩, g, he, hr⟩, hb'⟩
  have hLe : Hid (∀ w2, Below w.heap.size w w2 → Calls Try.prog 9 #[.int .i64 (m : Int), .slice q l.length c] w2 fun e w' => e = .returned (.tuple #[.int .i64 0, .int .i64 2]) ∧ w' = w2) := fun w2 hb => Least_big _ (hNH.out w2 hb) hk h9
  have hSp : Hid (∀ w2, Below w.heap.size w w2 → Calls Try.prog 10 #[.int .i64 (m : Int), .slice q l.length c, .slice qb B.length cb] w2 fun e w' => e = .returned (.tuple #[.int .i64 0, .int .i64 1]) ∧ Below w2.heap.size w2 w') := fun w2 hb => by
    have h2 := Span_ok (m := m) (c := c) (cb := cb) (hNH.out w2 hb) (hNB.out w2 hb) hk
    have e : spR m l B = (0, 1) := by unfold spR; rw [if_neg hL]
    rw [e] at h2
    exact h2
  have hFt : Hid (∀ w2, Below w.heap.size w w2 → Calls Try.prog 11 #[.int .i64 (m : Int), .slice q l.length c] w2 fun e w' => e = .returned (.int .i64 0) ∧ w' = w2) := fun w2 hb => by
    have h2 := fault_any (c := c) (m : Int) (hNH.out w2 hb)
    rw [hk] at h2
    exact h2
  have hUp : Hid (∀ w2, Calls Try.prog 13 #[.int .i64 (l.length : Int)] w2 fun e w' => e = .returned (.slice (some ⟨w2.heap.size, 0, none⟩) l.length l.length) ∧ w'.ownsRow w2.heap.size 3 1 (.slice (some ⟨w2.heap.size, 0, none⟩) l.length l.length) l.length (numf (fun j => (j : Int)) l.length) ∧ Below w2.heap.size w2 w') := fun w2 => upTo_any (by omega)
  have hWk : Hid (∀ (w2 : World) (qr : Option Addr) (cr : Nat) (R : List Nat), Below w.heap.size w w2 → Perm0 l.length R → Nums w2 qr (R.map fun (i : Nat) => (i : Int)) → Calls Try.prog 12 #[.int .i64 (m : Int), .slice q l.length c, .slice qr l.length cr] w2 fun e w' => (∃ g, e = .returned (.tuple #[.slice (some ⟨g, 0, none⟩) l.length l.length, .int .i64 (xm (lsA l m R).W m)]) ∧ w'.ownsRow w2.heap.size 3 1 (.slice (some ⟨g, 0, none⟩) l.length l.length) l.length (numf (lsA l m R).on l.length)) ∧ Below w2.heap.size w2 w') := fun w2 qr cr R hb hP hN => by
    have h2 := Worked_any (cl := c) (cr := cr) (m := m) (hNH.out w2 hb) hN (by omega) (by rw [hP.len]; omega) hm k3 hP.lt
    rw [hP.len] at h2
    rw [mst_xm hm.1 fun b _ => (lsA_b60 (m := m) k3 hP.lt (by rw [hP.len]; omega) b).1] at h2
    exact h2
  have hDw : Hid (∀ w2, Below w.heap.size w w2 → Calls Try.prog 14 #[.slice q l.length c] w2 fun e w' => DwO l w2.heap.size e w' ∧ Below w2.heap.size w2 w') := fun w2 hb => downward_any (hNH.out w2 hb) (by omega)
  have hEq : Hid (∀ (w2 : World) (E : Nat → Int) (p1 p2 : Option Addr) (c1 c2 B1 B2 : Nat), w2.ownsRow B1 3 1 (.slice p1 l.length c1) l.length (numf E l.length) → w2.ownsRow B2 3 1 (.slice p2 l.length c2) l.length (numf E l.length) → Calls Try.prog 15 #[.slice p1 l.length c1, .slice p2 l.length c2] w2 fun e w' => e = .returned (.bool true) ∧ Below w2.heap.size w2 w') := fun w2 E p1 p2 c1 c2 B1 B2 h1 h2 => equal_n h1 h2 (by omega)
  have hEq2 := hEq
  have hWk2 := hWk
  have hPr : Hid (Perm0 l.length (List.range l.length)) := Perm0.range _
  have hLd : Hid (∀ w2, Below w.heap.size w w2 → Calls Try.prog 17 #[.int .i64 (m : Int), .slice q l.length c, .slice qb B.length cb] w2 fun e w' => e = .returned (.tuple #[.slice none 0 0, .bool false]) ∧ Below w2.heap.size w2 w') := fun w2 hb => (Loads_any (c := c) (cb := cb) (hNH.out w2 hb) (hNB.out w2 hb) hk).mono fun e w' ⟨ho, hb'⟩ => by
    rcases ho with ⟨h1, h2, _⟩ | ⟨_, he⟩
    · exact absurd ⟨h1, h2⟩ hL
    · exact ⟨he, hb'⟩
  have hnn : ¬ (l.length : Int) < 0 := by omega
  have h9i : (9 : Int) < (l.length : Int) := by omega
  clear h hB hc hk h9 hL k1 k2 k3 hm
  generalize 2 ^ l.length - 1 = full at *
  have A0 : Below w.heap.size w w := Below.refl _ _
  go_enter Try.func3, Try.ntmps3
  go_wp2_with (first
    | (go_at_call 7; refine (hRn.out _ A0).mono ?_; rintro e w1 ⟨⟨ga, rfl, ra⟩, hb1⟩; clear hRn; have A1 := A0.trans (hb1.mono A0.size))
    | (go_at_call 8; refine (hLg.out _ A1).mono ?_; rintro e w2 ⟨⟨R, hR, gb, rfl, rb⟩, hb2⟩; clear hLg; have A2 := A1.trans (hb2.mono A1.size); have B2 := hb2)
    | (go_at_call 9; refine (hLe.out _ A2).mono ?_; rintro e w3 ⟨rfl, hw3⟩; have hw31 := hw3.symm; subst hw31; clear hLe; have A3 := A2; have B3 := B2; have C3 := Below.refl w2.heap.size w2)
    | (go_at_call 10; refine (hSp.out _ A3).mono ?_; rintro e w4 ⟨rfl, hb4⟩; clear hSp; have A4 := A3.trans (hb4.mono A3.size); have B4 := B3.trans (hb4.mono B3.size); have C4 := C3.trans (hb4.mono C3.size))
    | (go_at_call 11; refine (hFt.out _ A4).mono ?_; rintro e w41 ⟨rfl, hw41⟩; have hw42 := hw41.symm; subst hw42; clear hFt)
    | (go_at_call 13; refine (hUp.out _).mono ?_; rintro e w5 ⟨rfl, ru, hb5⟩; clear hUp; have A5 := A4.trans (hb5.mono A4.size); have B5 := B4.trans (hb5.mono B4.size); have C5 := C4.trans (hb5.mono C4.size); have nu := nums_row ru; clear ru)
    | (go_at_call 12; refine (hWk.out _ _ _ _ A5 hPr.out nu).mono ?_; rintro e w6 ⟨⟨gx, rfl, rx⟩, hb6⟩; clear hWk nu; have A6 := A5.trans (hb6.mono A5.size); have B6 := B5.trans (hb6.mono B5.size); have C6 := C5.trans (hb6.mono C5.size))
    | (go_at_call 14; refine (hDw.out _ A6).mono ?_; rintro e w7 ⟨hdw, hb7⟩; obtain ⟨P, q7, c7, hP, rfl, r7⟩ := hdw; have eP := dwn_uniq hR.out.1 hR.out.2 hP; subst eP; have n7 := nums_row r7; rw [pgd_map hR.out.1.len] at n7; clear hDw r7 hP; have A7 := A6.trans (hb7.mono A6.size); have B7 := B6.trans (hb7.mono B6.size); have C7 := C6.trans (hb7.mono C6.size); have D7 := hb7)
    | (go_at_call 12; refine (hWk2.out _ _ _ _ A7 hR.out.1 n7).mono ?_; rintro e w8 ⟨⟨gy, rfl, ry⟩, hb8⟩; clear hWk2 n7; have A8 := A7.trans (hb8.mono A7.size); have B8 := B7.trans (hb8.mono B7.size); have C8 := C7.trans (hb8.mono C7.size); have D8 := D7.trans (hb8.mono D7.size))
    | (go_at_call 15; refine (hEq.out _ _ _ _ _ _ _ _ (row_below ra B8) (row_below rx D8)).mono ?_; rintro e w9 ⟨rfl, hb9⟩; clear hEq ra rx; have A9 := A8.trans (hb9.mono A8.size); have C9 := C8.trans (hb9.mono C8.size); have E9 := hb9)
    | (go_at_call 15; refine (hEq2.out _ _ _ _ _ _ _ _ (row_below rb C9) (row_below ry E9)).mono ?_; rintro e w10 ⟨rfl, hb10⟩; clear hEq2 rb ry; have A10 := A9.trans (hb10.mono A9.size))
    | (go_at_call 17; refine (hLd.out _ A10).mono ?_; rintro e w12 ⟨rfl, hb12⟩; clear hLd; have A12 := A10.trans (hb12.mono A10.size))
    | fail)
  go_ret
  exact ⟨ret_b (by first | rfl | simp), A12⟩

theorem listTells_walk (m : Int) (q : Option Addr) (l : List Int) (c : Nat) (qb : Option Addr) (B : List Int) (cb : Nat) (w : World) (h : Nums w q l) (hB : Nums w qb B) (hc : l.length ≤ c) (hcb : B.length ≤ cb) :
    Calls Try.prog 3 #[.int .i64 m, .slice q l.length c, .slice qb B.length cb] w fun e w' => e = .returned (.bool true) ∧ Below w.heap.size w w' := by
  by_cases hk : kl m l = 0
  · obtain ⟨k1, _, _⟩ := kl_ok hk
    obtain ⟨m, rfl⟩ : ∃ n : Nat, m = (n : Int) := ⟨m.toNat, by omega⟩
    by_cases h9 : l.length ≤ 9
    · by_cases hL : B.length = l.length ∧ B.all (hdB m) = true
      · exact listTells_sy m q l c qb B cb w h hB hc hk h9 hL
      · exact listTells_sn m q l c qb B cb w h hB hc hk h9 hL
    · by_cases hL : B.length = l.length ∧ B.all (hdB m) = true
      · exact listTells_by m q l c qb B cb w h hB hc hk (by omega) hL
      · exact listTells_bn m q l c qb B cb w h hB hc hk (by omega) hL
  · exact listTells_bad m q l c qb B cb w h hk
end Go.Proofs.Ythfpdbogbmccjaa
