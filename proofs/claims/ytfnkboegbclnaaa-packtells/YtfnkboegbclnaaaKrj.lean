/- PackTells, walked. -/
import Derived.Test.YtfnkboegbclnaaaKri
namespace Go.Proofs.Ytfnkboegbclnaaa
open Go.RowKit
set_option linter.unusedSectionVars false
set_option linter.unusedVariables false

set_option maxHeartbeats 4000000 in
set_option maxRecDepth 100000 in
theorem packTells_sy (q : Option Addr) (l : List Int) (c : Nat) (size : Int) (qb : Option Addr) (B : List Int) (cb : Nat) (w : World) (h : Nums w q l) (hB : Nums w qb B) (hBw : ∀ x ∈ B, (Lit.int .i64 x).wf = true) (hc : l.length ≤ c) (hk : kc l size = 0) (h9 : l.length ≤ 9) (hL : B.length = l.length ∧ bxO l B size l.length = true) :
    Calls Try.prog 3 #[.slice q l.length c, .int .i64 size, .slice qb B.length cb] w fun e w' => e = .returned (.bool true) ∧ Below w.heap.size w w' := by
  obtain ⟨k1, k2, k3, k4⟩ := kc_ok hk
  have hNH : Hid (∀ w', Below w.heap.size w w' → Nums w' q l) := fun w' hb => h.below hb (Nat.le_refl _)
  have hNB : Hid (∀ w', Below w.heap.size w w' → Nums w' qb B) := fun w' hb => hB.below hb (Nat.le_refl _)
  have hRn : Hid (∀ w2, Below w.heap.size w w2 → Calls Try.prog 8 #[.slice q l.length c, .int .i64 size] w2 fun e w' => (∃ g, e = .returned (.tuple #[.slice (some ⟨g, 0, none⟩) l.length l.length, .int .i64 ((fsA l size (List.range l.length)).m : Int), .int .i64 0]) ∧ w'.ownsRow w2.heap.size 3 1 (.slice (some ⟨g, 0, none⟩) l.length l.length) l.length (numf (fsA l size (List.range l.length)).inn l.length)) ∧ Below w2.heap.size w2 w') := fun w2 hb => First_ok size (hNH.out w2 hb) hk
  have hLg : Hid (∀ w2, Below w.heap.size w w2 → Calls Try.prog 9 #[.slice q l.length c, .int .i64 size] w2 fun e w' => (∃ R, Hid (Perm0 l.length R ∧ Dwn l R) ∧ ∃ g, e = .returned (.tuple #[.slice (some ⟨g, 0, none⟩) l.length l.length, .int .i64 ((fsA l size R).m : Int), .int .i64 0]) ∧ w'.ownsRow w2.heap.size 3 1 (.slice (some ⟨g, 0, none⟩) l.length l.length) l.length (numf (fsA l size R).inn l.length)) ∧ Below w2.heap.size w2 w') := fun w2 hb => (Down_ok size (hNH.out w2 hb) hk).mono fun e w' ⟨⟨R, hP, hD, g, he, hr⟩, hb'⟩ => ⟨⟨R, ⟨hP, hD⟩, g, he, hr⟩, hb'⟩
  have hLe : Hid (∀ w2, Below w.heap.size w w2 → Calls Try.prog 10 #[.slice q l.length c, .int .i64 size] w2 fun e w' => (∃ K : Nat, Hid (FewB size l K) ∧ e = .returned (.tuple #[.int .i64 (K : Int), .int .i64 0])) ∧ Below w2.heap.size w2 w') := fun w2 hb => Least_few (c := c) size (hNH.out w2 hb) hk h9
  have hSS : Hid (∀ (w2 : World) (K : Nat), Below w.heap.size w w2 → FewB size l K → Calls Try.prog 18 #[.slice q l.length c, .int .i64 size] w2 fun e w' => e = .returned (.int .i64 (K : Int)) ∧ Below w2.heap.size w2 w') := fun w2 K hb hv => (few_any ⟨k2, k3⟩ l.length h9 w2 q c l rfl (hNH.out w2 hb) hc k4).mono fun e w' ⟨⟨r, hr, he⟩, hb'⟩ => ⟨by rw [he, hr.out.1.uniq hv], hb'⟩
  have hSp : Hid (∀ w2, Below w.heap.size w w2 → Calls Try.prog 11 #[.slice q l.length c, .int .i64 size, .slice qb B.length cb] w2 fun e w' => e = .returned (.tuple #[.int .i64 ((bxK B l.length).length : Int), .int .i64 0]) ∧ Below w2.heap.size w2 w') := fun w2 hb => by
    have h2 := Boxes_any (c := c) (cb := cb) size (hNH.out w2 hb) (hNB.out w2 hb) hBw
    have e : bxR l B size = (((bxK B l.length).length : Int), 0) := by unfold bxR; rw [if_neg (by omega), if_neg (by omega), if_pos hL.2]
    rw [e] at h2
    exact h2
  have hFt : Hid (∀ w2, Below w.heap.size w w2 → Calls Try.prog 12 #[.slice q l.length c, .int .i64 size] w2 fun e w' => e = .returned (.int .i64 0) ∧ w' = w2) := fun w2 hb => by
    have h2 := fault_any (c := c) size (hNH.out w2 hb)
    rw [hk] at h2
    exact h2
  have hCk : Hid (∀ w2, Below w.heap.size w w2 → Calls Try.prog 13 #[.slice q l.length c, .int .i64 size] w2 fun e w' => e = .returned (.int .i64 0) ∧ Below w2.heap.size w2 w') := fun w2 hb => by
    have h2 := Check_any (c := c) size (hNH.out w2 hb)
    rw [hk] at h2
    exact h2
  have hUp : Hid (∀ w2, Calls Try.prog 15 #[.int .i64 (l.length : Int)] w2 fun e w' => e = .returned (.slice (some ⟨w2.heap.size, 0, none⟩) l.length l.length) ∧ w'.ownsRow w2.heap.size 3 1 (.slice (some ⟨w2.heap.size, 0, none⟩) l.length l.length) l.length (numf (fun j => (j : Int)) l.length) ∧ Below w2.heap.size w2 w') := fun w2 => upTo_any (by omega)
  have hWk : Hid (∀ (w2 : World) (qr : Option Addr) (cr : Nat) (R : List Nat), Below w.heap.size w w2 → Perm0 l.length R → Nums w2 qr (R.map fun (i : Nat) => (i : Int)) → Calls Try.prog 14 #[.slice q l.length c, .int .i64 size, .slice qr l.length cr] w2 fun e w' => (∃ g, e = .returned (.tuple #[.slice (some ⟨g, 0, none⟩) l.length l.length, .int .i64 ((fsA l size R).m : Int)]) ∧ w'.ownsRow w2.heap.size 3 1 (.slice (some ⟨g, 0, none⟩) l.length l.length) l.length (numf (fsA l size R).inn l.length)) ∧ Below w2.heap.size w2 w') := fun w2 qr cr R hb hP hN => by
    have h2 := packed_any (cl := c) (cr := cr) (size := size) (hNH.out w2 hb) hN hk hP
    rw [hP.len, jin_all hP] at h2
    exact h2
  have hDw : Hid (∀ w2, Below w.heap.size w w2 → Calls Try.prog 16 #[.slice q l.length c] w2 fun e w' => DwO l w2.heap.size e w' ∧ Below w2.heap.size w2 w') := fun w2 hb => downward_any (hNH.out w2 hb) (by omega)
  have hEq : Hid (∀ (w2 : World) (E : Nat → Int) (p1 p2 : Option Addr) (c1 c2 B1 B2 : Nat), w2.ownsRow B1 3 1 (.slice p1 l.length c1) l.length (numf E l.length) → w2.ownsRow B2 3 1 (.slice p2 l.length c2) l.length (numf E l.length) → Calls Try.prog 17 #[.slice p1 l.length c1, .slice p2 l.length c2] w2 fun e w' => e = .returned (.bool true) ∧ Below w2.heap.size w2 w') := fun w2 E p1 p2 c1 c2 B1 B2 h1 h2 => equal_n h1 h2 (by omega)
  have hEq2 := hEq
  have hWk2 := hWk
  have hPr : Hid (Perm0 l.length (List.range l.length)) := Perm0.range _
  have hLd : Hid (∀ w2, Below w.heap.size w w2 → Calls Try.prog 19 #[.slice q l.length c, .int .i64 size, .slice qb B.length cb] w2 fun e w' => e = .returned (.int .i64 ((bxK B l.length).length : Int)) ∧ w' = w2) := fun w2 hb => by
    have h2 := boxesOf_any (c := c) (cb := cb) size (hNH.out w2 hb) (hNB.out w2 hb) hk
    have e : bxP l B size = ((bxK B l.length).length : Int) := by unfold bxP; rw [if_neg (by omega), if_pos hL.2]
    rw [e] at h2
    exact h2
  have hnn : ¬ (l.length : Int) < 0 := by omega
  have h9i : ¬ (9 : Int) < (l.length : Int) := by omega
  generalize (bxK B l.length).length = nb at *
  have hnb : (0 : Int) ≤ (nb : Int) := by omega
  clear h hB hBw hc hk h9 hL k1 k2 k3 k4
  have A0 : Below w.heap.size w w := Below.refl _ _
  go_enter Try.func3, Try.ntmps3
  go_wp2_with (first
    | (go_at_call 8; refine (hRn.out _ A0).mono ?_; rintro e w1 ⟨⟨ga, rfl, ra⟩, hb1⟩; clear hRn; have A1 := A0.trans (hb1.mono A0.size))
    | (go_at_call 9; refine (hLg.out _ A1).mono ?_; rintro e w2 ⟨⟨R, hR, gb, rfl, rb⟩, hb2⟩; clear hLg; have A2 := A1.trans (hb2.mono A1.size); have B2 := hb2)
    | (go_at_call 10; refine (hLe.out _ A2).mono ?_; rintro e w3 ⟨⟨v, hv, rfl⟩, hb3⟩; clear hLe; have A3 := A2.trans (hb3.mono A2.size); have B3 := B2.trans (hb3.mono B2.size); have C3 := hb3)
    | (go_at_call 11; refine (hSp.out _ A3).mono ?_; rintro e w4 ⟨rfl, hb4⟩; clear hSp; have A4 := A3.trans (hb4.mono A3.size); have B4 := B3.trans (hb4.mono B3.size); have C4 := C3.trans (hb4.mono C3.size))
    | (go_at_call 12; refine (hFt.out _ A4).mono ?_; rintro e w41 ⟨rfl, hw41⟩; have hw42 := hw41.symm; subst hw42; clear hFt)
    | (go_at_call 13; refine (hCk.out _ A4).mono ?_; rintro e w43 ⟨rfl, hb43⟩; clear hCk; have A44 := A4.trans (hb43.mono A4.size); have B44 := B4.trans (hb43.mono B4.size); have C44 := C4.trans (hb43.mono C4.size))
    | (go_at_call 15; refine (hUp.out _).mono ?_; rintro e w5 ⟨rfl, ru, hb5⟩; clear hUp; have A5 := A44.trans (hb5.mono A44.size); have B5 := B44.trans (hb5.mono B44.size); have C5 := C44.trans (hb5.mono C44.size); have nu := nums_row ru; clear ru)
    | (go_at_call 14; refine (hWk.out _ _ _ _ A5 hPr.out nu).mono ?_; rintro e w6 ⟨⟨gx, rfl, rx⟩, hb6⟩; clear hWk nu; have A6 := A5.trans (hb6.mono A5.size); have B6 := B5.trans (hb6.mono B5.size); have C6 := C5.trans (hb6.mono C5.size))
    | (go_at_call 16; refine (hDw.out _ A6).mono ?_; rintro e w7 ⟨hdw, hb7⟩; obtain ⟨P, q7, c7, hP, rfl, r7⟩ := hdw; have eP := dwn_uniq hR.out.1 hR.out.2 hP; subst eP; have n7 := nums_row r7; rw [pgd_map hR.out.1.len] at n7; clear hDw r7 hP; have A7 := A6.trans (hb7.mono A6.size); have B7 := B6.trans (hb7.mono B6.size); have C7 := C6.trans (hb7.mono C6.size); have D7 := hb7)
    | (go_at_call 14; refine (hWk2.out _ _ _ _ A7 hR.out.1 n7).mono ?_; rintro e w8 ⟨⟨gy, rfl, ry⟩, hb8⟩; clear hWk2 n7; have A8 := A7.trans (hb8.mono A7.size); have B8 := B7.trans (hb8.mono B7.size); have C8 := C7.trans (hb8.mono C7.size); have D8 := D7.trans (hb8.mono D7.size))
    | (go_at_call 17; refine (hEq.out _ _ _ _ _ _ _ _ (row_below ra B8) (row_below rx D8)).mono ?_; rintro e w9 ⟨rfl, hb9⟩; clear hEq ra rx; have A9 := A8.trans (hb9.mono A8.size); have C9 := C8.trans (hb9.mono C8.size); have E9 := hb9)
    | (go_at_call 17; refine (hEq2.out _ _ _ _ _ _ _ _ (row_below rb C9) (row_below ry E9)).mono ?_; rintro e w10 ⟨rfl, hb10⟩; clear hEq2 rb ry; have A10 := A9.trans (hb10.mono A9.size))
    | (go_at_call 18; refine (hSS.out _ _ A10 hv.out).mono ?_; rintro e w11 ⟨rfl, hb11⟩; clear hSS; have A11 := A10.trans (hb11.mono A10.size))
    | (go_at_call 19; refine (hLd.out _ A11).mono ?_; rintro e w12 ⟨rfl, hw12⟩; have hw13 := hw12.symm; subst hw13; clear hLd)
    | fail)
  go_ret
  exact ⟨ret_b (by first | rfl | simp), A11⟩

set_option maxHeartbeats 4000000 in
set_option maxRecDepth 100000 in
theorem packTells_sn (q : Option Addr) (l : List Int) (c : Nat) (size : Int) (qb : Option Addr) (B : List Int) (cb : Nat) (w : World) (h : Nums w q l) (hB : Nums w qb B) (hBw : ∀ x ∈ B, (Lit.int .i64 x).wf = true) (hc : l.length ≤ c) (hk : kc l size = 0) (h9 : l.length ≤ 9) (hL : ¬ (B.length = l.length ∧ bxO l B size l.length = true)) :
    Calls Try.prog 3 #[.slice q l.length c, .int .i64 size, .slice qb B.length cb] w fun e w' => e = .returned (.bool true) ∧ Below w.heap.size w w' := by
  obtain ⟨k1, k2, k3, k4⟩ := kc_ok hk
  have hNH : Hid (∀ w', Below w.heap.size w w' → Nums w' q l) := fun w' hb => h.below hb (Nat.le_refl _)
  have hNB : Hid (∀ w', Below w.heap.size w w' → Nums w' qb B) := fun w' hb => hB.below hb (Nat.le_refl _)
  have hRn : Hid (∀ w2, Below w.heap.size w w2 → Calls Try.prog 8 #[.slice q l.length c, .int .i64 size] w2 fun e w' => (∃ g, e = .returned (.tuple #[.slice (some ⟨g, 0, none⟩) l.length l.length, .int .i64 ((fsA l size (List.range l.length)).m : Int), .int .i64 0]) ∧ w'.ownsRow w2.heap.size 3 1 (.slice (some ⟨g, 0, none⟩) l.length l.length) l.length (numf (fsA l size (List.range l.length)).inn l.length)) ∧ Below w2.heap.size w2 w') := fun w2 hb => First_ok size (hNH.out w2 hb) hk
  have hLg : Hid (∀ w2, Below w.heap.size w w2 → Calls Try.prog 9 #[.slice q l.length c, .int .i64 size] w2 fun e w' => (∃ R, Hid (Perm0 l.length R ∧ Dwn l R) ∧ ∃ g, e = .returned (.tuple #[.slice (some ⟨g, 0, none⟩) l.length l.length, .int .i64 ((fsA l size R).m : Int), .int .i64 0]) ∧ w'.ownsRow w2.heap.size 3 1 (.slice (some ⟨g, 0, none⟩) l.length l.length) l.length (numf (fsA l size R).inn l.length)) ∧ Below w2.heap.size w2 w') := fun w2 hb => (Down_ok size (hNH.out w2 hb) hk).mono fun e w' ⟨⟨R, hP, hD, g, he, hr⟩, hb'⟩ => ⟨⟨R, ⟨hP, hD⟩, g, he, hr⟩, hb'⟩
  have hLe : Hid (∀ w2, Below w.heap.size w w2 → Calls Try.prog 10 #[.slice q l.length c, .int .i64 size] w2 fun e w' => (∃ K : Nat, Hid (FewB size l K) ∧ e = .returned (.tuple #[.int .i64 (K : Int), .int .i64 0])) ∧ Below w2.heap.size w2 w') := fun w2 hb => Least_few (c := c) size (hNH.out w2 hb) hk h9
  have hSS : Hid (∀ (w2 : World) (K : Nat), Below w.heap.size w w2 → FewB size l K → Calls Try.prog 18 #[.slice q l.length c, .int .i64 size] w2 fun e w' => e = .returned (.int .i64 (K : Int)) ∧ Below w2.heap.size w2 w') := fun w2 K hb hv => (few_any ⟨k2, k3⟩ l.length h9 w2 q c l rfl (hNH.out w2 hb) hc k4).mono fun e w' ⟨⟨r, hr, he⟩, hb'⟩ => ⟨by rw [he, hr.out.1.uniq hv], hb'⟩
  have hSp : Hid (∀ w2, Below w.heap.size w w2 → Calls Try.prog 11 #[.slice q l.length c, .int .i64 size, .slice qb B.length cb] w2 fun e w' => e = .returned (.tuple #[.int .i64 0, .int .i64 1]) ∧ Below w2.heap.size w2 w') := fun w2 hb => by
    have h2 := Boxes_any (c := c) (cb := cb) size (hNH.out w2 hb) (hNB.out w2 hb) hBw
    have e : bxR l B size = (0, 1) := by 
      unfold bxR
      rw [if_neg (by omega)]
      by_cases e : B.length ≠ l.length
      · rw [if_pos e]
      · rw [if_neg e, if_neg (fun z => hL ⟨by omega, z⟩)]
    rw [e] at h2
    exact h2
  have hFt : Hid (∀ w2, Below w.heap.size w w2 → Calls Try.prog 12 #[.slice q l.length c, .int .i64 size] w2 fun e w' => e = .returned (.int .i64 0) ∧ w' = w2) := fun w2 hb => by
    have h2 := fault_any (c := c) size (hNH.out w2 hb)
    rw [hk] at h2
    exact h2
  have hCk : Hid (∀ w2, Below w.heap.size w w2 → Calls Try.prog 13 #[.slice q l.length c, .int .i64 size] w2 fun e w' => e = .returned (.int .i64 0) ∧ Below w2.heap.size w2 w') := fun w2 hb => by
    have h2 := Check_any (c := c) size (hNH.out w2 hb)
    rw [hk] at h2
    exact h2
  have hUp : Hid (∀ w2, Calls Try.prog 15 #[.int .i64 (l.length : Int)] w2 fun e w' => e = .returned (.slice (some ⟨w2.heap.size, 0, none⟩) l.length l.length) ∧ w'.ownsRow w2.heap.size 3 1 (.slice (some ⟨w2.heap.size, 0, none⟩) l.length l.length) l.length (numf (fun j => (j : Int)) l.length) ∧ Below w2.heap.size w2 w') := fun w2 => upTo_any (by omega)
  have hWk : Hid (∀ (w2 : World) (qr : Option Addr) (cr : Nat) (R : List Nat), Below w.heap.size w w2 → Perm0 l.length R → Nums w2 qr (R.map fun (i : Nat) => (i : Int)) → Calls Try.prog 14 #[.slice q l.length c, .int .i64 size, .slice qr l.length cr] w2 fun e w' => (∃ g, e = .returned (.tuple #[.slice (some ⟨g, 0, none⟩) l.length l.length, .int .i64 ((fsA l size R).m : Int)]) ∧ w'.ownsRow w2.heap.size 3 1 (.slice (some ⟨g, 0, none⟩) l.length l.length) l.length (numf (fsA l size R).inn l.length)) ∧ Below w2.heap.size w2 w') := fun w2 qr cr R hb hP hN => by
    have h2 := packed_any (cl := c) (cr := cr) (size := size) (hNH.out w2 hb) hN hk hP
    rw [hP.len, jin_all hP] at h2
    exact h2
  have hDw : Hid (∀ w2, Below w.heap.size w w2 → Calls Try.prog 16 #[.slice q l.length c] w2 fun e w' => DwO l w2.heap.size e w' ∧ Below w2.heap.size w2 w') := fun w2 hb => downward_any (hNH.out w2 hb) (by omega)
  have hEq : Hid (∀ (w2 : World) (E : Nat → Int) (p1 p2 : Option Addr) (c1 c2 B1 B2 : Nat), w2.ownsRow B1 3 1 (.slice p1 l.length c1) l.length (numf E l.length) → w2.ownsRow B2 3 1 (.slice p2 l.length c2) l.length (numf E l.length) → Calls Try.prog 17 #[.slice p1 l.length c1, .slice p2 l.length c2] w2 fun e w' => e = .returned (.bool true) ∧ Below w2.heap.size w2 w') := fun w2 E p1 p2 c1 c2 B1 B2 h1 h2 => equal_n h1 h2 (by omega)
  have hEq2 := hEq
  have hWk2 := hWk
  have hPr : Hid (Perm0 l.length (List.range l.length)) := Perm0.range _
  have hLd : Hid (∀ w2, Below w.heap.size w w2 → Calls Try.prog 19 #[.slice q l.length c, .int .i64 size, .slice qb B.length cb] w2 fun e w' => e = .returned (.int .i64 (-1)) ∧ w' = w2) := fun w2 hb => by
    have h2 := boxesOf_any (c := c) (cb := cb) size (hNH.out w2 hb) (hNB.out w2 hb) hk
    have e : bxP l B size = (-1) := by 
      unfold bxP
      by_cases e : B.length ≠ l.length
      · rw [if_pos e]
      · rw [if_neg e, if_neg (fun z => hL ⟨by omega, z⟩)]
    rw [e] at h2
    exact h2
  have hnn : ¬ (l.length : Int) < 0 := by omega
  have h9i : ¬ (9 : Int) < (l.length : Int) := by omega
  clear h hB hBw hc hk h9 hL k1 k2 k3 k4
  have A0 : Below w.heap.size w w := Below.refl _ _
  go_enter Try.func3, Try.ntmps3
  go_wp2_with (first
    | (go_at_call 8; refine (hRn.out _ A0).mono ?_; rintro e w1 ⟨⟨ga, rfl, ra⟩, hb1⟩; clear hRn; have A1 := A0.trans (hb1.mono A0.size))
    | (go_at_call 9; refine (hLg.out _ A1).mono ?_; rintro e w2 ⟨⟨R, hR, gb, rfl, rb⟩, hb2⟩; clear hLg; have A2 := A1.trans (hb2.mono A1.size); have B2 := hb2)
    | (go_at_call 10; refine (hLe.out _ A2).mono ?_; rintro e w3 ⟨⟨v, hv, rfl⟩, hb3⟩; clear hLe; have A3 := A2.trans (hb3.mono A2.size); have B3 := B2.trans (hb3.mono B2.size); have C3 := hb3)
    | (go_at_call 11; refine (hSp.out _ A3).mono ?_; rintro e w4 ⟨rfl, hb4⟩; clear hSp; have A4 := A3.trans (hb4.mono A3.size); have B4 := B3.trans (hb4.mono B3.size); have C4 := C3.trans (hb4.mono C3.size))
    | (go_at_call 12; refine (hFt.out _ A4).mono ?_; rintro e w41 ⟨rfl, hw41⟩; have hw42 := hw41.symm; subst hw42; clear hFt)
    | (go_at_call 13; refine (hCk.out _ A4).mono ?_; rintro e w43 ⟨rfl, hb43⟩; clear hCk; have A44 := A4.trans (hb43.mono A4.size); have B44 := B4.trans (hb43.mono B4.size); have C44 := C4.trans (hb43.mono C4.size))
    | (go_at_call 15; refine (hUp.out _).mono ?_; rintro e w5 ⟨rfl, ru, hb5⟩; clear hUp; have A5 := A44.trans (hb5.mono A44.size); have B5 := B44.trans (hb5.mono B44.size); have C5 := C44.trans (hb5.mono C44.size); have nu := nums_row ru; clear ru)
    | (go_at_call 14; refine (hWk.out _ _ _ _ A5 hPr.out nu).mono ?_; rintro e w6 ⟨⟨gx, rfl, rx⟩, hb6⟩; clear hWk nu; have A6 := A5.trans (hb6.mono A5.size); have B6 := B5.trans (hb6.mono B5.size); have C6 := C5.trans (hb6.mono C5.size))
    | (go_at_call 16; refine (hDw.out _ A6).mono ?_; rintro e w7 ⟨hdw, hb7⟩; obtain ⟨P, q7, c7, hP, rfl, r7⟩ := hdw; have eP := dwn_uniq hR.out.1 hR.out.2 hP; subst eP; have n7 := nums_row r7; rw [pgd_map hR.out.1.len] at n7; clear hDw r7 hP; have A7 := A6.trans (hb7.mono A6.size); have B7 := B6.trans (hb7.mono B6.size); have C7 := C6.trans (hb7.mono C6.size); have D7 := hb7)
    | (go_at_call 14; refine (hWk2.out _ _ _ _ A7 hR.out.1 n7).mono ?_; rintro e w8 ⟨⟨gy, rfl, ry⟩, hb8⟩; clear hWk2 n7; have A8 := A7.trans (hb8.mono A7.size); have B8 := B7.trans (hb8.mono B7.size); have C8 := C7.trans (hb8.mono C7.size); have D8 := D7.trans (hb8.mono D7.size))
    | (go_at_call 17; refine (hEq.out _ _ _ _ _ _ _ _ (row_below ra B8) (row_below rx D8)).mono ?_; rintro e w9 ⟨rfl, hb9⟩; clear hEq ra rx; have A9 := A8.trans (hb9.mono A8.size); have C9 := C8.trans (hb9.mono C8.size); have E9 := hb9)
    | (go_at_call 17; refine (hEq2.out _ _ _ _ _ _ _ _ (row_below rb C9) (row_below ry E9)).mono ?_; rintro e w10 ⟨rfl, hb10⟩; clear hEq2 rb ry; have A10 := A9.trans (hb10.mono A9.size))
    | (go_at_call 18; refine (hSS.out _ _ A10 hv.out).mono ?_; rintro e w11 ⟨rfl, hb11⟩; clear hSS; have A11 := A10.trans (hb11.mono A10.size))
    | (go_at_call 19; refine (hLd.out _ A11).mono ?_; rintro e w12 ⟨rfl, hw12⟩; have hw13 := hw12.symm; subst hw13; clear hLd)
    | fail)
  go_ret
  exact ⟨ret_b (by first | rfl | simp), A11⟩

set_option maxHeartbeats 4000000 in
set_option maxRecDepth 100000 in
theorem packTells_by (q : Option Addr) (l : List Int) (c : Nat) (size : Int) (qb : Option Addr) (B : List Int) (cb : Nat) (w : World) (h : Nums w q l) (hB : Nums w qb B) (hBw : ∀ x ∈ B, (Lit.int .i64 x).wf = true) (hc : l.length ≤ c) (hk : kc l size = 0) (h9 : 9 < l.length) (hL : B.length = l.length ∧ bxO l B size l.length = true) :
    Calls Try.prog 3 #[.slice q l.length c, .int .i64 size, .slice qb B.length cb] w fun e w' => e = .returned (.bool true) ∧ Below w.heap.size w w' := by
  obtain ⟨k1, k2, k3, k4⟩ := kc_ok hk
  have hNH : Hid (∀ w', Below w.heap.size w w' → Nums w' q l) := fun w' hb => h.below hb (Nat.le_refl _)
  have hNB : Hid (∀ w', Below w.heap.size w w' → Nums w' qb B) := fun w' hb => hB.below hb (Nat.le_refl _)
  have hRn : Hid (∀ w2, Below w.heap.size w w2 → Calls Try.prog 8 #[.slice q l.length c, .int .i64 size] w2 fun e w' => (∃ g, e = .returned (.tuple #[.slice (some ⟨g, 0, none⟩) l.length l.length, .int .i64 ((fsA l size (List.range l.length)).m : Int), .int .i64 0]) ∧ w'.ownsRow w2.heap.size 3 1 (.slice (some ⟨g, 0, none⟩) l.length l.length) l.length (numf (fsA l size (List.range l.length)).inn l.length)) ∧ Below w2.heap.size w2 w') := fun w2 hb => First_ok size (hNH.out w2 hb) hk
  have hLg : Hid (∀ w2, Below w.heap.size w w2 → Calls Try.prog 9 #[.slice q l.length c, .int .i64 size] w2 fun e w' => (∃ R, Hid (Perm0 l.length R ∧ Dwn l R) ∧ ∃ g, e = .returned (.tuple #[.slice (some ⟨g, 0, none⟩) l.length l.length, .int .i64 ((fsA l size R).m : Int), .int .i64 0]) ∧ w'.ownsRow w2.heap.size 3 1 (.slice (some ⟨g, 0, none⟩) l.length l.length) l.length (numf (fsA l size R).inn l.length)) ∧ Below w2.heap.size w2 w') := fun w2 hb => (Down_ok size (hNH.out w2 hb) hk).mono fun e w' ⟨⟨R, hP, hD, g, he, hr⟩, hb'⟩ => ⟨⟨R, ⟨hP, hD⟩, g, he, hr⟩, hb'⟩
  have hLe : Hid (∀ w2, Below w.heap.size w w2 → Calls Try.prog 10 #[.slice q l.length c, .int .i64 size] w2 fun e w' => e = .returned (.tuple #[.int .i64 0, .int .i64 2]) ∧ Below w2.heap.size w2 w') := fun w2 hb => Least_big (c := c) size (hNH.out w2 hb) hk (by omega)
  have hSp : Hid (∀ w2, Below w.heap.size w w2 → Calls Try.prog 11 #[.slice q l.length c, .int .i64 size, .slice qb B.length cb] w2 fun e w' => e = .returned (.tuple #[.int .i64 ((bxK B l.length).length : Int), .int .i64 0]) ∧ Below w2.heap.size w2 w') := fun w2 hb => by
    have h2 := Boxes_any (c := c) (cb := cb) size (hNH.out w2 hb) (hNB.out w2 hb) hBw
    have e : bxR l B size = (((bxK B l.length).length : Int), 0) := by unfold bxR; rw [if_neg (by omega), if_neg (by omega), if_pos hL.2]
    rw [e] at h2
    exact h2
  have hFt : Hid (∀ w2, Below w.heap.size w w2 → Calls Try.prog 12 #[.slice q l.length c, .int .i64 size] w2 fun e w' => e = .returned (.int .i64 0) ∧ w' = w2) := fun w2 hb => by
    have h2 := fault_any (c := c) size (hNH.out w2 hb)
    rw [hk] at h2
    exact h2
  have hCk : Hid (∀ w2, Below w.heap.size w w2 → Calls Try.prog 13 #[.slice q l.length c, .int .i64 size] w2 fun e w' => e = .returned (.int .i64 0) ∧ Below w2.heap.size w2 w') := fun w2 hb => by
    have h2 := Check_any (c := c) size (hNH.out w2 hb)
    rw [hk] at h2
    exact h2
  have hUp : Hid (∀ w2, Calls Try.prog 15 #[.int .i64 (l.length : Int)] w2 fun e w' => e = .returned (.slice (some ⟨w2.heap.size, 0, none⟩) l.length l.length) ∧ w'.ownsRow w2.heap.size 3 1 (.slice (some ⟨w2.heap.size, 0, none⟩) l.length l.length) l.length (numf (fun j => (j : Int)) l.length) ∧ Below w2.heap.size w2 w') := fun w2 => upTo_any (by omega)
  have hWk : Hid (∀ (w2 : World) (qr : Option Addr) (cr : Nat) (R : List Nat), Below w.heap.size w w2 → Perm0 l.length R → Nums w2 qr (R.map fun (i : Nat) => (i : Int)) → Calls Try.prog 14 #[.slice q l.length c, .int .i64 size, .slice qr l.length cr] w2 fun e w' => (∃ g, e = .returned (.tuple #[.slice (some ⟨g, 0, none⟩) l.length l.length, .int .i64 ((fsA l size R).m : Int)]) ∧ w'.ownsRow w2.heap.size 3 1 (.slice (some ⟨g, 0, none⟩) l.length l.length) l.length (numf (fsA l size R).inn l.length)) ∧ Below w2.heap.size w2 w') := fun w2 qr cr R hb hP hN => by
    have h2 := packed_any (cl := c) (cr := cr) (size := size) (hNH.out w2 hb) hN hk hP
    rw [hP.len, jin_all hP] at h2
    exact h2
  have hDw : Hid (∀ w2, Below w.heap.size w w2 → Calls Try.prog 16 #[.slice q l.length c] w2 fun e w' => DwO l w2.heap.size e w' ∧ Below w2.heap.size w2 w') := fun w2 hb => downward_any (hNH.out w2 hb) (by omega)
  have hEq : Hid (∀ (w2 : World) (E : Nat → Int) (p1 p2 : Option Addr) (c1 c2 B1 B2 : Nat), w2.ownsRow B1 3 1 (.slice p1 l.length c1) l.length (numf E l.length) → w2.ownsRow B2 3 1 (.slice p2 l.length c2) l.length (numf E l.length) → Calls Try.prog 17 #[.slice p1 l.length c1, .slice p2 l.length c2] w2 fun e w' => e = .returned (.bool true) ∧ Below w2.heap.size w2 w') := fun w2 E p1 p2 c1 c2 B1 B2 h1 h2 => equal_n h1 h2 (by omega)
  have hEq2 := hEq
  have hWk2 := hWk
  have hPr : Hid (Perm0 l.length (List.range l.length)) := Perm0.range _
  have hLd : Hid (∀ w2, Below w.heap.size w w2 → Calls Try.prog 19 #[.slice q l.length c, .int .i64 size, .slice qb B.length cb] w2 fun e w' => e = .returned (.int .i64 ((bxK B l.length).length : Int)) ∧ w' = w2) := fun w2 hb => by
    have h2 := boxesOf_any (c := c) (cb := cb) size (hNH.out w2 hb) (hNB.out w2 hb) hk
    have e : bxP l B size = ((bxK B l.length).length : Int) := by unfold bxP; rw [if_neg (by omega), if_pos hL.2]
    rw [e] at h2
    exact h2
  have hnn : ¬ (l.length : Int) < 0 := by omega
  have h9i : (9 : Int) < (l.length : Int) := by omega
  generalize (bxK B l.length).length = nb at *
  have hnb : (0 : Int) ≤ (nb : Int) := by omega
  clear h hB hBw hc hk h9 hL k1 k2 k3 k4
  have A0 : Below w.heap.size w w := Below.refl _ _
  go_enter Try.func3, Try.ntmps3
  go_wp2_with (first
    | (go_at_call 8; refine (hRn.out _ A0).mono ?_; rintro e w1 ⟨⟨ga, rfl, ra⟩, hb1⟩; clear hRn; have A1 := A0.trans (hb1.mono A0.size))
    | (go_at_call 9; refine (hLg.out _ A1).mono ?_; rintro e w2 ⟨⟨R, hR, gb, rfl, rb⟩, hb2⟩; clear hLg; have A2 := A1.trans (hb2.mono A1.size); have B2 := hb2)
    | (go_at_call 10; refine (hLe.out _ A2).mono ?_; rintro e w3 ⟨rfl, hb3⟩; clear hLe; have A3 := A2.trans (hb3.mono A2.size); have B3 := B2.trans (hb3.mono B2.size); have C3 := hb3)
    | (go_at_call 11; refine (hSp.out _ A3).mono ?_; rintro e w4 ⟨rfl, hb4⟩; clear hSp; have A4 := A3.trans (hb4.mono A3.size); have B4 := B3.trans (hb4.mono B3.size); have C4 := C3.trans (hb4.mono C3.size))
    | (go_at_call 12; refine (hFt.out _ A4).mono ?_; rintro e w41 ⟨rfl, hw41⟩; have hw42 := hw41.symm; subst hw42; clear hFt)
    | (go_at_call 13; refine (hCk.out _ A4).mono ?_; rintro e w43 ⟨rfl, hb43⟩; clear hCk; have A44 := A4.trans (hb43.mono A4.size); have B44 := B4.trans (hb43.mono B4.size); have C44 := C4.trans (hb43.mono C4.size))
    | (go_at_call 15; refine (hUp.out _).mono ?_; rintro e w5 ⟨rfl, ru, hb5⟩; clear hUp; have A5 := A44.trans (hb5.mono A44.size); have B5 := B44.trans (hb5.mono B44.size); have C5 := C44.trans (hb5.mono C44.size); have nu := nums_row ru; clear ru)
    | (go_at_call 14; refine (hWk.out _ _ _ _ A5 hPr.out nu).mono ?_; rintro e w6 ⟨⟨gx, rfl, rx⟩, hb6⟩; clear hWk nu; have A6 := A5.trans (hb6.mono A5.size); have B6 := B5.trans (hb6.mono B5.size); have C6 := C5.trans (hb6.mono C5.size))
    | (go_at_call 16; refine (hDw.out _ A6).mono ?_; rintro e w7 ⟨hdw, hb7⟩; obtain ⟨P, q7, c7, hP, rfl, r7⟩ := hdw; have eP := dwn_uniq hR.out.1 hR.out.2 hP; subst eP; have n7 := nums_row r7; rw [pgd_map hR.out.1.len] at n7; clear hDw r7 hP; have A7 := A6.trans (hb7.mono A6.size); have B7 := B6.trans (hb7.mono B6.size); have C7 := C6.trans (hb7.mono C6.size); have D7 := hb7)
    | (go_at_call 14; refine (hWk2.out _ _ _ _ A7 hR.out.1 n7).mono ?_; rintro e w8 ⟨⟨gy, rfl, ry⟩, hb8⟩; clear hWk2 n7; have A8 := A7.trans (hb8.mono A7.size); have B8 := B7.trans (hb8.mono B7.size); have C8 := C7.trans (hb8.mono C7.size); have D8 := D7.trans (hb8.mono D7.size))
    | (go_at_call 17; refine (hEq.out _ _ _ _ _ _ _ _ (row_below ra B8) (row_below rx D8)).mono ?_; rintro e w9 ⟨rfl, hb9⟩; clear hEq ra rx; have A9 := A8.trans (hb9.mono A8.size); have C9 := C8.trans (hb9.mono C8.size); have E9 := hb9)
    | (go_at_call 17; refine (hEq2.out _ _ _ _ _ _ _ _ (row_below rb C9) (row_below ry E9)).mono ?_; rintro e w10 ⟨rfl, hb10⟩; clear hEq2 rb ry; have A10 := A9.trans (hb10.mono A9.size))
    | (go_at_call 19; refine (hLd.out _ A10).mono ?_; rintro e w12 ⟨rfl, hw12⟩; have hw13 := hw12.symm; subst hw13; clear hLd)
    | fail)
  go_ret
  exact ⟨ret_b (by first | rfl | simp), A10⟩

set_option maxHeartbeats 4000000 in
set_option maxRecDepth 100000 in
theorem packTells_bn (q : Option Addr) (l : List Int) (c : Nat) (size : Int) (qb : Option Addr) (B : List Int) (cb : Nat) (w : World) (h : Nums w q l) (hB : Nums w qb B) (hBw : ∀ x ∈ B, (Lit.int .i64 x).wf = true) (hc : l.length ≤ c) (hk : kc l size = 0) (h9 : 9 < l.length) (hL : ¬ (B.length = l.length ∧ bxO l B size l.length = true)) :
    Calls Try.prog 3 #[.slice q l.length c, .int .i64 size, .slice qb B.length cb] w fun e w' => e = .returned (.bool true) ∧ Below w.heap.size w w' := by
  obtain ⟨k1, k2, k3, k4⟩ := kc_ok hk
  have hNH : Hid (∀ w', Below w.heap.size w w' → Nums w' q l) := fun w' hb => h.below hb (Nat.le_refl _)
  have hNB : Hid (∀ w', Below w.heap.size w w' → Nums w' qb B) := fun w' hb => hB.below hb (Nat.le_refl _)
  have hRn : Hid (∀ w2, Below w.heap.size w w2 → Calls Try.prog 8 #[.slice q l.length c, .int .i64 size] w2 fun e w' => (∃ g, e = .returned (.tuple #[.slice (some ⟨g, 0, none⟩) l.length l.length, .int .i64 ((fsA l size (List.range l.length)).m : Int), .int .i64 0]) ∧ w'.ownsRow w2.heap.size 3 1 (.slice (some ⟨g, 0, none⟩) l.length l.length) l.length (numf (fsA l size (List.range l.length)).inn l.length)) ∧ Below w2.heap.size w2 w') := fun w2 hb => First_ok size (hNH.out w2 hb) hk
  have hLg : Hid (∀ w2, Below w.heap.size w w2 → Calls Try.prog 9 #[.slice q l.length c, .int .i64 size] w2 fun e w' => (∃ R, Hid (Perm0 l.length R ∧ Dwn l R) ∧ ∃ g, e = .returned (.tuple #[.slice (some ⟨g, 0, none⟩) l.length l.length, .int .i64 ((fsA l size R).m : Int), .int .i64 0]) ∧ w'.ownsRow w2.heap.size 3 1 (.slice (some ⟨g, 0, none⟩) l.length l.length) l.length (numf (fsA l size R).inn l.length)) ∧ Below w2.heap.size w2 w') := fun w2 hb => (Down_ok size (hNH.out w2 hb) hk).mono fun e w' ⟨⟨R, hP, hD, g, he, hr⟩, hb'⟩ => ⟨⟨R, ⟨hP, hD⟩, g, he, hr⟩, hb'⟩
  have hLe : Hid (∀ w2, Below w.heap.size w w2 → Calls Try.prog 10 #[.slice q l.length c, .int .i64 size] w2 fun e w' => e = .returned (.tuple #[.int .i64 0, .int .i64 2]) ∧ Below w2.heap.size w2 w') := fun w2 hb => Least_big (c := c) size (hNH.out w2 hb) hk (by omega)
  have hSp : Hid (∀ w2, Below w.heap.size w w2 → Calls Try.prog 11 #[.slice q l.length c, .int .i64 size, .slice qb B.length cb] w2 fun e w' => e = .returned (.tuple #[.int .i64 0, .int .i64 1]) ∧ Below w2.heap.size w2 w') := fun w2 hb => by
    have h2 := Boxes_any (c := c) (cb := cb) size (hNH.out w2 hb) (hNB.out w2 hb) hBw
    have e : bxR l B size = (0, 1) := by 
      unfold bxR
      rw [if_neg (by omega)]
      by_cases e : B.length ≠ l.length
      · rw [if_pos e]
      · rw [if_neg e, if_neg (fun z => hL ⟨by omega, z⟩)]
    rw [e] at h2
    exact h2
  have hFt : Hid (∀ w2, Below w.heap.size w w2 → Calls Try.prog 12 #[.slice q l.length c, .int .i64 size] w2 fun e w' => e = .returned (.int .i64 0) ∧ w' = w2) := fun w2 hb => by
    have h2 := fault_any (c := c) size (hNH.out w2 hb)
    rw [hk] at h2
    exact h2
  have hCk : Hid (∀ w2, Below w.heap.size w w2 → Calls Try.prog 13 #[.slice q l.length c, .int .i64 size] w2 fun e w' => e = .returned (.int .i64 0) ∧ Below w2.heap.size w2 w') := fun w2 hb => by
    have h2 := Check_any (c := c) size (hNH.out w2 hb)
    rw [hk] at h2
    exact h2
  have hUp : Hid (∀ w2, Calls Try.prog 15 #[.int .i64 (l.length : Int)] w2 fun e w' => e = .returned (.slice (some ⟨w2.heap.size, 0, none⟩) l.length l.length) ∧ w'.ownsRow w2.heap.size 3 1 (.slice (some ⟨w2.heap.size, 0, none⟩) l.length l.length) l.length (numf (fun j => (j : Int)) l.length) ∧ Below w2.heap.size w2 w') := fun w2 => upTo_any (by omega)
  have hWk : Hid (∀ (w2 : World) (qr : Option Addr) (cr : Nat) (R : List Nat), Below w.heap.size w w2 → Perm0 l.length R → Nums w2 qr (R.map fun (i : Nat) => (i : Int)) → Calls Try.prog 14 #[.slice q l.length c, .int .i64 size, .slice qr l.length cr] w2 fun e w' => (∃ g, e = .returned (.tuple #[.slice (some ⟨g, 0, none⟩) l.length l.length, .int .i64 ((fsA l size R).m : Int)]) ∧ w'.ownsRow w2.heap.size 3 1 (.slice (some ⟨g, 0, none⟩) l.length l.length) l.length (numf (fsA l size R).inn l.length)) ∧ Below w2.heap.size w2 w') := fun w2 qr cr R hb hP hN => by
    have h2 := packed_any (cl := c) (cr := cr) (size := size) (hNH.out w2 hb) hN hk hP
    rw [hP.len, jin_all hP] at h2
    exact h2
  have hDw : Hid (∀ w2, Below w.heap.size w w2 → Calls Try.prog 16 #[.slice q l.length c] w2 fun e w' => DwO l w2.heap.size e w' ∧ Below w2.heap.size w2 w') := fun w2 hb => downward_any (hNH.out w2 hb) (by omega)
  have hEq : Hid (∀ (w2 : World) (E : Nat → Int) (p1 p2 : Option Addr) (c1 c2 B1 B2 : Nat), w2.ownsRow B1 3 1 (.slice p1 l.length c1) l.length (numf E l.length) → w2.ownsRow B2 3 1 (.slice p2 l.length c2) l.length (numf E l.length) → Calls Try.prog 17 #[.slice p1 l.length c1, .slice p2 l.length c2] w2 fun e w' => e = .returned (.bool true) ∧ Below w2.heap.size w2 w') := fun w2 E p1 p2 c1 c2 B1 B2 h1 h2 => equal_n h1 h2 (by omega)
  have hEq2 := hEq
  have hWk2 := hWk
  have hPr : Hid (Perm0 l.length (List.range l.length)) := Perm0.range _
  have hLd : Hid (∀ w2, Below w.heap.size w w2 → Calls Try.prog 19 #[.slice q l.length c, .int .i64 size, .slice qb B.length cb] w2 fun e w' => e = .returned (.int .i64 (-1)) ∧ w' = w2) := fun w2 hb => by
    have h2 := boxesOf_any (c := c) (cb := cb) size (hNH.out w2 hb) (hNB.out w2 hb) hk
    have e : bxP l B size = (-1) := by 
      unfold bxP
      by_cases e : B.length ≠ l.length
      · rw [if_pos e]
      · rw [if_neg e, if_neg (fun z => hL ⟨by omega, z⟩)]
    rw [e] at h2
    exact h2
  have hnn : ¬ (l.length : Int) < 0 := by omega
  have h9i : (9 : Int) < (l.length : Int) := by omega
  clear h hB hBw hc hk h9 hL k1 k2 k3 k4
  have A0 : Below w.heap.size w w := Below.refl _ _
  go_enter Try.func3, Try.ntmps3
  go_wp2_with (first
    | (go_at_call 8; refine (hRn.out _ A0).mono ?_; rintro e w1 ⟨⟨ga, rfl, ra⟩, hb1⟩; clear hRn; have A1 := A0.trans (hb1.mono A0.size))
    | (go_at_call 9; refine (hLg.out _ A1).mono ?_; rintro e w2 ⟨⟨R, hR, gb, rfl, rb⟩, hb2⟩; clear hLg; have A2 := A1.trans (hb2.mono A1.size); have B2 := hb2)
    | (go_at_call 10; refine (hLe.out _ A2).mono ?_; rintro e w3 ⟨rfl, hb3⟩; clear hLe; have A3 := A2.trans (hb3.mono A2.size); have B3 := B2.trans (hb3.mono B2.size); have C3 := hb3)
    | (go_at_call 11; refine (hSp.out _ A3).mono ?_; rintro e w4 ⟨rfl, hb4⟩; clear hSp; have A4 := A3.trans (hb4.mono A3.size); have B4 := B3.trans (hb4.mono B3.size); have C4 := C3.trans (hb4.mono C3.size))
    | (go_at_call 12; refine (hFt.out _ A4).mono ?_; rintro e w41 ⟨rfl, hw41⟩; have hw42 := hw41.symm; subst hw42; clear hFt)
    | (go_at_call 13; refine (hCk.out _ A4).mono ?_; rintro e w43 ⟨rfl, hb43⟩; clear hCk; have A44 := A4.trans (hb43.mono A4.size); have B44 := B4.trans (hb43.mono B4.size); have C44 := C4.trans (hb43.mono C4.size))
    | (go_at_call 15; refine (hUp.out _).mono ?_; rintro e w5 ⟨rfl, ru, hb5⟩; clear hUp; have A5 := A44.trans (hb5.mono A44.size); have B5 := B44.trans (hb5.mono B44.size); have C5 := C44.trans (hb5.mono C44.size); have nu := nums_row ru; clear ru)
    | (go_at_call 14; refine (hWk.out _ _ _ _ A5 hPr.out nu).mono ?_; rintro e w6 ⟨⟨gx, rfl, rx⟩, hb6⟩; clear hWk nu; have A6 := A5.trans (hb6.mono A5.size); have B6 := B5.trans (hb6.mono B5.size); have C6 := C5.trans (hb6.mono C5.size))
    | (go_at_call 16; refine (hDw.out _ A6).mono ?_; rintro e w7 ⟨hdw, hb7⟩; obtain ⟨P, q7, c7, hP, rfl, r7⟩ := hdw; have eP := dwn_uniq hR.out.1 hR.out.2 hP; subst eP; have n7 := nums_row r7; rw [pgd_map hR.out.1.len] at n7; clear hDw r7 hP; have A7 := A6.trans (hb7.mono A6.size); have B7 := B6.trans (hb7.mono B6.size); have C7 := C6.trans (hb7.mono C6.size); have D7 := hb7)
    | (go_at_call 14; refine (hWk2.out _ _ _ _ A7 hR.out.1 n7).mono ?_; rintro e w8 ⟨⟨gy, rfl, ry⟩, hb8⟩; clear hWk2 n7; have A8 := A7.trans (hb8.mono A7.size); have B8 := B7.trans (hb8.mono B7.size); have C8 := C7.trans (hb8.mono C7.size); have D8 := D7.trans (hb8.mono D7.size))
    | (go_at_call 17; refine (hEq.out _ _ _ _ _ _ _ _ (row_below ra B8) (row_below rx D8)).mono ?_; rintro e w9 ⟨rfl, hb9⟩; clear hEq ra rx; have A9 := A8.trans (hb9.mono A8.size); have C9 := C8.trans (hb9.mono C8.size); have E9 := hb9)
    | (go_at_call 17; refine (hEq2.out _ _ _ _ _ _ _ _ (row_below rb C9) (row_below ry E9)).mono ?_; rintro e w10 ⟨rfl, hb10⟩; clear hEq2 rb ry; have A10 := A9.trans (hb10.mono A9.size))
    | (go_at_call 19; refine (hLd.out _ A10).mono ?_; rintro e w12 ⟨rfl, hw12⟩; have hw13 := hw12.symm; subst hw13; clear hLd)
    | fail)
  go_ret
  exact ⟨ret_b (by first | rfl | simp), A10⟩

theorem packTells_walk (q : Option Addr) (l : List Int) (c : Nat) (size : Int) (qb : Option Addr) (B : List Int) (cb : Nat) (w : World) (h : Nums w q l) (hB : Nums w qb B) (hBw : ∀ x ∈ B, (Lit.int .i64 x).wf = true) (hc : l.length ≤ c) (hcb : B.length ≤ cb) :
    Calls Try.prog 3 #[.slice q l.length c, .int .i64 size, .slice qb B.length cb] w fun e w' => e = .returned (.bool true) ∧ Below w.heap.size w w' := by
  by_cases hk : kc l size = 0
  · by_cases h9 : l.length ≤ 9
    · by_cases hL : B.length = l.length ∧ bxO l B size l.length = true
      · exact packTells_sy q l c size qb B cb w h hB hBw hc hk h9 hL
      · exact packTells_sn q l c size qb B cb w h hB hBw hc hk h9 hL
    · by_cases hL : B.length = l.length ∧ bxO l B size l.length = true
      · exact packTells_by q l c size qb B cb w h hB hBw hc hk (by omega) hL
      · exact packTells_bn q l c size qb B cb w h hB hBw hc hk (by omega) hL
  · exact packTells_bad q l c size qb B cb w h hB hBw hk
end Go.Proofs.Ytfnkboegbclnaaa
