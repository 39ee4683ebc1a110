/- PathTells, walked. -/
import Derived.Test.YtknhbpnbbnjioaaDoorPtb
namespace Go.Proofs.YtknhbpnbbnjioaaDoor
open Go.RowKit Gm Pm
set_option linter.unusedSectionVars false
set_option linter.unusedVariables false

theorem eB_mem {l : List Ed} {i j : Nat} : eB l i j = true ↔ (⟨(i : Int), (j : Int)⟩ : Ed) ∈ l := by
  rw [eB_true]
  exact ⟨fun ⟨e, he, h1, h2⟩ => by cases e; simp only at h1 h2; subst h1; subst h2; exact he, fun h => ⟨_, h, rfl, rfl⟩⟩

set_option maxHeartbeats 4000000 in
set_option maxRecDepth 100000 in
theorem pathTells_good (n : Int) (q : Option Addr) (l : List Ed) (cap : Nat) (pd : Option Addr) (d : List Int) (cd : Nat) (w : World) (hZ : TabZ w) (h : Eds w q l) (hd : Nums w pd d) (h0 : pe n l d = 0) :
    Calls Tryd.prog 3 #[.int .i64 n, .slice q l.length cap, .slice pd d.length cd] w fun e w' => e = .returned (.bool true) ∧ Below w.heap.size w w' := by
  have hEb : Hid (∀ w1, Below w.heap.size w w1 → Eds w1 q l) := fun w1 hb => h.below hb (Nat.le_refl _)
  have hdb : Hid (∀ w1, Below w.heap.size w w1 → Nums w1 pd d) := fun w1 hb => hd.below hb (Nat.le_refl _)
  have hZb : Hid (∀ w1, Below w.heap.size w w1 → TabZ w1) := fun w1 hb => hZ.below hb (Nat.le_refl _)
  have hti := times_ok (cap := cap) (cd := cd) h hZ hd h0
  have hwy : Hid (∀ w1 E L S, Below w.heap.size w w1 → Pln l (nm d) d.length E L S → _) := fun w1 E L S hb hP => Way_ok (cap := cap) (cd := cd) (hEb.out w1 hb) (hZb.out w1 hb) (hdb.out w1 hb) h0 hP
  have hcr : Hid (∀ w1 E L S, Below w.heap.size w w1 → Pln l (nm d) d.length E L S → _) := fun w1 E L S hb hP => Critical_ok (cap := cap) (cd := cd) (hEb.out w1 hb) (hZb.out w1 hb) (hdb.out w1 hb) h0 hP
  have htf : Hid (∀ w1, Below w.heap.size w w1 → _) := fun w1 hb => timesFault_any (n := n) (cap := cap) (cd := cd) (hEb.out w1 hb) (hdb.out w1 hb)
  rw [h0] at htf
  obtain ⟨hc0, hdn, hdu, hac⟩ := pe_zero h0
  obtain ⟨hn0, hn60, hl4, _⟩ := chk_ok hc0
  obtain ⟨N, rfl⟩ : ∃ N : Nat, n = N := ⟨n.toNat, by omega⟩
  have hdN : d.length = N := by omega
  have hdNH : Hid (d.length = N) := hdN
  have hgH : Hid (Gr N l) := by have h3 := chk_gr hc0; rw [Int.toNat_natCast] at h3; exact h3
  have hlH : Hid (l.length ≤ 400) := hl4
  have hacH : Hid (∀ i, ¬ Rch (eB l) i i) := hac
  have hDH : Hid (∀ i, i < N → 0 ≤ nm d i ∧ nm d i ≤ 1000000000) := dur_nm hdN hdu
  have hnH : Hid (N ≤ 60) := hgH.out.n60
  have hpo : Hid (∀ w1 E L S, Below w.heap.size w w1 → Pln l (nm d) N E L S → _) := fun w1 E L S hb hP => planOf_any (cap := cap) (cd := cd) (hEb.out w1 hb) (hdb.out w1 hb) hgH.out hlH.out hdNH.out hacH.out hDH.out hP
  rw [hdN] at hti hwy hcr htf ⊢
  have hN60 : (N : Int) ≤ 60 := hn60
  clear h hd hZ hZb h0 hc0 hdn hdu hac hl4 hdN hn0 hn60
  by_cases a1 : (25 : Int) < (N : Int)
  · go_enter Tryd.func3, Tryd.ntmps3
    go_wp2_with (first
      | (go_at_call 4; refine hti.mono ?_; rintro e w2 ⟨⟨E, L, S, pE, cE, pL, cL, rfl, hP, hE2, hL2⟩, hB2⟩; clear hti; have hPH : Hid (Pln l (nm d) N E L S) := hP; clear hP; obtain ⟨hbz, hz⟩ := plan_box w2 #[.slice pE N cE, .slice pL N cL, .int .i64 S])
      | (refine wpList_store_row rfl 25 _ _ rfl _ #[.slice pE N cE, .slice pL N cL, .int .i64 S] rfl rfl _ _ (heap_alloc_new w2 _) (plan_info _ rfl) rfl (plan_one _ _ _ _ _ _ _) ?_; generalize World.setRow (w2.alloc (.cells #[.slice none 0 0, .slice none 0 0, .int .i64 0] 25)) w2.heap.size #[.slice pE N cE, .slice pL N cL, .int .i64 S] = wz at *; have hBz : Below w.heap.size w wz := hB2.trans (hbz.mono hB2.size); have hw3 := hcr.out wz E L S hBz hPH.out; clear hcr hbz hE2 hL2)
      | (go_at_call 5; refine hw3.mono ?_; rintro e w3 ⟨p3, c3, rfl, hR3, hb3⟩; clear hw3; have hB3 : Below w.heap.size w w3 := hBz.trans (hb3.mono hBz.size); have hw4 := hwy.out w3 E L S hB3 hPH.out; clear hwy)
      | (go_at_call 6; refine hw4.mono ?_; rintro e w4 ⟨⟨W, p4, c4, rfl, hR4, hWD⟩, hb4⟩; clear hw4 hWD; have hB4 : Below w.heap.size w w4 := hB3.trans (hb4.mono hB3.size))
      | go_in)
    go_ret
    exact ⟨by first | rfl | simp, hB4⟩
  · go_enter Tryd.func3, Tryd.ntmps3
    go_wp2_with (first
      | (go_at_call 4; refine hti.mono ?_; rintro e w2 ⟨⟨E, L, S, pE, cE, pL, cL, rfl, hP, hE2, hL2⟩, hB2⟩; clear hti; have hPH : Hid (Pln l (nm d) N E L S) := hP; clear hP; obtain ⟨hbz, hz⟩ := plan_box w2 #[.slice pE N cE, .slice pL N cL, .int .i64 S])
      | (refine wpList_store_row rfl 25 _ _ rfl _ #[.slice pE N cE, .slice pL N cL, .int .i64 S] rfl rfl _ _ (heap_alloc_new w2 _) (plan_info _ rfl) rfl (plan_one _ _ _ _ _ _ _) ?_; generalize World.setRow (w2.alloc (.cells #[.slice none 0 0, .slice none 0 0, .int .i64 0] 25)) w2.heap.size #[.slice pE N cE, .slice pL N cL, .int .i64 S] = wz at *; have hBz : Below w.heap.size w wz := hB2.trans (hbz.mono hB2.size); have hw3 := hcr.out wz E L S hBz hPH.out; have hEz := row_below hE2 hbz; have hLz := row_below hL2 hbz; clear hcr hbz hE2 hL2)
      | (go_at_call 5; refine hw3.mono ?_; rintro e w3 ⟨p3, c3, rfl, hR3, hb3⟩; clear hw3; have hB3 : Below w.heap.size w w3 := hBz.trans (hb3.mono hBz.size); have hw4 := hwy.out w3 E L S hB3 hPH.out; have hE3 := row_below hEz hb3; have hL3 := row_below hLz hb3; have hz3 := (hb3.block w2.heap.size (Array.getElem?_eq_some_iff.1 hz).1).trans hz; clear hwy hEz hLz hz hb3)
      | (go_at_call 6; refine hw4.mono ?_; rintro e w4 ⟨⟨W, p4, c4, rfl, hR4, hWD⟩, hb4⟩; clear hw4; have hWH : Hid (WyD l (nm d) E L N S W) := hWD; clear hWD; have hB4 : Below w.heap.size w w4 := hB3.trans (hb4.mono hB3.size); have hE4 := row_below hE3 hb4; have hL4 := row_below hL3 hb4; have hR34 := row_below hR3 hb4; have hz4 := (hb4.block w2.heap.size (Array.getElem?_eq_some_iff.1 hz3).1).trans hz3; clear hE3 hL3 hR3 hz3 hb4; have hw5 := htf.out w4 hB4; clear htf)
      | (go_at_call 7; refine hw5.mono ?_; rintro e w5 ⟨rfl, hb5⟩; clear hw5; have hB5 : Below w.heap.size w w5 := hB4.trans (hb5.mono hB4.size); have hE5 := row_below hE4 hb5; have hL5 := row_below hL4 hb5; have hR35 := row_below hR34 hb5; have hR45 := row_below hR4 hb5; have hz5 := (hb5.block w2.heap.size (Array.getElem?_eq_some_iff.1 hz4).1).trans hz4; clear hE4 hL4 hR34 hR4 hz4 hb5; have hw6 := hpo.out w5 E L S hB5 hPH.out; clear hpo)
      | (go_at_call 9; refine hw6.mono ?_; rintro e w6 ⟨⟨qE, dE, qL, dL, rfl, hX6, hY6⟩, hb6⟩; clear hw6; have hB6 : Below w.heap.size w w6 := hB5.trans (hb6.mono hB5.size); have hE6 := row_below hE5 hb6; have hL6 := row_below hL5 hb6; have hR36 := row_below hR35 hb6; have hR46 := row_below hR45 hb6; have hz6 := (hb6.block w2.heap.size (Array.getElem?_eq_some_iff.1 hz5).1).trans hz5; clear hE5 hL5 hR35 hR45 hz5 hb6; obtain ⟨hbu, hu⟩ := plan_box w6 #[.slice qE N dE, .slice qL N dL, .int .i64 S])
      | (refine wpList_store_row rfl 25 _ _ rfl _ #[.slice qE N dE, .slice qL N dL, .int .i64 S] rfl rfl _ _ (heap_alloc_new w6 _) (plan_info _ rfl) rfl (plan_one _ _ _ _ _ _ _) ?_; generalize World.setRow (w6.alloc (.cells #[.slice none 0 0, .slice none 0 0, .int .i64 0] 25)) w6.heap.size #[.slice qE N dE, .slice qL N dL, .int .i64 S] = wa at *)
      | go_in)
    have hBaH : Hid (Below w.heap.size w wa) := hB6.trans (hbu.mono hB6.size)
    have hEaH : Hid (wa.ownsRow w.heap.size 2 1 (.slice pE N cE) N (numf E N)) := row_below hE6 hbu
    have hLaH : Hid (wa.ownsRow w.heap.size 2 1 (.slice pL N cL) N (numf L N)) := row_below hL6 hbu
    have hXaH : Hid (wa.ownsRow w5.heap.size 2 1 (.slice qE N dE) N (numf E N)) := row_below hX6 hbu
    have hYaH : Hid (wa.ownsRow w5.heap.size 2 1 (.slice qL N dL) N (numf L N)) := row_below hY6 hbu
    have hCaH : Hid (wa.ownsRow wz.heap.size 3 1 (.slice p3 (bl (crB E L) N).length c3) (bl (crB E L) N).length (ints (bl (crB E L) N))) := row_below hR36 hbu
    have hWaH : Hid (wa.ownsRow w3.heap.size 3 1 (.slice p4 W.length c4) W.length (ints W)) := row_below hR46 hbu
    have hzaH : Hid (wa.heap[w2.heap.size]? = some (.cells #[.slice pE N cE, .slice pL N cL, .int .i64 S] 25 (0, 0))) := (hbu.block w2.heap.size (Array.getElem?_eq_some_iff.1 hz6).1).trans hz6
    have huaH : Hid (wa.heap[w6.heap.size]? = some (.cells #[.slice qE N dE, .slice qL N dL, .int .i64 S] 25 (0, 0))) := hu
    clear hB2 hBz hB3 hB4 hB5 hB6 hE6 hL6 hX6 hY6 hR36 hR46 hz6 hu hbu
    generalize w2.heap.size = gp at *
    generalize w6.heap.size = gu at *
    have hsA : Hid (gu < wa.heap.size) := (Array.getElem?_eq_some_iff.1 huaH.out).1
    go_loopw [15, 90] (fun ov iv wr => ∃ (i : Nat) (q : Option Addr) (c : Nat), iv = .int .i64 i ∧ ov = .slice q (bl (crB E L) i).length c ∧ i ≤ N ∧ wr.ownsRow wa.heap.size 3 1 (.slice q (bl (crB E L) i).length c) (bl (crB E L) i).length (ints (bl (crB E L) i)) ∧ Below wa.heap.size wa wr)
      (fun _ iv _ => N - (intOf iv).toNat)
    case atStart => exact ⟨0, none, 0, rfl, rfl, Nat.zero_le _, World.ownsRow_nil _ _ _ _, Below.refl _ _⟩
    case round =>
      obtain ⟨i, qt, ct, rfl, rfl, hiN, hown, hbl⟩ := hrel
      by_cases hi : i < N
      · have hii : (i : Int) < (N : Int) := by omega
        have hi2 : Hid (i ≤ 100000) := by have := hnH.out; show _ ≤ _; omega
        have zr := (hbl.block gu hsA.out).trans huaH.out
        have a0 := box_cell zr 0 rfl
        have b1 := box_cell zr 1 rfl
        obtain ⟨g1, rfl, e1, _⟩ := row_num (row_below hXaH.out hbl) hi
        obtain ⟨g2, rfl, e2, _⟩ := row_num (row_below hYaH.out hbl) hi
        have hsn := bl_succ (crB E L) i
        have hlen : Hid ((bl (crB E L) i).length ≤ 60) := by have := bl_len (crB E L) i; have := hnH.out; show _ ≤ _; omega
        have hk0 : ¬ (i : Int) < 0 := by omega
        have hkg : ¬ (N : Int) ≤ (i : Int) := by omega
        have hblH : Hid (Below wa.heap.size wa wr) := hbl
        have hownH : Hid (wr.ownsRow wa.heap.size 3 1 (.slice qt (bl (crB E L) i).length ct) (bl (crB E L) i).length (ints (bl (crB E L) i))) := hown
        clear hbl hown zr
        by_cases hc : E i = L i
        · have hcr : crB E L i = true := decide_eq_true hc
          rw [hcr] at hsn
          have hsnH : Hid (bl (crB E L) (i + 1) = bl (crB E L) i ++ [i]) := hsn
          rw [← hc] at e2
          clear hsn hcr hc
          generalize E i = x at *
          have hxx : (x == x) = true := by simp
          go_wp2
          go_quiet (fail)
          have hownq : Hid ((wr.drewN nq).ownsRow wa.heap.size 3 1 (.slice qt (bl (crB E L) i).length ct) (bl (crB E L) i).length (ints (bl (crB E L) i))) := hownH.out
          have hblq : Hid (Below wa.heap.size wa (wr.drewN nq)) := drewN_below hblH.out nq
          clear a0 b1 e1 e2
          generalize wr.drewN nq = wq at *
          have hown := hownq.out
          have hszw := hblq.out.size
          go_wp2_with (first
            | (at_builtin; obtain ⟨i0, hi9, hz0, hz1, hz2⟩ := info_parts info_int; refine wpList_append_own _ rfl _ _ 29 rfl wa.heap.size 3 i0 (.int .i64 0) 1 8 Tryd.underlying29 hi9 hz0 hz1 hz2 rfl (by decide) _ _ _ rfl (hown.alloc _) ⟨wq.heap.size, 0, none⟩ 1 1 [.int .i64 (i : Int)] rfl rfl (cells_new _ _ _) (fun v hv => by simp at hv; subst hv; rfl) (by unfold maxLen; have := hlen.out; omega) (by have := hlen.out; omega) (by simp; omega) ?_; intro v' w5 hown5 hgrow5 hnil5; clear hi9 hz0 hz1 hz2 hnil5; obtain ⟨g5, cap5, rfl⟩ := form_succ hown5)
            | go_in)
          have hgA : (wq.alloc (.cells #[.int .i64 (i : Int)] 3)).grownBy w5 (Value.ownBlock (.slice qt (bl (crB E L) i).length ct)) := hgrow5
          have hl1 : (bl (crB E L) (i + 1)).length = (bl (crB E L) i).length + 1 := by rw [hsnH.out]; simp
          refine ⟨⟨i + 1, some ⟨g5, 0, none⟩, cap5, ?_, by rw [hl1], hi, ?_, below_app hblq.out hown hgA (Nat.le_refl _) hszw⟩, ?_⟩
          · first | exact int_succ i | exact int_wsucc hi2.out
          · rw [hl1, hsnH.out]
            simp only [ints, List.map_append, List.map_cons, List.map_nil]
            exact hown5
          · first | exact meas_1 hi | exact meas_w hi hi2.out
        · have hcr : crB E L i = false := decide_eq_false hc
          rw [hcr] at hsn
          have hsnH : Hid (bl (crB E L) (i + 1) = bl (crB E L) i) := by show _ = _; rw [hsn]; simp
          have hxx : (E i == L i) = false := by simpa using hc
          clear hsn hcr hc
          generalize E i = x at *
          generalize L i = y at *
          go_wp2
          go_quiet (fail)
          go_wp2
          refine ⟨⟨i + 1, qt, ct, ?_, by rw [hsnH.out], hi, by rw [hsnH.out]; exact hownH.out, drewN_below hblH.out nq⟩, ?_⟩
          · first | exact int_succ i | exact int_wsucc hi2.out
          · first | exact meas_1 hi | exact meas_w hi hi2.out
      · have hii : ¬ (i : Int) < (N : Int) := by omega
        have e : N = i := by omega
        subst e
        have hBr : Hid (Below w.heap.size w wr) := hBaH.out.trans (hbl.mono hBaH.out.size)
        have hzr := (hbl.block gp (Array.getElem?_eq_some_iff.1 hzaH.out).1).trans hzaH.out
        have hur := (hbl.block gu hsA.out).trans huaH.out
        have hsp := samePlan_yes (S := S) (row_below hEaH.out hbl) (row_below hLaH.out hbl) (row_below hXaH.out hbl) (row_below hYaH.out hbl) (Nat.le_trans hnH.out (by omega))
        have hCr : Hid (wr.ownsRow wz.heap.size 3 1 (.slice p3 (bl (crB E L) N).length c3) (bl (crB E L) N).length (ints (bl (crB E L) N))) := row_below hCaH.out hbl
        have hWr : Hid (wr.ownsRow w3.heap.size 3 1 (.slice p4 W.length c4) W.length (ints W)) := row_below hWaH.out hbl
        have hTr : Hid (wr.ownsRow wa.heap.size 3 1 (.slice qt (bl (crB E L) N).length ct) (bl (crB E L) N).length (ints (bl (crB E L) N))) := hown
        have hXr : Hid (wr.ownsRow w5.heap.size 2 1 (.slice qE N dE) N (numf E N)) := row_below hXaH.out hbl
        have hC4 : Hid ((bl (crB E L) N).length ≤ 4000) := by have := bl_len (crB E L) N; have := hnH.out; show _ ≤ _; omega
        clear hown hbl hiN
        go_wp2_with (first
          | (refine load_wanted rfl 25 _ rfl _ rfl _ _ _ _ hzr Tryd.underlying25 rfl (plan_info _ rfl) ?_)
          | (refine load_wanted rfl 25 _ rfl _ rfl _ _ _ _ hur Tryd.underlying25 rfl (plan_info _ rfl) ?_)
          | (go_at_call 8; refine hsp.mono ?_; rintro e w7 ⟨rfl, hb7⟩; clear hsp; have heq := equal_i rfl (row_below hCr.out hb7) (row_below hTr.out hb7) hC4.out)
          | (go_at_call 10; refine heq.mono ?_; rintro e w8 ⟨rfl, hb8⟩; clear heq)
          | go_in)
        have hB8 : Hid (Below w.heap.size w w8) := hBr.out.trans ((hb7.trans (hb8.mono hb7.size)).mono hBr.out.size)
        have hb78 : Below wr.heap.size wr w8 := hb7.trans (hb8.mono hb7.size)
        have hz8 : Hid (w8.heap[gu]? = some (.cells #[.slice qE N dE, .slice qL N dL, .int .i64 S] 25 (0, 0))) := (hb78.block gu (Array.getElem?_eq_some_iff.1 hur).1).trans hur
        have hX8 : Hid (w8.ownsRow w5.heap.size 2 1 (.slice qE N dE) N (numf E N)) := row_below hXr.out hb78
        have hW8 : Hid (w8.ownsRow w3.heap.size 3 1 (.slice p4 W.length c4) W.length (ints W)) := row_below hWr.out hb78
        have hT8 : Hid (w8.ownsRow wa.heap.size 3 1 (.slice qt (bl (crB E L) N).length ct) (bl (crB E L) N).length (ints (bl (crB E L) N))) := row_below hTr.out hb78
        have hk0 := (hWH.out.sums hPH.out).1
        have hgu8 : Hid (gu < w8.heap.size) := (Array.getElem?_eq_some_iff.1 hz8.out).1
        clear hb7 hb8 hb78 hzr hur hCr hWr hTr hXr hBr
        go_loopw [17, 18] (fun rv av wv => ∃ (k : Nat) (p : Option Addr) (c : Nat), rv = .slice p k c ∧ av = .int .i64 (smW E S W k) ∧ k ≤ W.length ∧ (k < W.length ∨ N = 0) ∧ wv.ownsRow w8.heap.size 3 1 (.slice p k c) k (ints (W.take k)) ∧ Below w8.heap.size w8 wv)
          (fun rv _ _ => W.length - lenOf' rv)
        case atStart =>
          refine ⟨0, none, 0, rfl, by rw [hk0], Nat.zero_le _, ?_, World.ownsRow_nil _ _ _ _, Below.refl _ _⟩
          by_cases hN0 : N = 0
          · exact Or.inr hN0
          · refine Or.inl (Nat.pos_of_ne_zero fun h0 => hN0 (hWH.out.zero.1 (List.length_eq_zero_iff.1 h0)))
        case round =>
          clear hk0
          rename World => wv
          obtain ⟨k, p, c, rfl, rfl, hkW, hor, hown, hbl⟩ := hrel
          have hBv : Hid (Below w.heap.size w wv) := hB8.out.trans (hbl.mono hB8.out.size)
          by_cases hN0 : N = 0
          · have hW0 : W = [] := hWH.out.zero.2 hN0
            have hn0 : ¬ (0 : Int) < (N : Int) := by omega
            have hk0 : k = 0 := by rw [hW0] at hkW; simpa using hkW
            subst hk0
            have hWv := row_below hW8.out hbl
            have hlW : W.length = 0 := by rw [hW0]; rfl
            have heq9 := equal_i (L := []) (n := 0) (p1 := p4) (c1 := c4) (p2 := p) (c2 := c) rfl (by rw [hlW, hW0] at hWv; exact hWv) (by rw [hW0] at hown; exact hown) (by omega)
            rw [hlW]
            clear hWv hown hW0 hkW hor hbl
            go_wp2_with (first
              | (go_at_call 10; refine heq9.mono ?_; rintro e w9 ⟨rfl, hb9⟩; clear heq9)
              | go_in)
            go_ret
            exact ⟨by first | rfl | simp, hBv.out.trans (hb9.mono hBv.out.size)⟩
          · have hkl : k < W.length := by omega
            obtain ⟨t, ht, het, hfirst⟩ := hWH.out.pick hgH.out hacH.out hPH.out hkl
            have hfH : Hid (∀ s, s < t → ¬ (E (bn (bl (crB E L) N) s) = smW E S W k ∧ ∀ j, k = j + 1 → eB l (bn W j) (bn (bl (crB E L) N) s) = true)) := hfirst
            have hetH : Hid (bn (bl (crB E L) N) t = bn W k) := het
            have hsum : Hid (smW E S W k = E (bn W k) ∧ smW E S W (k + 1) = E (bn W k) + nm d (bn W k)) := (hWH.out.sums hPH.out).2.2 k hkl
            have hstop : Hid (smW E S W (k + 1) = S ↔ k + 1 = W.length) := hWH.out.stop hPH.out hkl
            have hinH : Hid (bn W k < N) := ((hWH.out.way.facts hgH.out hacH.out).1 _ (bn_mem hkl)).1
            have hfewH : Hid (W.length ≤ 61) := hWH.out.way.few hgH.out hacH.out
            have hkH : Hid (k < W.length) := hkl
            have htk : Hid (W.take (k + 1) = W.take k ++ [bn W k]) := take_bn hkl
            have hwe : Hid (∀ j, k = j + 1 → eB l (bn W j) (bn W k) = true) := fun j hj => by
              have := (hWH.out.way.idx.2 j (by rw [← hj]; exact hkl)).1
              rw [hj]; exact this
            have htH : Hid (t < (bl (crB E L) N).length) := ht
            have hblH : Hid (Below w8.heap.size w8 wv) := hbl
            have hownH : Hid (wv.ownsRow w8.heap.size 3 1 (.slice p k c) k (ints (W.take k))) := hown
            have hTv : Hid (wv.ownsRow wa.heap.size 3 1 (.slice qt (bl (crB E L) N).length ct) (bl (crB E L) N).length (ints (bl (crB E L) N))) := row_below hT8.out hbl
            have hmem : Hid (∀ s, s < (bl (crB E L) N).length → bn (bl (crB E L) N) s < N) := fun s hs => (mem_bl.1 (bn_mem hs)).1
            have hCl : Hid ((bl (crB E L) N).length ≤ 60) := by have := bl_len (crB E L) N; have := hnH.out; show _ ≤ _; omega
            have hn1 : (0 : Int) < (N : Int) := by omega
            have hk61 : (k : Int) ≤ 61 := by have := hfewH.out; omega
            clear hor hkW hfirst het ht hbl hown hkl hN0
            go_wp2
            go_loopw [19, 135] (fun nv iv wi => ∃ s : Nat, nv = .int .i64 (-1) ∧ iv = .int .i64 s ∧ s ≤ t ∧ Below wv.heap.size wv wi)
              (fun _ iv _ => t + 1 - (intOf iv).toNat)
            case atStart => exact ⟨0, rfl, rfl, Nat.zero_le _, Below.refl _ _⟩
            case round =>
              rename World => wi
              obtain ⟨s, rfl, rfl, hst, hbi⟩ := hrel
              have hsC : s < (bl (crB E L) N).length := Nat.lt_of_le_of_lt hst htH.out
              have hsz := hblH.out.size
              obtain ⟨gt, rfl, z0, _⟩ := row_at (row_below hTv.out hbi) rfl hsC
              have hzi := ((hblH.out.block gu hgu8.out).trans hz8.out)
              have hzj : wi.heap[gu]? = some (.cells #[.slice qE N dE, .slice qL N dL, .int .i64 S] 25 (0, 0)) := (hbi.block gu (Array.getElem?_eq_some_iff.1 hzi).1).trans hzi
              have a0 := box_cell hzj 0 rfl
              have hzjH : Hid (wi.heap[gu]? = some (.cells #[.slice qE N dE, .slice qL N dL, .int .i64 S] 25 (0, 0))) := hzj
              have hyN := hmem.out s hsC
              obtain ⟨g1, rfl, e1, _⟩ := row_num (row_below (row_below hX8.out hblH.out) hbi) hyN
              have hsi : (s : Int) < ((bl (crB E L) N).length : Int) := by omega
              have hyi : (bn (bl (crB E L) N) s : Int) < (N : Int) := by omega
              have hbiH : Hid (Below wv.heap.size wv wi) := hbi
              have hs2 : Hid (s ≤ 100000) := by have := hCl.out; show _ ≤ _; omega
              have hstH : Hid (s ≤ t) := hst
              have hb8i : Hid (Below w8.heap.size w8 wi) := hblH.out.trans (hbi.mono hsz)
              have hBi : Hid (Below w.heap.size w wi) := hB8.out.trans (hb8i.out.mono hB8.out.size)
              have hcon : Hid (∀ x y : Nat, _) := fun x y => contains_d (c := cap) (x : Int) (y : Int) rfl (hEb.out wi hBi.out) (Nat.le_trans hlH.out (by decide))
              have hwayc : Hid (∀ j, k = j + 1 → ∃ g, p = some ⟨g, 0, none⟩ ∧ wi.cell? ⟨g, k - 1, none⟩ = some (.int .i64 ((bn W j : Nat) : Int))) := fun j hj => by
                have hr := row_below hownH.out hbi
                obtain ⟨g, e, z, _⟩ := row_at hr (by rw [List.length_take]; have := hkH.out; omega) (show j < k by omega)
                refine ⟨g, e, ?_⟩
                have e2 : bn (W.take k) j = bn W j := by unfold bn; rw [List.getD_eq_getElem?_getD, List.getD_eq_getElem?_getD, List.getElem?_take_of_lt (by omega)]
                rw [show k - 1 = j by omega, z, e2]
              clear hbi hzi hzj hsz hst
              by_cases hs : s = t
              · subst hs
                rw [hetH.out] at z0 e1 hyi
                rw [← hsum.out.1] at e1
                generalize hyy : bn W k = y at *
                have hyNH : Hid (y < N) := hinH.out
                have hdnum : Hid (∀ w1, Below w.heap.size w w1 → ∃ db dof, pd = some ⟨db, dof, none⟩ ∧ w1.cell? ⟨db, dof + y, none⟩ = some (.int .i64 (nm d y))) := fun w1 hb => by
                  rcases hdb.out w1 hb with h0 | ⟨b, o, e, hA⟩
                  · have := hdNH.out; have := hyNH.out; omega
                  · exact ⟨b, o, e, hA.c y (by have := hdNH.out; have := hyNH.out; omega)⟩
                have hv0 : 0 ≤ smW E S W k := by rw [hsum.out.1]; exact hPH.out.e.lo y hyNH.out
                have hv1 : smW E S W k ≤ 60000000000 := by rw [hsum.out.1]; exact hPH.out.e.most hgH.out hacH.out hDH.out y hyNH.out
                obtain ⟨hd0, hd1⟩ := hDH.out y hyNH.out
                have hdlen : (y : Int) < (d.length : Int) := by have := hdNH.out; have := hyNH.out; omega
                have hsumV : Hid (smW E S W k = E y ∧ smW E S W (k + 1) = smW E S W k + nm d y) := by
                  have h1 := hsum.out
                  exact ⟨h1.1, by rw [h1.1]; exact h1.2⟩
                have hxx : (smW E S W k == smW E S W k) = true := by simp
                clear hsum
                have hsum := hsumV
                clear hsumV
                generalize smW E S W k = v at *
                generalize nm d y = dv at *
                have hy0 : ¬ (y : Int) < 0 := by omega
                by_cases hk0 : k = 0
                · have hneg : ¬ (0 : Int) ≤ (k : Int) - 1 := by omega
                  have hneg2 : ¬ (1 : Int) ≤ (k : Int) := by omega
                  have hownN := row_below hownH.out hbiH.out
                  have hb8N := hb8i
                  have hszw := hb8N.out.size
                  clear hk0 hwayc hcon
                  have hend : Hid (k + 1 = W.length ∨ k + 1 < W.length) := by have := hkH.out; show _ ∨ _; omega
                  by_cases hle : k + 1 = W.length
                  · have hee : (v + dv == S) = true := by rw [← hsum.out.2, hstop.out.2 hle]; simp
                    have hleH : Hid (k + 1 = W.length) := hle
                    have htkA : W = W.take k ++ [y] := by rw [← htk.out, hle, List.take_length]
                    have hintsA : Hid (ints W = ints (W.take k) ++ [.int .i64 (y : Int)]) := (congrArg ints htkA).trans (by simp [ints])
                    clear htkA
                    clear hle
                    rw [← hleH.out]
                    go_wp2_with (first
                        | (at_builtin; obtain ⟨i9, hi9, hz0, hz1, hz2⟩ := info_parts info_int; refine wpList_append_own _ rfl _ _ 29 rfl w8.heap.size 3 i9 (.int .i64 0) 1 8 Tryd.underlying29 hi9 hz0 hz1 hz2 rfl (by decide) _ _ _ rfl (hownN.alloc _) ⟨wi.heap.size, 0, none⟩ 1 1 [.int .i64 (y : Int)] rfl rfl (cells_new _ _ _) (fun v hv => by simp at hv; subst hv; rfl) (by unfold maxLen; omega) (by omega) (by simp; omega) ?_; intro v' w12 hown6 hgrow6 hnil6; clear hi9 hz0 hz1 hz2 hnil6; obtain ⟨g6, cap6, rfl⟩ := form_succ hown6; have hgA : (wi.alloc (.cells #[.int .i64 (y : Int)] 3)).grownBy w12 (Value.ownBlock (.slice p k c)) := hgrow6; have hb12 : Hid (Below w8.heap.size w8 w12) := below_app hb8N.out hownN hgA (Nat.le_refl _) hb8N.out.size; have hB12 : Hid (Below w.heap.size w w12) := hB8.out.trans (hb12.out.mono hB8.out.size); obtain ⟨db, dof, rfl, d0⟩ := hdnum.out w12 hB12.out; have hz12 := (hb12.out.block gu hgu8.out).trans hz8.out; have b2 := box_cell hz12 2 rfl; clear hz12 hgA hgrow6; have heq9 := equal_i (L := W) (n := k + 1) (p1 := p4) (c1 := c4) (p2 := some ⟨g6, 0, none⟩) (c2 := cap6) hleH.out.symm (by have := row_below hW8.out hb12.out; rw [← hleH.out] at this; exact this) (by have h7 := hown6; rw [hintsA.out]; exact h7) (by omega))
                        | (go_at_call 10; refine heq9.mono ?_; rintro e w9 ⟨rfl, hb9⟩; clear heq9)
                        | go_in)
                    go_ret
                    exact ⟨by first | rfl | simp, hB12.out.trans (hb9.mono hB12.out.size)⟩
                  · have hee : (v + dv == S) = false := by
                      have h1 : ¬ v + dv = S := by rw [← hsum.out.2]; exact fun e => hle (hstop.out.1 e)
                      simpa using h1
                    have hlH2 : Hid (k + 1 < W.length) := by have := hkH.out; show _ < _; omega
                    clear hle
                    go_wp2_with (first
                        | (at_builtin; obtain ⟨i9, hi9, hz0, hz1, hz2⟩ := info_parts info_int; refine wpList_append_own _ rfl _ _ 29 rfl w8.heap.size 3 i9 (.int .i64 0) 1 8 Tryd.underlying29 hi9 hz0 hz1 hz2 rfl (by decide) _ _ _ rfl (hownN.alloc _) ⟨wi.heap.size, 0, none⟩ 1 1 [.int .i64 (y : Int)] rfl rfl (cells_new _ _ _) (fun v hv => by simp at hv; subst hv; rfl) (by unfold maxLen; omega) (by omega) (by simp; omega) ?_; intro v' w12 hown6 hgrow6 hnil6; clear hi9 hz0 hz1 hz2 hnil6; obtain ⟨g6, cap6, rfl⟩ := form_succ hown6; have hgA : (wi.alloc (.cells #[.int .i64 (y : Int)] 3)).grownBy w12 (Value.ownBlock (.slice p k c)) := hgrow6; have hb12 : Hid (Below w8.heap.size w8 w12) := below_app hb8N.out hownN hgA (Nat.le_refl _) hb8N.out.size; have hB12 : Hid (Below w.heap.size w w12) := hB8.out.trans (hb12.out.mono hB8.out.size); obtain ⟨db, dof, rfl, d0⟩ := hdnum.out w12 hB12.out; have hz12 := (hb12.out.block gu hgu8.out).trans hz8.out; have b2 := box_cell hz12 2 rfl; clear hz12 hgA hgrow6)
                        | go_in)
                    refine ⟨⟨k + 1, some ⟨g6, 0, none⟩, cap6, rfl, by rw [hsum.out.2], Nat.le_of_lt hlH2.out, Or.inl hlH2.out, ?_, hb12.out⟩, ?_⟩
                    · rw [htk.out]
                      simp only [ints, List.map_append, List.map_cons, List.map_nil]
                      exact hown6
                    · have := hkH.out
                      simp [lenOf']
                      omega
                · obtain ⟨j, hj⟩ : ∃ j, k = j + 1 := ⟨k - 1, by omega⟩
                  have hpos : (0 : Int) ≤ (k : Int) - 1 := by omega
                  have hpos2 : (1 : Int) ≤ (k : Int) := by omega
                  have hlt9 : (k : Int) - 1 < (k : Int) := by omega
                  obtain ⟨gw, rfl, y0⟩ := hwayc.out j hj
                  have hcon1 := hcon.out (bn W j) y
                  have hmemb : Hid ((⟨((bn W j : Nat) : Int), (y : Int)⟩ : Ed) ∈ l) := eB_mem.1 (hwe.out j hj)
                  clear hk0 hwayc hcon hj
                  generalize bn W j = x at *
                  have hend : Hid (k + 1 = W.length ∨ k + 1 < W.length) := by have := hkH.out; show _ ∨ _; omega
                  by_cases hle : k + 1 = W.length
                  · have hee : (v + dv == S) = true := by rw [← hsum.out.2, hstop.out.2 hle]; simp
                    have hleH : Hid (k + 1 = W.length) := hle
                    have htkA : W = W.take k ++ [y] := by rw [← htk.out, hle, List.take_length]
                    have hintsA : Hid (ints W = ints (W.take k) ++ [.int .i64 (y : Int)]) := (congrArg ints htkA).trans (by simp [ints])
                    clear htkA
                    clear hle
                    rw [← hleH.out]
                    go_wp2_with (first
                        | (go_at_call 11; refine hcon1.mono ?_; rintro e w10 ⟨⟨z, rfl, hz⟩, hb10⟩; obtain rfl : z = true := hz.2 hmemb.out; clear hz hcon1; have hb8N : Hid (Below w8.heap.size w8 w10) := hb8i.out.trans (hb10.mono hb8i.out.size); have hszw := hb8N.out.size; have hownN := row_below (row_below hownH.out hbiH.out) hb10)
                        | (at_builtin; obtain ⟨i9, hi9, hz0, hz1, hz2⟩ := info_parts info_int; refine wpList_append_own _ rfl _ _ 29 rfl w8.heap.size 3 i9 (.int .i64 0) 1 8 Tryd.underlying29 hi9 hz0 hz1 hz2 rfl (by decide) _ _ _ rfl (hownN.alloc _) ⟨w10.heap.size, 0, none⟩ 1 1 [.int .i64 (y : Int)] rfl rfl (cells_new _ _ _) (fun v hv => by simp at hv; subst hv; rfl) (by unfold maxLen; omega) (by omega) (by simp; omega) ?_; intro v' w12 hown6 hgrow6 hnil6; clear hi9 hz0 hz1 hz2 hnil6; obtain ⟨g6, cap6, rfl⟩ := form_succ hown6; have hgA : (w10.alloc (.cells #[.int .i64 (y : Int)] 3)).grownBy w12 (Value.ownBlock (.slice (some ⟨gw, 0, none⟩) k c)) := hgrow6; have hb12 : Hid (Below w8.heap.size w8 w12) := below_app hb8N.out hownN hgA (Nat.le_refl _) hb8N.out.size; have hB12 : Hid (Below w.heap.size w w12) := hB8.out.trans (hb12.out.mono hB8.out.size); obtain ⟨db, dof, rfl, d0⟩ := hdnum.out w12 hB12.out; have hz12 := (hb12.out.block gu hgu8.out).trans hz8.out; have b2 := box_cell hz12 2 rfl; clear hz12 hgA hgrow6; have heq9 := equal_i (L := W) (n := k + 1) (p1 := p4) (c1 := c4) (p2 := some ⟨g6, 0, none⟩) (c2 := cap6) hleH.out.symm (by have := row_below hW8.out hb12.out; rw [← hleH.out] at this; exact this) (by have h7 := hown6; rw [hintsA.out]; exact h7) (by omega))
                        | (go_at_call 10; refine heq9.mono ?_; rintro e w9 ⟨rfl, hb9⟩; clear heq9)
                        | go_in)
                    go_ret
                    exact ⟨by first | rfl | simp, hB12.out.trans (hb9.mono hB12.out.size)⟩
                  · have hee : (v + dv == S) = false := by
                      have h1 : ¬ v + dv = S := by rw [← hsum.out.2]; exact fun e => hle (hstop.out.1 e)
                      simpa using h1
                    have hlH2 : Hid (k + 1 < W.length) := by have := hkH.out; show _ < _; omega
                    clear hle
                    go_wp2_with (first
                        | (go_at_call 11; refine hcon1.mono ?_; rintro e w10 ⟨⟨z, rfl, hz⟩, hb10⟩; obtain rfl : z = true := hz.2 hmemb.out; clear hz hcon1; have hb8N : Hid (Below w8.heap.size w8 w10) := hb8i.out.trans (hb10.mono hb8i.out.size); have hszw := hb8N.out.size; have hownN := row_below (row_below hownH.out hbiH.out) hb10)
                        | (at_builtin; obtain ⟨i9, hi9, hz0, hz1, hz2⟩ := info_parts info_int; refine wpList_append_own _ rfl _ _ 29 rfl w8.heap.size 3 i9 (.int .i64 0) 1 8 Tryd.underlying29 hi9 hz0 hz1 hz2 rfl (by decide) _ _ _ rfl (hownN.alloc _) ⟨w10.heap.size, 0, none⟩ 1 1 [.int .i64 (y : Int)] rfl rfl (cells_new _ _ _) (fun v hv => by simp at hv; subst hv; rfl) (by unfold maxLen; omega) (by omega) (by simp; omega) ?_; intro v' w12 hown6 hgrow6 hnil6; clear hi9 hz0 hz1 hz2 hnil6; obtain ⟨g6, cap6, rfl⟩ := form_succ hown6; have hgA : (w10.alloc (.cells #[.int .i64 (y : Int)] 3)).grownBy w12 (Value.ownBlock (.slice (some ⟨gw, 0, none⟩) k c)) := hgrow6; have hb12 : Hid (Below w8.heap.size w8 w12) := below_app hb8N.out hownN hgA (Nat.le_refl _) hb8N.out.size; have hB12 : Hid (Below w.heap.size w w12) := hB8.out.trans (hb12.out.mono hB8.out.size); obtain ⟨db, dof, rfl, d0⟩ := hdnum.out w12 hB12.out; have hz12 := (hb12.out.block gu hgu8.out).trans hz8.out; have b2 := box_cell hz12 2 rfl; clear hz12 hgA hgrow6)
                        | go_in)
                    refine ⟨⟨k + 1, some ⟨g6, 0, none⟩, cap6, rfl, by rw [hsum.out.2], Nat.le_of_lt hlH2.out, Or.inl hlH2.out, ?_, hb12.out⟩, ?_⟩
                    · rw [htk.out]
                      simp only [ints, List.map_append, List.map_cons, List.map_nil]
                      exact hown6
                    · have := hkH.out
                      simp [lenOf']
                      omega
              · have hltH : Hid (s < t) := by have := hstH.out; show _ < _; omega
                have hno := hfH.out s hltH.out
                generalize bn (bl (crB E L) N) s = y at *
                generalize smW E S W k = v at *
                have hnx : Hid (s + 1 ≤ t) := hltH.out
                by_cases he : E y = v
                · obtain ⟨j, hj, hnoe⟩ : ∃ j, k = j + 1 ∧ eB l (bn W j) y = false := by
                    by_cases hk0 : k = 0
                    · exact absurd ⟨he, fun j hj => by omega⟩ hno
                    · refine ⟨k - 1, by omega, ?_⟩
                      cases hq : eB l (bn W (k - 1)) y
                      · rfl
                      · refine absurd ⟨he, fun j hj => ?_⟩ hno
                        rw [show j = k - 1 by omega]; exact hq
                  rw [he] at e1
                  have hxx : (v == v) = true := by simp
                  have hpos : (0 : Int) ≤ (k : Int) - 1 := by omega
                  have hpos2 : (1 : Int) ≤ (k : Int) := by omega
                  have hlt9 : (k : Int) - 1 < (k : Int) := by omega
                  obtain ⟨gw, rfl, y0⟩ := hwayc.out j hj
                  have hcon1 := hcon.out (bn W j) y
                  have hmemb : Hid (¬ (⟨((bn W j : Nat) : Int), (y : Int)⟩ : Ed) ∈ l) := fun h => by
                    rw [eB_mem.2 h] at hnoe; cases hnoe
                  clear hwayc hcon hj hnoe hno he hs
                  generalize bn W j = x at *
                  go_wp2_with (first
                    | (go_at_call 11; refine hcon1.mono ?_; rintro e w10 ⟨⟨z, rfl, hz⟩, hb10⟩; have hzf : z = false := Bool.eq_false_iff.2 (fun h => hmemb.out (hz.1 h)); subst hzf; clear hz hcon1)
                    | go_in)
                  have hdec : decide (0 < N) = true := decide_eq_true (by omega)
                  try simp only [hdec]
                  refine ⟨⟨_, _, _, _, _, _, _, _, _, _, _, _, _, _, _, _, _, _, _, _, _, _, _, _, _, _, _, _, _, _, _, _, _, _, ⟨s + 1, rfl, ?_, hnx.out, hbiH.out.trans (hb10.mono hbiH.out.size)⟩, rfl⟩, ?_⟩
                  · first | exact int_succ s | exact int_wsucc hs2.out
                  · have := hnx.out; first | exact meas_1 (by omega) | exact meas_w (by omega) hs2.out
                · have hxx : (E y == v) = false := by simpa using he
                  generalize E y = ev at *
                  clear hwayc hcon hno he hs
                  go_wp2
                  refine ⟨⟨s + 1, rfl, ?_, hnx.out, hbiH.out⟩, ?_⟩
                  · first | exact int_succ s | exact int_wsucc hs2.out
                  · have := hnx.out; first | exact meas_1 (by omega) | exact meas_w (by omega) hs2.out

theorem pathTells_walk (n : Int) (q : Option Addr) (l : List Ed) (cap : Nat) (pd : Option Addr) (d : List Int) (cd : Nat) (w : World) (hZ : TabZ w) (h : Eds w q l) (hd : Nums w pd d) :
    Calls Tryd.prog 3 #[.int .i64 n, .slice q l.length cap, .slice pd d.length cd] w fun e w' => e = .returned (.bool true) ∧ Below w.heap.size w w' := by
  by_cases h0 : pe n l d = 0
  · exact pathTells_good n q l cap pd d cd w hZ h hd h0
  · exact pathTells_bad n q l cap pd d cd w hZ h hd h0
end Go.Proofs.YtknhbpnbbnjioaaDoor
