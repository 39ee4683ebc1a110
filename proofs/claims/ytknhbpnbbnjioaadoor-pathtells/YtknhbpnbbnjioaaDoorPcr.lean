/- path.critical, path.Critical, path.leastAt. -/
import Derived.Test.YtknhbpnbbnjioaaDoorPwm
import Derived.Test.YtknhbpnbbnjioaaDoorPal
namespace Go.Proofs.YtknhbpnbbnjioaaDoor
open Go.RowKit Gm Pm
set_option linter.unusedSectionVars false
set_option linter.unusedVariables false

set_option maxHeartbeats 2000000 in
set_option maxRecDepth 100000 in
theorem critical_any {w : World} {N B1 B2 : Nat} {E L : Nat → Int} {S : Int} {pE pL : Option Addr} {cE cL : Nat} (hN : N ≤ 60) (hE : w.ownsRow B1 2 1 (.slice pE N cE) N (numf E N)) (hL : w.ownsRow B2 2 1 (.slice pL N cL) N (numf L N)) :
    Calls Tryd.prog 20 #[.agg #[.slice pE N cE, .slice pL N cL, .int .i64 S]] w fun e w' => ∃ (q : Option Addr) (c : Nat), e = .returned (.slice q (bl (crB E L) N).length c) ∧ w'.ownsRow w.heap.size 3 1 (.slice q (bl (crB E L) N).length c) (bl (crB E L) N).length (ints (bl (crB E L) N)) ∧ Below w.heap.size w w' := by
  have hnH : Hid (N ≤ 60) := hN
  have hbA : Below w.heap.size w (w.alloc (.cells #[.slice pE N cE, .slice pL N cL, .int .i64 S] 25)) := (Below.refl _ _).alloc (Nat.le_refl _) _
  have hn := heap_alloc_new w (.cells #[.slice pE N cE, .slice pL N cL, .int .i64 S] 25)
  have p0 := box_cell hn 0 rfl
  have hEA : Hid ((w.alloc (.cells #[.slice pE N cE, .slice pL N cL, .int .i64 S] 25)).ownsRow B1 2 1 (.slice pE N cE) N (numf E N)) := hE.alloc _
  have hLA : Hid ((w.alloc (.cells #[.slice pE N cE, .slice pL N cL, .int .i64 S] 25)).ownsRow B2 2 1 (.slice pL N cL) N (numf L N)) := hL.alloc _
  have hnH2 : Hid ((w.alloc (.cells #[.slice pE N cE, .slice pL N cL, .int .i64 S] 25)).heap[w.heap.size]? = some (.cells #[.slice pE N cE, .slice pL N cL, .int .i64 S] 25 (0, 0))) := hn
  have hsA : Hid (w.heap.size < (w.alloc (.cells #[.slice pE N cE, .slice pL N cL, .int .i64 S] 25)).heap.size) := by show _ < _; simp
  clear hN hE hL hn
  go_enter Tryd.func20, Tryd.ntmps20
  go_wp2
  have hbAH : Hid (Below w.heap.size w (w.alloc (.cells #[.slice pE N cE, .slice pL N cL, .int .i64 S] 25))) := hbA
  clear hbA p0
  generalize w.alloc (.cells #[.slice pE N cE, .slice pL N cL, .int .i64 S] 25) = wa at *
  generalize hgb : w.heap.size = gb at *
  have hgbH : Hid (w.heap.size = gb) := hgb
  clear hgb
  go_loopw [3, 8] (fun ov iv wr => ∃ (i : Nat) (q : Option Addr) (c : Nat), iv = .int .i64 i ∧ ov = .slice q (bl (crB E L) i).length c ∧ i ≤ N ∧ wr.ownsRow wa.heap.size 3 1 (.slice q (bl (crB E L) i).length c) (bl (crB E L) i).length (ints (bl (crB E L) i)) ∧ Below wa.heap.size wa wr)
    (fun _ iv _ => N - (intOf iv).toNat)
  case atStart => exact ⟨0, none, 0, rfl, rfl, Nat.zero_le _, World.ownsRow_nil _ _ _ _, Below.refl _ _⟩
  case round =>
    obtain ⟨i, q, c, rfl, rfl, hiN, hown, hbl⟩ := hrel
    by_cases hi : i < N
    · have hii : (i : Int) < (N : Int) := by omega
      have hi2 : Hid (i ≤ 100000) := by have := hnH.out; show _ ≤ _; omega
      have zr := (hbl.block gb hsA.out).trans hnH2.out
      have a0 := box_cell zr 0 rfl
      have a1 := box_cell zr 1 rfl
      obtain ⟨g1, rfl, e1, _⟩ := row_num (row_below hEA.out hbl) hi
      obtain ⟨g2, rfl, e2, _⟩ := row_num (row_below hLA.out hbl) hi
      have hsn := bl_succ (crB E L) i
      have hlen : Hid ((bl (crB E L) i).length ≤ 60) := by have := bl_len (crB E L) i; have := hnH.out; show _ ≤ _; omega
      have hk0 : ¬ (i : Int) < 0 := by omega
      have hkg : ¬ (N : Int) ≤ (i : Int) := by omega
      have hblH : Hid (Below wa.heap.size wa wr) := hbl
      have hownH : Hid (wr.ownsRow wa.heap.size 3 1 (.slice q (bl (crB E L) i).length c) (bl (crB E L) i).length (ints (bl (crB E L) i))) := hown
      clear hbl hown zr
      by_cases hc : E i = L i
      · have hcr : crB E L i = true := decide_eq_true hc
        rw [hcr] at hsn
        have hsnH : Hid (bl (crB E L) (i + 1) = bl (crB E L) i ++ [i]) := hsn
        rw [← hc] at e2
        clear hsn hcr hc
        generalize E i = x at *
        have hxx : (x == x) = true := by simp
        go_wp2
        go_quiet (fail)
        have hownq : Hid ((wr.drewN nq).ownsRow wa.heap.size 3 1 (.slice q (bl (crB E L) i).length c) (bl (crB E L) i).length (ints (bl (crB E L) i))) := hownH.out
        have hblq : Hid (Below wa.heap.size wa (wr.drewN nq)) := drewN_below hblH.out nq
        clear a0 a1 e1 e2
        generalize wr.drewN nq = wq at *
        have hown := hownq.out
        have hszw := hblq.out.size
        go_wp2_with (first
          | (at_builtin; obtain ⟨i0, hi9, hz0, hz1, hz2⟩ := info_parts info_int; refine wpList_append_own _ rfl _ _ 29 rfl wa.heap.size 3 i0 (.int .i64 0) 1 8 Tryd.underlying29 hi9 hz0 hz1 hz2 rfl (by decide) _ _ _ rfl (hown.alloc _) ⟨wq.heap.size, 0, none⟩ 1 1 [.int .i64 (i : Int)] rfl rfl (cells_new _ _ _) (fun v hv => by simp at hv; subst hv; rfl) (by unfold maxLen; have := hlen.out; omega) (by have := hlen.out; omega) (by simp; omega) ?_; intro v' w5 hown5 hgrow5 hnil5; clear hi9 hz0 hz1 hz2 hnil5; obtain ⟨g5, cap5, rfl⟩ := form_succ hown5)
          | go_in)
        have hgA : (wq.alloc (.cells #[.int .i64 (i : Int)] 3)).grownBy w5 (Value.ownBlock (.slice q (bl (crB E L) i).length c)) := hgrow5
        have hl1 : (bl (crB E L) (i + 1)).length = (bl (crB E L) i).length + 1 := by rw [hsnH.out]; simp
        refine ⟨⟨i + 1, some ⟨g5, 0, none⟩, cap5, ?_, by rw [hl1], hi, ?_, below_app hblq.out hown hgA (Nat.le_refl _) hszw⟩, ?_⟩
        · first | exact int_succ i | exact int_wsucc hi2.out
        · rw [hl1, hsnH.out]
          simp only [ints, List.map_append, List.map_cons, List.map_nil]
          exact hown5
        · first | exact meas_1 hi | exact meas_w hi hi2.out
      · have hcr : crB E L i = false := decide_eq_false hc
        rw [hcr] at hsn
        have hsnH : Hid (bl (crB E L) (i + 1) = bl (crB E L) i) := by show _ = _; rw [hsn]; simp
        have hxx : (E i == L i) = false := by simpa using hc
        clear hsn hcr hc
        generalize E i = x at *
        generalize L i = y at *
        go_wp2
        go_quiet (fail)
        go_wp2
        refine ⟨⟨i + 1, q, c, ?_, by rw [hsnH.out], hi, by rw [hsnH.out]; exact hownH.out, drewN_below hblH.out nq⟩, ?_⟩
        · first | exact int_succ i | exact int_wsucc hi2.out
        · first | exact meas_1 hi | exact meas_w hi hi2.out
    · have hii : ¬ (i : Int) < (N : Int) := by omega
      have e : i = N := by omega
      subst e
      have hszA := hbAH.out.size
      go_wp2
      go_ret
      rw [hgbH.out]
      exact ⟨q, c, rfl, owns_base' hown (by rw [← hgbH.out]; exact hszA), hbAH.out.trans (hbl.mono (by rw [← hgbH.out]; exact hszA))⟩

set_option maxHeartbeats 1000000 in
set_option maxRecDepth 100000 in
theorem leastAt_any {w : World} {N B1 B2 B3 m : Nat} {E L : Nat → Int} {S a : Int} {pE pL pa : Option Addr} {cE cL ca : Nat} {A : List Nat} (hN : N ≤ 60) (hE : w.ownsRow B1 2 1 (.slice pE N cE) N (numf E N)) (hL : w.ownsRow B2 2 1 (.slice pL N cL) N (numf L N)) (hA : w.ownsRow B3 3 1 (.slice pa m ca) m (ints A)) (hm : A.length = m) (hm4 : m ≤ 4000) (hlt : ∀ x ∈ A, x < N) :
    Calls Tryd.prog 21 #[.agg #[.slice pE N cE, .slice pL N cL, .int .i64 S], .slice pa m ca, .int .i64 a] w fun e w' => e = .returned (.tuple #[.int .i64 ((lsA E L a A).1 : Int), .bool (lsA E L a A).2]) ∧ Below w.heap.size w w' := by
  have hnH : Hid (N ≤ 60) := hN
  have hm4H : Hid (m ≤ 4000) := hm4
  have hmH : Hid (A.length = m) := hm
  have hltH : Hid (∀ x ∈ A, x < N) := hlt
  have hbA : Below w.heap.size w (w.alloc (.cells #[.slice pE N cE, .slice pL N cL, .int .i64 S] 25)) := (Below.refl _ _).alloc (Nat.le_refl _) _
  have hn := heap_alloc_new w (.cells #[.slice pE N cE, .slice pL N cL, .int .i64 S] 25)
  have a0 := box_cell hn 0 rfl
  have a1 := box_cell hn 1 rfl
  have hEA := hE.alloc (.cells #[.slice pE N cE, .slice pL N cL, .int .i64 S] 25)
  have hLA := hL.alloc (.cells #[.slice pE N cE, .slice pL N cL, .int .i64 S] 25)
  have hAA := hA.alloc (.cells #[.slice pE N cE, .slice pL N cL, .int .i64 S] 25)
  have hEH : Hid ((w.alloc (.cells #[.slice pE N cE, .slice pL N cL, .int .i64 S] 25)).ownsRow B1 2 1 (.slice pE N cE) N (numf E N)) := hEA
  have hLH : Hid ((w.alloc (.cells #[.slice pE N cE, .slice pL N cL, .int .i64 S] 25)).ownsRow B2 2 1 (.slice pL N cL) N (numf L N)) := hLA
  have hAH : Hid ((w.alloc (.cells #[.slice pE N cE, .slice pL N cL, .int .i64 S] 25)).ownsRow B3 3 1 (.slice pa m ca) m (ints A)) := hAA
  have hbAH : Hid (Below w.heap.size w (w.alloc (.cells #[.slice pE N cE, .slice pL N cL, .int .i64 S] 25))) := hbA
  clear hN hm4 hm hlt hE hL hA hEA hLA hAA hn hbA
  go_enter Tryd.func21, Tryd.ntmps21
  go_wp2
  generalize w.alloc (.cells #[.slice pE N cE, .slice pL N cL, .int .i64 S] 25) = wa at *
  generalize hgb : w.heap.size = gb at *
  have hgbH : Hid (w.heap.size = gb) := hgb
  clear hgb
  go_loopw [8, 9, 14] (fun lv fv iv wr => ∃ k : Nat, iv = .int .i64 k ∧ lv = .int .i64 ((lsA E L a (A.take k)).1 : Int) ∧ fv = .bool (lsA E L a (A.take k)).2 ∧ k ≤ m ∧ wr = wa)
    (fun _ _ iv _ => m - (intOf iv).toNat)
  case atStart => exact ⟨0, rfl, rfl, rfl, Nat.zero_le _, rfl⟩
  case round =>
    obtain ⟨k, rfl, rfl, rfl, hkm, rfl⟩ := hrel
    by_cases hk : k < m
    · have hki : (k : Int) < (m : Int) := by omega
      have hk2 : Hid (k ≤ 100000) := by have := hm4H.out; show _ ≤ _; omega
      obtain ⟨ga, rfl, s0, _⟩ := row_at hAH.out hmH.out hk
      have hxn : bn A k < N := hltH.out _ (bn_mem (by have := hmH.out; omega))
      have hst : Hid (lsA E L a (A.take (k + 1)) = lsS E L a (lsA E L a (A.take k)) (bn A k)) := by show _ = _; rw [take_bn (by have := hmH.out; omega), lsA_snoc]
      generalize bn A k = x at *
      generalize lsA E L a (A.take k) = s at *
      obtain ⟨sl, sf⟩ := s
      simp only at hst ⊢
      obtain ⟨g1, rfl, e1, _⟩ := row_num hEH.out hxn
      obtain ⟨g2, rfl, e2, _⟩ := row_num hLH.out hxn
      have hxi : (x : Int) < (N : Int) := by omega
      have hx0 : ¬ (x : Int) < 0 := by omega
      have hxg : ¬ (N : Int) ≤ (x : Int) := by omega
      unfold lsS at hst
      by_cases c1 : E x = a
      · have d1 : (E x == a) = true := by simpa using c1
        by_cases c2 : L x = a
        · have d2 : (L x == a) = true := by simpa using c2
          cases sf with
          | false =>
            rw [if_pos ⟨c1, c2, Or.inl rfl⟩] at hst
            clear c1 c2
            generalize E x = y1 at *
            generalize L x = y2 at *
            go_wp2
            refine ⟨⟨k + 1, ?_, by rw [hst.out], by rw [hst.out], hk, by first | rfl | trivial⟩, ?_⟩
            · first | exact int_succ k | exact int_wsucc hk2.out
            · first | exact meas_1 hk | exact meas_w hk hk2.out
          | true =>
            by_cases c3 : x < sl
            · have d3 : (x : Int) < (sl : Int) := by omega
              rw [if_pos ⟨c1, c2, Or.inr c3⟩] at hst
              clear c1 c2 c3
              generalize E x = y1 at *
              generalize L x = y2 at *
              go_wp2
              refine ⟨⟨k + 1, ?_, by rw [hst.out], by rw [hst.out], hk, by first | rfl | trivial⟩, ?_⟩
              · first | exact int_succ k | exact int_wsucc hk2.out
              · first | exact meas_1 hk | exact meas_w hk hk2.out
            · have d3 : ¬ (x : Int) < (sl : Int) := by omega
              rw [if_neg (fun h => by rcases h.2.2 with h | h; exact absurd h (by simp); exact c3 h)] at hst
              clear c1 c2 c3
              generalize E x = y1 at *
              generalize L x = y2 at *
              go_wp2
              refine ⟨⟨k + 1, ?_, by rw [hst.out], by rw [hst.out], hk, by first | rfl | trivial⟩, ?_⟩
              · first | exact int_succ k | exact int_wsucc hk2.out
              · first | exact meas_1 hk | exact meas_w hk hk2.out
        · have d2 : (L x == a) = false := by simpa using c2
          rw [if_neg (fun h => c2 h.2.1)] at hst
          clear c1 c2
          generalize E x = y1 at *
          generalize L x = y2 at *
          go_wp2
          refine ⟨⟨k + 1, ?_, by rw [hst.out], by rw [hst.out], hk, by first | rfl | trivial⟩, ?_⟩
          · first | exact int_succ k | exact int_wsucc hk2.out
          · first | exact meas_1 hk | exact meas_w hk hk2.out
      · have d1 : (E x == a) = false := by simpa using c1
        rw [if_neg (fun h => c1 h.1)] at hst
        clear c1
        generalize E x = y1 at *
        generalize L x = y2 at *
        go_wp2
        refine ⟨⟨k + 1, ?_, by rw [hst.out], by rw [hst.out], hk, by first | rfl | trivial⟩, ?_⟩
        · first | exact int_succ k | exact int_wsucc hk2.out
        · first | exact meas_1 hk | exact meas_w hk hk2.out
    · have hki : ¬ (k : Int) < (m : Int) := by omega
      have e : A.take k = A := List.take_of_length_le (by have := hmH.out; omega)
      rw [e]
      clear a0 a1
      go_wp2
      go_ret2
      rw [hgbH.out]
      exact ⟨rfl, hbAH.out⟩

set_option maxHeartbeats 1000000 in
set_option maxRecDepth 100000 in
theorem Critical_ok {n : Int} {w : World} {q pd : Option Addr} {l : List Ed} {d : List Int} {cap cd : Nat} {E L : Nat → Int} {S : Int} (h : Eds w q l) (hZ : TabZ w) (hd : Nums w pd d) (he : pe n l d = 0) (hP : Pln l (nm d) d.length E L S) :
    Calls Tryd.prog 5 #[.int .i64 n, .slice q l.length cap, .slice pd d.length cd] w fun e w' => ∃ (p : Option Addr) (c : Nat), e = .returned (.tuple #[.slice p (bl (crB E L) d.length).length c, .int .i64 0]) ∧ w'.ownsRow w.heap.size 3 1 (.slice p (bl (crB E L) d.length).length c) (bl (crB E L) d.length).length (ints (bl (crB E L) d.length)) ∧ Below w.heap.size w w' := by
  obtain ⟨hc0, hdn, hdu, hac⟩ := pe_zero he
  obtain ⟨hn0, hn60, hl4, _⟩ := chk_ok hc0
  have hgr : Gr d.length l := by have h3 := chk_gr hc0; rwa [show n.toNat = d.length by omega] at h3
  have hti := times_ok (cap := cap) (cd := cd) h hZ hd he
  have huq : Hid (∀ E' L' S', Pln l (nm d) d.length E' L' S' → (∀ j, j < d.length → E' j = E j) ∧ (∀ j, j < d.length → L' j = L j) ∧ S' = S) := fun E' L' S' h' => h'.uniq hgr hac hP
  have hnH : Hid (d.length ≤ 60) := hgr.n60
  clear h hZ hd he hP hc0 hdn hdu hac hgr hl4 hn0 hn60
  generalize d.length = N at *
  go_enter Tryd.func5, Tryd.ntmps5
  go_wp2_with (first
    | (go_at_call 4; refine hti.mono ?_; rintro e w2 ⟨⟨E', L', S', pE, cE, pL, cL, rfl, hP', hE2, hL2⟩, hb2⟩; clear hti; obtain ⟨u1, u2, rfl⟩ := huq.out E' L' S' hP'; clear huq hP'; rw [numf_congr u1] at hE2; rw [numf_congr u2] at hL2; clear u1 u2; obtain ⟨hbz, hz⟩ := plan_box w2 #[.slice pE N cE, .slice pL N cL, .int .i64 S'])
    | (refine wpList_store_row rfl 25 _ _ rfl _ #[.slice pE N cE, .slice pL N cL, .int .i64 S'] rfl rfl _ _ (heap_alloc_new w2 _) (plan_info _ rfl) rfl (plan_one _ _ _ _ _ _ _) ?_; generalize World.setRow (w2.alloc (.cells #[.slice none 0 0, .slice none 0 0, .int .i64 0] 25)) w2.heap.size #[.slice pE N cE, .slice pL N cL, .int .i64 S'] = wz at *; have hcr := critical_any (S := S') hnH.out (row_below hE2 hbz) (row_below hL2 hbz))
    | (refine wpList_load_row rfl 25 _ rfl _ rfl _ _ _ _ hz Tryd.underlying25 rfl (plan_info _ rfl) ?_)
    | (go_at_call 20; refine hcr.mono ?_; rintro e w4 ⟨p4, c4, rfl, hR4, hb4⟩; clear hcr)
    | go_in)
  go_ret2
  have hs1 := hb2.size
  have hs2 := hbz.size
  exact ⟨p4, c4, rfl, owns_base' hR4 (by omega), hb2.trans ((hbz.trans (hb4.mono hs2)).mono hs1)⟩
end Go.Proofs.YtknhbpnbbnjioaaDoor
