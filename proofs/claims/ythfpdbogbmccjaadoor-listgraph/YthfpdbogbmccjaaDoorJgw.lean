/- ListGraph, walked. -/
import Derived.Test.YthfpdbogbmccjaaDoorOsm
namespace Go.Proofs.YthfpdbogbmccjaaDoor
open Go.RowKit Gm Pm
set_option linter.unusedSectionVars false
set_option linter.unusedVariables false

theorem box_cellJ {w : World} {g : Nat} {cs : Array Value} {t : TypeId} (h : w.heap[g]? = some (.cells cs t (0, 0))) (j : Nat) {v : Value} (hj : cs[j]? = some v) : w.cell? ⟨g, j, none⟩ = some v := (cell_of_row _ _ j _ _ _ h).trans hj
theorem plan_boxJ (w : World) (cs : Array Value) : Below w.heap.size w ((w.alloc (.cells #[.slice none 0 0, .slice none 0 0, .int .i64 0] 35)).setRow w.heap.size cs) ∧ ((w.alloc (.cells #[.slice none 0 0, .slice none 0 0, .int .i64 0] 35)).setRow w.heap.size cs).heap[w.heap.size]? = some (.cells cs 35 (0, 0)) :=
  ⟨below_row ((Below.refl _ _).alloc (Nat.le_refl _) _) (Nat.le_refl _), setRow_heap _ w.heap.size _ _ _ _ (heap_alloc_new w _)⟩

set_option maxHeartbeats 4000000 in
set_option maxRecDepth 100000 in
theorem listGraph_walk (m n : Int) (q : Option Addr) (l : List Ed) (cap : Nat) (pd : Option Addr) (d : List Int) (cd : Nat) (w : World) (hZ : TabZ w) (h : Eds w q l) (hd : Nums w pd d) :
    Calls Tryd.prog 4 #[.int .i64 m, .int .i64 n, .slice q l.length cap, .slice pd d.length cd] w fun e w' => e = .returned (.bool true) ∧ Below w.heap.size w w' := by
  have hpa := lists_any w
  have hEb : Hid (∀ w1, Below w.heap.size w w1 → Eds w1 q l) := fun w1 hb => h.below hb (Nat.le_refl _)
  have hdb : Hid (∀ w1, Below w.heap.size w w1 → Nums w1 pd d) := fun w1 hb => hd.below hb (Nat.le_refl _)
  have hZb : Hid (∀ w1, Below w.heap.size w w1 → TabZ w1) := fun w1 hb => hZ.below hb (Nat.le_refl _)
  by_cases h0 : gc m n l d = 0
  · obtain ⟨hmc, hpe⟩ := gc_zero h0
    have hgo : Hid (∀ w1, Below w.heap.size w w1 → _) := fun w1 hb => graph_ok (cap := cap) (cd := cd) (hEb.out w1 hb) (hZb.out w1 hb) (hdb.out w1 hb) h0
    have hti : Hid (∀ w1, Below w.heap.size w w1 → _) := fun w1 hb => times_ok (cap := cap) (cd := cd) (hEb.out w1 hb) (hZb.out w1 hb) (hdb.out w1 hb) hpe
    obtain ⟨hc0, hdn, hdu, hac⟩ := pe_zero hpe
    obtain ⟨hn0, hn60, hl4, _⟩ := chk_ok hc0
    obtain ⟨N, rfl⟩ : ∃ N : Nat, n = N := ⟨n.toNat, by omega⟩
    obtain ⟨M, rfl⟩ : ∃ M : Nat, m = M := ⟨m.toNat, by omega⟩
    have hdN : d.length = N := by omega
    have hdall : ∀ x ∈ d, 0 ≤ x ∧ x ≤ 1000000000 := fun x hx => by
      unfold durB at hdu
      have := List.all_eq_true.1 hdu x hx
      simpa [spB] using this
    have hgr : Gr N l := by have h3 := chk_gr hc0; rwa [Int.toNat_natCast] at h3
    have hD : ∀ i, i < N → 0 ≤ nm d i ∧ nm d i ≤ 1000000000 := dur_nm hdN hdu
    have hsu : Hid (∀ w1, Below w.heap.size w w1 → Calls Tryd.prog 11 #[.slice pd d.length cd] w1 fun e w' => e = .returned (.int .i64 (sumR d)) ∧ w' = w1) := fun w1 hb => sum_any (hdb.out w1 hb) (by omega) (fun x hx => by have := hdall x hx; omega)
    have hfin : Hid (∀ w0 w1 gT t s E L S, Gok w0 w1 gT N M l (nm d) t s → Pln l (nm d) N E L S → wrap64 ((M : Int) * t) ≤ wrap64 (sumR d + wrap64 (wrap64 ((M : Int) - 1) * S)) ∧ S ≤ t ∧ sumR d ≤ wrap64 ((M : Int) * t)) := fun w0 w1 gT t s E L S hG hP => by
      obtain ⟨a1, a2, a3⟩ := graham_edges hG hgr hac hD (by omega) hP.e hP.s
      rw [← hdN, ← sumR_all] at a2 a3
      have hb := hG.run.bnd hgr hD
      have hSb := (hP.bounds hgr hac hD).2
      have hsb := sumR_bounds0 hdall
      have e1 := mul20 (a := (M : Int)) (b := t) (by omega) (by omega)
      have e2 := mul20 (a := (M : Int) - 1) (b := S) (by omega) (by omega)
      have w1 : wrap64 ((M : Int) * t) = (M : Int) * t := wrap_s (by omega)
      have w2 : wrap64 ((M : Int) - 1) = (M : Int) - 1 := wrap_s (by omega)
      have w3 : wrap64 (((M : Int) - 1) * S) = ((M : Int) - 1) * S := wrap_s (by omega)
      have w4 : wrap64 (sumR d + ((M : Int) - 1) * S) = sumR d + ((M : Int) - 1) * S := wrap_s (by omega)
      rw [w1, w2, w3, w4]
      exact ⟨a2, a1, a3⟩
    rw [Int.toNat_natCast, hdN] at hgo
    rw [hdN] at hti hsu ⊢
    clear h hd hZ h0 hmc hpe hc0 hdn hdu hac hl4 hdN hn0 hn60 hgr hD hdall hZb hEb hdb
    go_enter Tryd.func4, Tryd.ntmps4
    go_wp2_with (first
      | (go_at_call 9; refine hpa.mono ?_; rintro e w1 ⟨rfl, hB1⟩; clear hpa)
      | (go_at_call 5; refine (hgo.out w1 hB1).mono ?_; rintro e w2 ⟨⟨t, s, gT, rfl, hG⟩, hb2⟩; clear hgo; have hGH : Hid (Gok w1 w2 gT N M l (nm d) t s) := hG; have hB2 : Below w.heap.size w w2 := hB1.trans (hb2.mono hB1.size); clear hG)
      | (go_at_call 10; refine (hti.out w2 hB2).mono ?_; rintro e w3 ⟨⟨E, L, S, pE, cE, pL, cL, rfl, hP, hE2, hL2⟩, hb3⟩; clear hti hE2 hL2; have hPH : Hid (Pln l (nm d) N E L S) := hP; clear hP; have hB3 : Below w.heap.size w w3 := hB2.trans (hb3.mono hB2.size); obtain ⟨hbz, hz⟩ := plan_boxJ w3 #[.slice pE N cE, .slice pL N cL, .int .i64 S])
      | (refine wpList_store_row rfl 35 _ _ rfl _ #[.slice pE N cE, .slice pL N cL, .int .i64 S] rfl rfl _ _ (heap_alloc_new w3 _) (plan_info _ rfl) rfl (plan_one _ _ _ _ _ _ _) ?_; generalize World.setRow (w3.alloc (.cells #[.slice none 0 0, .slice none 0 0, .int .i64 0] 35)) w3.heap.size #[.slice pE N cE, .slice pL N cL, .int .i64 S] = wz at *; have p2 : wz.cell? ⟨w3.heap.size, 2, none⟩ = some (.int .i64 S) := box_cellJ hz 2 rfl; have hBz : Below w.heap.size w wz := hB3.trans (hbz.mono hB3.size); have hsum : ∀ k, _ := (fun k => hsu.out (wz.drewN k) (drewN_below hBz k)); obtain ⟨f1, f2, f3⟩ := hfin.out _ _ _ _ _ _ _ _ hGH.out hPH.out; have f1d := decide_eq_true f1; have f2d := decide_eq_true f2; have f3H : Hid _ := f3; clear f3 hsu hfin hGH hPH)
      | go_in)
    clear f1 f2
    go_quiet ((go_at_call 11; exact Calls.quiet_of_same (hsum _)))
    go_wp2
    go_ret
    exact ⟨ret_b (decide_eq_true f3H.out), drewN_below hBz nq⟩
  · have hgo : Hid (∀ w1, Below w.heap.size w w1 → _) := fun w1 hb => graph_bad (cap := cap) (cd := cd) (hEb.out w1 hb) (hZb.out w1 hb) (hdb.out w1 hb) h0
    have hc1 : (gc m n l d != 0) = true := by simpa using h0
    generalize gc m n l d = y at *
    by_cases hpe : pe n l d = 0
    · have hti : Hid (∀ w1, Below w.heap.size w w1 → _) := fun w1 hb => times_ok (cap := cap) (cd := cd) (hEb.out w1 hb) (hZb.out w1 hb) (hdb.out w1 hb) hpe
      generalize d.length = D at *
      clear h0 h hd hZ hZb hEb hdb hpe
      go_enter Tryd.func4, Tryd.ntmps4
      go_wp2_with (first
        | (go_at_call 9; refine hpa.mono ?_; rintro e w1 ⟨rfl, hB1⟩; clear hpa)
        | (go_at_call 5; refine (hgo.out w1 hB1).mono ?_; rintro e w2 ⟨rfl, hb2⟩; clear hgo; have hB2 : Below w.heap.size w w2 := hB1.trans (hb2.mono hB1.size))
        | (go_at_call 10; refine (hti.out w2 hB2).mono ?_; rintro e w3 ⟨⟨E, L, S, pE, cE, pL, cL, rfl, hP, hE2, hL2⟩, hb3⟩; clear hti hE2 hL2 hP; have hB3 : Below w.heap.size w w3 := hB2.trans (hb3.mono hB2.size); obtain ⟨hbz, hz⟩ := plan_boxJ w3 #[.slice pE D cE, .slice pL D cL, .int .i64 S])
        | (refine wpList_store_row rfl 35 _ _ rfl _ #[.slice pE D cE, .slice pL D cL, .int .i64 S] rfl rfl _ _ (heap_alloc_new w3 _) (plan_info _ rfl) rfl (plan_one _ _ _ _ _ _ _) ?_; generalize World.setRow (w3.alloc (.cells #[.slice none 0 0, .slice none 0 0, .int .i64 0] 35)) w3.heap.size #[.slice pE D cE, .slice pL D cL, .int .i64 S] = wz at *)
        | go_in)
      go_ret
      exact ⟨ret_b (by first | rfl | simp), hB3.trans (hbz.mono hB3.size)⟩
    · have hti : Hid (∀ w1, Below w.heap.size w w1 → _) := fun w1 hb => times_bad (cap := cap) (cd := cd) (hEb.out w1 hb) (hZb.out w1 hb) (hdb.out w1 hb) hpe
      generalize pe n l d = z at *
      generalize d.length = D at *
      clear h0 h hd hZ hZb hEb hdb hpe
      go_enter Tryd.func4, Tryd.ntmps4
      go_wp2_with (first
        | (go_at_call 9; refine hpa.mono ?_; rintro e w1 ⟨rfl, hB1⟩; clear hpa)
        | (go_at_call 5; refine (hgo.out w1 hB1).mono ?_; rintro e w2 ⟨rfl, hb2⟩; clear hgo; have hB2 : Below w.heap.size w w2 := hB1.trans (hb2.mono hB1.size))
        | (go_at_call 10; refine (hti.out w2 hB2).mono ?_; rintro e w3 ⟨rfl, hb3⟩; clear hti; have hB3 : Below w.heap.size w w3 := hB2.trans (hb3.mono hB2.size); obtain ⟨hbz, hz⟩ := plan_boxJ w3 #[.slice none 0 0, .slice none 0 0, .int .i64 0])
        | (refine wpList_store_row rfl 35 _ _ rfl _ #[.slice none 0 0, .slice none 0 0, .int .i64 0] rfl rfl _ _ (heap_alloc_new w3 _) (plan_info _ rfl) rfl (plan_one _ _ _ _ _ _ _) ?_; generalize World.setRow (w3.alloc (.cells #[.slice none 0 0, .slice none 0 0, .int .i64 0] 35)) w3.heap.size #[.slice none 0 0, .slice none 0 0, .int .i64 0] = wz at *)
        | go_in)
      go_ret
      exact ⟨ret_b (by first | rfl | simp), hB3.trans (hbz.mono hB3.size)⟩
end Go.Proofs.YthfpdbogbmccjaaDoor
