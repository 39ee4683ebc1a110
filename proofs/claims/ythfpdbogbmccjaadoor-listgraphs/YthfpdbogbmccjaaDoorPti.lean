/- path.Times. -/
import Derived.Test.YthfpdbogbmccjaaDoorPlt
import Derived.Test.YthfpdbogbmccjaaDoorGtm
namespace Go.Proofs.YthfpdbogbmccjaaDoor
open Go.RowKit Gm Pm
set_option linter.unusedSectionVars false
set_option linter.unusedVariables false

/-- The error's number that Times tells. -/
def pe (n : Int) (l : List Ed) (d : List Int) : Int := if chk n l = 0 then (if (d.length : Int) = n ∧ durB d = true then (if 0 < (bl (fun i => wB l i i) 60).length then 8 else 0) else 1) else chk n l
theorem pe_zero {n : Int} {l : List Ed} {d : List Int} (h : pe n l d = 0) : chk n l = 0 ∧ (d.length : Int) = n ∧ durB d = true ∧ (∀ i, ¬ Rch (eB l) i i) := by
  unfold pe at h
  split at h
  · rename_i h0
    split at h
    · rename_i h1
      split at h
      · cases h
      · rename_i h2
        exact ⟨h0, h1.1, h1.2, fun i hi => h2 ((knot_cyc h0).1 ⟨i, hi⟩)⟩
    · cases h
  · rename_i h0; exact absurd h h0
theorem dur_nm {d : List Int} {n : Nat} (hn : d.length = n) (h : durB d = true) : ∀ i, i < n → 0 ≤ nm d i ∧ nm d i ≤ 1000000000 := fun i hi => by
  have := List.all_eq_true.1 h (nm d i) (nm_mem (by omega))
  simpa [spB] using this
theorem owns_setRow_other {w : World} {B b : Nat} {e : TypeId} {k : Nat} {v : Value} {n : Nat} {xs : List Value} {cs : Array Value} (h : w.ownsRow B e k v n xs) (hne : b < B) : (w.setRow b cs).ownsRow B e k v n xs :=
  h.kept (w' := w.setRow b cs) (row := some b) ⟨rfl, rfl, rfl, by simp [World.setRow], fun k _ hk => setRow_other w b k cs (fun e => hk (by rw [e]))⟩ (by
    cases hv : v.ownBlock with
    | none => exact Or.inl rfl
    | some g => right; intro e; cases e; have := (h.lt _ hv).1; omega)
theorem plan_info (cs : Array Value) (h : cs.size = 3) : (Tryd.prog.info? 35).map (·.size) = some cs.size := by rw [h]; kernel_rfl
theorem plan_one (p1 p2 : Option Addr) (n1 n2 c1 c2 : Nat) (S : Int) : (#[.slice p1 n1 c1, .slice p2 n2 c2, .int .i64 S] : Array Value).all (·.oneCell') = true := by simp [Value.oneCell']
theorem results_plan {tmps : Array Value} {w : World} {g : Nat} {cs : Array Value} {v : Value} (hp : tmps.getD 6 undef = .pointer (some ⟨g, 0, none⟩)) (hg : w.heap[g]? = some (.cells cs 35 (0, 0))) (hcs : cs.size = 3) (h7 : tmps.getD 7 undef = v) : (results Tryd.f10 tmps).run Tryd.prog w = .ok (.tuple #[.agg cs, v]) w := by
  have hp' : tmps[6]?.getD undef = .pointer (some ⟨g, 0, none⟩) := by simpa using hp
  have h7' : tmps[7]?.getD undef = v := by simpa using h7
  simp [results, Tryd.results10, hp', h7', asAddr, run_loadVar_row w g _ 35 cs (0, 0) _ hg Tryd.underlying35 rfl (plan_info cs hcs)]

set_option maxHeartbeats 1000000 in
set_option maxRecDepth 100000 in
theorem times_bad {n : Int} {w : World} {q pd : Option Addr} {l : List Ed} {d : List Int} {cap cd : Nat} (h : Eds w q l) (hZ : TabZ w) (hd : Nums w pd d) (hne : pe n l d ≠ 0) :
    Calls Tryd.prog 10 #[.int .i64 n, .slice q l.length cap, .slice pd d.length cd] w fun e w' => e = .returned (.tuple #[.agg #[.slice none 0 0, .slice none 0 0, .int .i64 0], .int .i64 (pe n l d)]) ∧ Below w.heap.size w w' := by
  have hn0 := heap_alloc_new w (.cells #[.slice none 0 0, .slice none 0 0, .int .i64 0] 35)
  have hbA : Below w.heap.size w (w.alloc (.cells #[.slice none 0 0, .slice none 0 0, .int .i64 0] 35)) := (Below.refl _ _).alloc (Nat.le_refl _) _
  have hEb : Hid (∀ w1, Below w.heap.size w w1 → Eds w1 q l) := fun w1 hb => h.below hb (Nat.le_refl _)
  have hdb : Hid (∀ w1, Below w.heap.size w w1 → Nums w1 pd d) := fun w1 hb => hd.below hb (Nat.le_refl _)
  have hZb : Hid (∀ w1, Below w.heap.size w w1 → TabZ w1) := fun w1 hb => hZ.below hb (Nat.le_refl _)
  have hc := check_any (cap := cap) n (hEb.out _ hbA)
  clear h hZ hd
  by_cases h0 : chk n l = 0
  · obtain ⟨hn1, hn60, hl4, _⟩ := chk_ok h0
    rw [h0] at hc
    by_cases h1 : (d.length : Int) = n
    · obtain ⟨N, rfl⟩ : ∃ N : Nat, n = N := ⟨n.toNat, by omega⟩
      have hdN : d.length = N := by omega
      have hcf : Hid (∀ w1, Below w.heap.size w w1 → _) := fun w1 hb => containsf_d (c := cd) (hdb.out w1 hb) (by omega)
      rw [hdN] at hcf ⊢
      have hNN : ((N : Int) != (N : Int)) = false := by simp
      by_cases h2 : durB d = true
      · have hcy : ∃ i, Rch (eB l) i i := by
          refine Classical.byContradiction fun hno => hne ?_
          unfold pe
          rw [if_pos h0, if_pos ⟨h1, h2⟩, if_neg (fun x => hno ((knot_cyc h0).2 x))]
        have e8 : pe N l d = 8 := by unfold pe; rw [if_pos h0, if_pos ⟨h1, h2⟩, if_pos ((knot_cyc h0).1 hcy)]
        have hor : Hid (∀ w1, Below w.heap.size w w1 → _) := fun w1 hb => order_no (cap := cap) (hEb.out w1 hb) (hZb.out w1 hb) h0 hcy
        rw [h2] at hcf
        rw [e8]
        clear hne h0 h1 h2 hcy e8 hdN hdb hEb hZb
        go_enter Tryd.func10, Tryd.ntmps10
        go_wp2_with (first
          | (go_at_call 18; refine hc.mono ?_; rintro e w2 ⟨rfl, hb2⟩; have hB2 : Below w.heap.size w w2 := hbA.trans (hb2.mono hbA.size); have hn2 := (hb2.block w.heap.size (by simp)).trans hn0; clear hc hn0)
          | (go_at_call 19; refine (hcf.out w2 hB2).mono ?_; rintro e w' ⟨rfl, hw'⟩; have hw'' := hw'.symm; subst hw''; clear hcf)
          | (go_at_call 21; refine (hor.out w2 hB2).mono ?_; rintro e w3 ⟨rfl, hb3⟩; have hB3 : Below w.heap.size w w3 := hB2.trans (hb3.mono hB2.size); have hn3 := (hb3.block w.heap.size (Array.getElem?_eq_some_iff.1 hn2).1).trans hn2; clear hor hn2)
          | (refine wpList_store_row rfl 35 _ _ rfl _ #[.slice none 0 0, .slice none 0 0, .int .i64 0] rfl rfl _ _ hn3 (plan_info _ rfl) rfl (plan_one _ _ _ _ _ _ _) ?_)
          | go_in)
        refine bodyPost_ret (results_plan rfl (setRow_heap w3 w.heap.size _ _ _ _ hn3) rfl rfl) rfl ⟨rfl, ?_⟩
        exact below_row hB3 (Nat.le_refl _)
      · have e1 : pe N l d = 1 := by unfold pe; rw [if_pos h0, if_neg (fun x => h2 x.2)]
        have h2' : durB d = false := by simpa using h2
        rw [h2'] at hcf
        rw [e1]
        clear hne h0 h1 h2 h2' e1 hdN hdb hEb hZb
        go_enter Tryd.func10, Tryd.ntmps10
        go_wp2_with (first
          | (go_at_call 18; refine hc.mono ?_; rintro e w2 ⟨rfl, hb2⟩; have hB2 : Below w.heap.size w w2 := hbA.trans (hb2.mono hbA.size); have hn2 := (hb2.block w.heap.size (by simp)).trans hn0; clear hc hn0)
          | (go_at_call 19; refine (hcf.out w2 hB2).mono ?_; rintro e w' ⟨rfl, hw'⟩; have hw'' := hw'.symm; subst hw''; clear hcf)
          | (refine wpList_store_row rfl 35 _ _ rfl _ #[.slice none 0 0, .slice none 0 0, .int .i64 0] rfl rfl _ _ hn2 (plan_info _ rfl) rfl (plan_one _ _ _ _ _ _ _) ?_)
          | go_in)
        refine bodyPost_ret (results_plan rfl (setRow_heap w2 w.heap.size _ _ _ _ hn2) rfl rfl) rfl ⟨rfl, ?_⟩
        exact below_row hB2 (Nat.le_refl _)
    · have e1 : pe n l d = 1 := by unfold pe; rw [if_pos h0, if_neg (fun x => h1 x.1)]
      have hNN : ((d.length : Int) != n) = true := by simpa using h1
      rw [e1]
      clear hne h0 h1 e1 hdb hEb hZb
      go_enter Tryd.func10, Tryd.ntmps10
      go_wp2_with (first
        | (go_at_call 18; refine hc.mono ?_; rintro e w2 ⟨rfl, hb2⟩; have hB2 : Below w.heap.size w w2 := hbA.trans (hb2.mono hbA.size); have hn2 := (hb2.block w.heap.size (by simp)).trans hn0; clear hc hn0)
        | (refine wpList_store_row rfl 35 _ _ rfl _ #[.slice none 0 0, .slice none 0 0, .int .i64 0] rfl rfl _ _ hn2 (plan_info _ rfl) rfl (plan_one _ _ _ _ _ _ _) ?_)
        | go_in)
      refine bodyPost_ret (results_plan rfl (setRow_heap w2 w.heap.size _ _ _ _ hn2) rfl rfl) rfl ⟨rfl, ?_⟩
      exact below_row hB2 (Nat.le_refl _)
  · have e1 : pe n l d = chk n l := by unfold pe; rw [if_neg h0]
    have hNN : (chk n l != 0) = true := by simpa using h0
    rw [e1]
    generalize chk n l = y at *
    clear hne h0 e1 hdb hEb hZb
    go_enter Tryd.func10, Tryd.ntmps10
    go_wp2_with (first
      | (go_at_call 18; refine hc.mono ?_; rintro e w2 ⟨rfl, hb2⟩; have hB2 : Below w.heap.size w w2 := hbA.trans (hb2.mono hbA.size); have hn2 := (hb2.block w.heap.size (by simp)).trans hn0; clear hc hn0)
      | (refine wpList_store_row rfl 35 _ _ rfl _ #[.slice none 0 0, .slice none 0 0, .int .i64 0] rfl rfl _ _ hn2 (plan_info _ rfl) rfl (plan_one _ _ _ _ _ _ _) ?_)
      | go_in)
    refine bodyPost_ret (results_plan rfl (setRow_heap w2 w.heap.size _ _ _ _ hn2) rfl rfl) rfl ⟨rfl, ?_⟩
    exact below_row hB2 (Nat.le_refl _)

set_option maxHeartbeats 2000000 in
set_option maxRecDepth 100000 in
theorem times_ok {n : Int} {w : World} {q pd : Option Addr} {l : List Ed} {d : List Int} {cap cd : Nat} (h : Eds w q l) (hZ : TabZ w) (hd : Nums w pd d) (he : pe n l d = 0) :
    Calls Tryd.prog 10 #[.int .i64 n, .slice q l.length cap, .slice pd d.length cd] w fun e w' => (∃ E L S pE cE pL cL, e = .returned (.tuple #[.agg #[.slice pE d.length cE, .slice pL d.length cL, .int .i64 S], .int .i64 0]) ∧ Pln l (nm d) d.length E L S ∧ w'.ownsRow w.heap.size 2 1 (.slice pE d.length cE) d.length (numf E d.length) ∧ w'.ownsRow w.heap.size 2 1 (.slice pL d.length cL) d.length (numf L d.length)) ∧ Below w.heap.size w w' := by
  have hn0 := heap_alloc_new w (.cells #[.slice none 0 0, .slice none 0 0, .int .i64 0] 35)
  have hbA : Below w.heap.size w (w.alloc (.cells #[.slice none 0 0, .slice none 0 0, .int .i64 0] 35)) := (Below.refl _ _).alloc (Nat.le_refl _) _
  have hEb : Hid (∀ w1, Below w.heap.size w w1 → Eds w1 q l) := fun w1 hb => h.below hb (Nat.le_refl _)
  have hdb : Hid (∀ w1, Below w.heap.size w w1 → Nums w1 pd d) := fun w1 hb => hd.below hb (Nat.le_refl _)
  have hZb : Hid (∀ w1, Below w.heap.size w w1 → TabZ w1) := fun w1 hb => hZ.below hb (Nat.le_refl _)
  have hc := check_any (cap := cap) n (hEb.out _ hbA)
  obtain ⟨h0, h1, h2, hac⟩ := pe_zero he
  obtain ⟨hn1, hn60, hl4, _⟩ := chk_ok h0
  obtain ⟨N, rfl⟩ : ∃ N : Nat, n = N := ⟨n.toNat, by omega⟩
  have hdN : d.length = N := by omega
  have hgr : Gr N l := by have h3 := chk_gr h0; rwa [Int.toNat_natCast] at h3
  have hD := dur_nm hdN h2
  have hcf : Hid (∀ w1, Below w.heap.size w w1 → _) := fun w1 hb => containsf_d (c := cd) (hdb.out w1 hb) (by omega)
  have hor : Hid (∀ w1, Below w.heap.size w w1 → _) := fun w1 hb => order_yes (cap := cap) (hEb.out w1 hb) (hZb.out w1 hb) h0 hac
  have hst : Hid (∀ w1, Below w.heap.size w w1 → _) := fun w1 hb => psteps_any (n := N) (cap := cap) (hEb.out w1 hb) hgr hl4
  have hea : Hid (∀ (w1 : World) (R : List Nat) (B1 B2 gn : Nat) (pr : Option Addr) (cr : Nat), Below w.heap.size w w1 → Tpo l N R → w1.ownsRow B1 3 1 (.slice pr N cr) N (ints R) → Nx w1 B2 gn N (suc l) → _) := fun w1 R B1 B2 gn pr cr hb hT hR hN => earliest_any (cd := cd) hgr hl4 hT hR hN (hdb.out w1 hb) hdN hD
  have hsp : Hid (∀ (w1 : World) (E : Nat → Int) (B1 : Nat) (pE : Option Addr) (cE : Nat), Below w.heap.size w w1 → Earl l (nm d) N E → w1.ownsRow B1 2 1 (.slice pE N cE) N (numf E N) → _) := fun w1 E B1 pE cE hb hE hR => spanOf_any (cd := cd) hgr.n60 hR (hdb.out w1 hb) hdN (fun i hi => by have := hE.lo i hi; have := hE.most hgr hac hD i hi; have := hD i hi; omega)
  have hla : Hid (∀ (w1 : World) (R : List Nat) (S : Int) (B1 B2 gn : Nat) (pr : Option Addr) (cr : Nat), Below w.heap.size w w1 → Tpo l N R → w1.ownsRow B1 3 1 (.slice pr N cr) N (ints R) → Nx w1 B2 gn N (suc l) → 0 ≤ S ∧ S ≤ 100000000000 → _) := fun w1 R S B1 B2 gn pr cr hb hT hR hN hS => latest_any (cd := cd) hgr hl4 hT hR hN (hdb.out w1 hb) hdN hD hS
  have hSb : Hid (∀ E S, Earl l (nm d) N E → Spn E (nm d) N S → 0 ≤ S ∧ S ≤ 100000000000) := fun E S hE hS => ⟨hS.lo, by
    rcases hS.why with e | ⟨i, hi, e⟩
    · omega
    · have := hE.most hgr hac hD i hi; have := hD i hi; omega⟩
  rw [h0] at hc
  rw [h2, hdN] at hcf
  rw [hdN]
  have hNN : ((N : Int) != (N : Int)) = false := by simp
  clear h hZ hd he h0 h1 h2 hac hgr hD hEb hdb hZb hl4 hdN
  go_enter Tryd.func10, Tryd.ntmps10
  go_wp2_with (first
    | (go_at_call 18; refine hc.mono ?_; rintro e w2 ⟨rfl, hb2⟩; have hB2 : Below w.heap.size w w2 := hbA.trans (hb2.mono hbA.size); have hn2 := (hb2.block w.heap.size (by simp)).trans hn0; clear hc hn0)
    | (go_at_call 19; refine (hcf.out w2 hB2).mono ?_; rintro e w' ⟨rfl, hw'⟩; have hw'' := hw'.symm; subst hw''; clear hcf)
    | (go_at_call 21; refine (hor.out w2 hB2).mono ?_; rintro e w3 ⟨R, p3, c3, rfl, ⟨hR3, hRN, hGr, hall⟩, hb3⟩; have hB3 : Below w.heap.size w w3 := hB2.trans (hb3.mono hB2.size); have hn3 := (hb3.block w.heap.size (Array.getElem?_eq_some_iff.1 hn2).1).trans hn2; have hT : Hid (Tpo l N R) := Tpo.of hGr hRN hall; clear hor hn2 hGr hall hRN)
    | (go_at_call 22; refine (hst.out w3 hB3).mono ?_; rintro e w4 ⟨rfl, hN4, hb4⟩; have hB4 : Below w.heap.size w w4 := hB3.trans (hb4.mono hB3.size); have hn4 := (hb4.block w.heap.size (Array.getElem?_eq_some_iff.1 hn3).1).trans hn3; have hR4 := row_below hR3 hb4; have hea4 := hea.out w4 R _ _ _ _ _ hB4 hT.out hR4 hN4; clear hst hn3 hR3 hea)
    | (go_at_call 23; refine hea4.mono ?_; rintro e w5 ⟨rfl, ⟨E, hE5, hEa⟩, hb5⟩; have hB5 : Below w.heap.size w w5 := hB4.trans (hb5.mono hB4.size); have hn5 := (hb5.block w.heap.size (Array.getElem?_eq_some_iff.1 hn4).1).trans hn4; have hR5 := row_below hR4 hb5; have hN5 := hN4.below hb5; have hsp5 := hsp.out w5 E _ _ _ hB5 hEa hE5; have hEaH : Hid (Earl l (nm d) N E) := hEa; clear hea4 hn4 hR4 hN4 hsp hEa)
    | (go_at_call 24; refine hsp5.mono ?_; rintro e w6 ⟨⟨S, rfl, hS⟩, hb6⟩; have hB6 : Below w.heap.size w w6 := hB5.trans (hb6.mono hB5.size); have hn6 := (hb6.block w.heap.size (Array.getElem?_eq_some_iff.1 hn5).1).trans hn5; have hla6 := hla.out w6 R S _ _ _ _ _ hB6 hT.out (row_below hR5 hb6) (hN5.below hb6) (hSb.out E S hEaH.out hS); have hE6 := row_below hE5 hb6; have hSH : Hid (Spn E (nm d) N S) := hS; clear hsp5 hn5 hR5 hN5 hla hS hE5 hSb)
    | (go_at_call 25; refine hla6.mono ?_; rintro e w7 ⟨⟨L, pL, cL, rfl, hL7, hLl⟩, hb7⟩; have hB7 : Below w.heap.size w w7 := hB6.trans (hb7.mono hB6.size); have hn7 := (hb7.block w.heap.size (Array.getElem?_eq_some_iff.1 hn6).1).trans hn6; have hE7 := row_below hE6 hb7; have hLH : Hid (Latl l (nm d) N S L) := hLl; clear hla6 hn6 hE6 hLl)
    | (refine wpList_store_row rfl 35 _ _ rfl _ #[.slice (some ⟨w4.heap.size, 0, none⟩) N N, .slice pL N cL, .int .i64 S] rfl rfl _ _ hn7 (plan_info _ rfl) rfl (plan_one _ _ _ _ _ _ _) ?_)
    | go_in)
  have hne1 : w.heap.size < w4.heap.size := by have h2 := hb2.size; have h3 := hb3.size; have h4 := hb4.size; simp at h2; omega
  have hne2 : w.heap.size < w6.heap.size := by have h5 := hb5.size; have h6 := hb6.size; omega
  refine bodyPost_ret (results_plan rfl (setRow_heap w7 w.heap.size _ _ _ _ hn7) rfl rfl) rfl ⟨⟨E, L, S, _, _, _, _, rfl, ⟨hEaH.out, hSH.out, hLH.out⟩, ?_, ?_⟩, below_row hB7 (Nat.le_refl _)⟩
  · exact owns_base' (owns_setRow_other hE7 hne1) (Nat.le_of_lt hne1)
  · exact owns_base' (owns_setRow_other hL7 hne2) (Nat.le_of_lt hne2)
end Go.Proofs.YthfpdbogbmccjaaDoor
