/- Package list: Graph. -/
import Derived.Test.YthfpdbogbmccjaaDoorJnw
namespace Go.Proofs.YthfpdbogbmccjaaDoor
open Go.RowKit Gm Pm
set_option linter.unusedSectionVars false
set_option linter.unusedVariables false

theorem isCrew_yes {m : Int} (h : 1 ≤ m ∧ m ≤ 20) (w : World) : Calls Tryd.prog 12 #[.int .i64 m] w fun e w' => e = .returned (.bool true) ∧ w' = w := by
  obtain ⟨h1, h2⟩ := h
  have h1d : decide (1 ≤ m) = true := decide_eq_true h1
  go_enter Tryd.func12, Tryd.ntmps12
  go_wp2
  go_ret
  exact ⟨by first | rfl | simp, rfl⟩
theorem isCrew_no {m : Int} (h : ¬ (1 ≤ m ∧ m ≤ 20)) (w : World) : Calls Tryd.prog 12 #[.int .i64 m] w fun e w' => e = .returned (.bool false) ∧ w' = w := by
  by_cases h1 : 1 ≤ m
  · have h2 : ¬ m ≤ 20 := by omega
    have h1d : decide (1 ≤ m) = true := decide_eq_true h1
    clear h
    go_enter Tryd.func12, Tryd.ntmps12
    go_wp2
    go_ret
    exact ⟨by first | rfl | simp, rfl⟩
  · have h1d : decide (1 ≤ m) = false := decide_eq_false h1
    clear h
    go_enter Tryd.func12, Tryd.ntmps12
    go_wp2
    go_ret
    exact ⟨by first | rfl | simp, rfl⟩
/-- What Graph tells. -/
def gc (m n : Int) (l : List Ed) (d : List Int) : Int := if 1 ≤ m ∧ m ≤ 20 then pe n l d else 1
theorem gc_zero {m n : Int} {l : List Ed} {d : List Int} (h : gc m n l d = 0) : (1 ≤ m ∧ m ≤ 20) ∧ pe n l d = 0 := by
  unfold gc at h
  by_cases h1 : 1 ≤ m ∧ m ≤ 20
  · rw [if_pos h1] at h; exact ⟨h1, h⟩
  · rw [if_neg h1] at h; omega

set_option maxHeartbeats 1000000 in
set_option maxRecDepth 100000 in
theorem graph_bad {m n : Int} {w : World} {q pd : Option Addr} {l : List Ed} {d : List Int} {cap cd : Nat} (h : Eds w q l) (hZ : TabZ w) (hd : Nums w pd d) (hne : gc m n l d ≠ 0) :
    Calls Tryd.prog 5 #[.int .i64 m, .int .i64 n, .slice q l.length cap, .slice pd d.length cd] w fun e w' => e = .returned (.tuple #[.slice none 0 0, .int .i64 0, .int .i64 (gc m n l d)]) ∧ Below w.heap.size w w' := by
  by_cases hm : 1 ≤ m ∧ m ≤ 20
  · have e1 : gc m n l d = pe n l d := by unfold gc; rw [if_pos hm]
    rw [e1] at hne ⊢
    have hcr := isCrew_yes hm w
    have ht := times_bad (cap := cap) (cd := cd) h hZ hd hne
    have hNN : (pe n l d != 0) = true := by simpa using hne
    clear h hZ hd hm e1 hne
    generalize pe n l d = y at *
    go_enter Tryd.func5, Tryd.ntmps5
    go_wp2_with (first
      | (go_at_call 12; refine hcr.mono ?_; rintro e w1 ⟨rfl, hw1⟩; have hw2 := hw1.symm; subst hw2; clear hcr)
      | (go_at_call 10; refine ht.mono ?_; rintro e w2 ⟨rfl, hb2⟩; have hn2 := heap_alloc_new w2 (.cells #[.slice none 0 0, .slice none 0 0, .int .i64 0] 35); have hbA := hb2.alloc hb2.size (.cells #[.slice none 0 0, .slice none 0 0, .int .i64 0] 35); clear ht)
      | (refine wpList_store_row rfl 35 _ _ rfl _ #[.slice none 0 0, .slice none 0 0, .int .i64 0] rfl rfl _ _ hn2 (plan_info _ rfl) rfl (plan_one _ _ _ _ _ _ _) ?_)
      | go_in)
    go_ret3
    exact ⟨by rfl, below_row hbA hb2.size⟩
  · have e1 : gc m n l d = 1 := by unfold gc; rw [if_neg hm]
    rw [e1]
    have hcr := isCrew_no hm w
    clear h hZ hd hm e1 hne
    go_enter Tryd.func5, Tryd.ntmps5
    go_wp2_with (first
      | (go_at_call 12; refine hcr.mono ?_; rintro e w1 ⟨rfl, hw1⟩; have hw2 := hw1.symm; subst hw2; clear hcr)
      | go_in)
    go_ret3
    exact ⟨by rfl, Below.refl _ _⟩
/-- The turns that are given, and when the last ends. -/
structure Gok (w0 w : World) (gT n m : Nat) (l : List Ed) (d : Nat → Int) (t : Int) (s : Wst) : Prop where
  run : Run n m l d t s
  stk : stk n m l t s
  nx : nxF s.E t n = nvr
  lo : w0.heap.size ≤ gT
  lt : gT < w.heap.size
  c : ∀ i, i < n → w.cell? ⟨gT, i * 2, none⟩ = some (.int .i64 (s.A i)) ∧ w.cell? ⟨gT, i * 2 + 1, none⟩ = some (.int .i64 (s.H i))

set_option maxHeartbeats 1000000 in
set_option maxRecDepth 100000 in
theorem graph_ok {m n : Int} {w : World} {q pd : Option Addr} {l : List Ed} {d : List Int} {cap cd : Nat} (h : Eds w q l) (hZ : TabZ w) (hd : Nums w pd d) (he : gc m n l d = 0) :
    Calls Tryd.prog 5 #[.int .i64 m, .int .i64 n, .slice q l.length cap, .slice pd d.length cd] w fun e w' => (∃ t s gT, e = .returned (.tuple #[.slice (some ⟨gT, 0, none⟩) d.length d.length, .int .i64 t, .int .i64 0]) ∧ Gok w w' gT d.length m.toNat l (nm d) t s) ∧ Below w.heap.size w w' := by
  obtain ⟨hm, hpe⟩ := gc_zero he
  obtain ⟨h0, h1, h2, hac⟩ := pe_zero hpe
  obtain ⟨hn1, hn60, hl4, _⟩ := chk_ok h0
  obtain ⟨N, rfl⟩ : ∃ N : Nat, n = N := ⟨n.toNat, by omega⟩
  obtain ⟨M, rfl⟩ : ∃ M : Nat, m = M := ⟨m.toNat, by omega⟩
  have hdN : d.length = N := by omega
  have hgr : Gr N l := by have h3 := chk_gr h0; rwa [Int.toNat_natCast] at h3
  have hD : ∀ i, i < N → 0 ≤ nm d i ∧ nm d i ≤ 1000000000 := dur_nm hdN h2
  have hcr := isCrew_yes hm w
  have ht := times_ok (cap := cap) (cd := cd) h hZ hd hpe
  have hnw : Hid (∀ w1, Below w.heap.size w w1 → _) := fun w1 hb => newWork_any (cap := cap) (cd := cd) (n := N) (m := M) (h.below hb (Nat.le_refl _)) hgr hl4 (hd.below hb (Nat.le_refl _)) hdN (by omega)
  have hru : Hid (∀ (w1 : World) (g0 gp gA gE gF gT B : Nat), Wk w1 g0 gp gA gE gF gT B pd cd N M l d wst0 → _) := fun w1 g0 gp gA gE gF gT B hk => run_any hk hgr hl4 (by omega) hD
  rw [Int.toNat_natCast]
  rw [hdN] at ht ⊢
  clear h hZ hd he hpe h0 h1 h2 hac hgr hD hdN hm hl4
  go_enter Tryd.func5, Tryd.ntmps5
  go_wp2_with (first
    | (go_at_call 12; refine hcr.mono ?_; rintro e w1 ⟨rfl, hw1⟩; have hw2 := hw1.symm; subst hw2; clear hcr)
    | (go_at_call 10; refine ht.mono ?_; rintro e w2 ⟨⟨E, L, S, pE, cE, pL, cL, rfl, -, -, -⟩, hb2⟩; have hn2 := heap_alloc_new w2 (.cells #[.slice none 0 0, .slice none 0 0, .int .i64 0] 35); have hbA := hb2.alloc hb2.size (.cells #[.slice none 0 0, .slice none 0 0, .int .i64 0] 35); clear ht)
    | (refine wpList_store_row rfl 35 _ _ rfl _ #[.slice pE N cE, .slice pL N cL, .int .i64 S] rfl rfl _ _ hn2 (plan_info _ rfl) rfl (plan_one _ _ _ _ _ _ _) ?_; have hb3 : Below w.heap.size w ((w2.alloc (.cells #[.slice none 0 0, .slice none 0 0, .int .i64 0] 35)).setRow w2.heap.size #[.slice pE N cE, .slice pL N cL, .int .i64 S]) := below_row hbA hb2.size; clear hn2 hbA)
    | (go_at_call 13; refine (hnw.out _ hb3).mono ?_; rintro e w4 ⟨⟨gp, gA, gE, gF, gT, B, rfl, hW⟩, hb4⟩; have hB4 : Below w.heap.size w w4 := hb3.trans (hb4.mono hb3.size); have hs3 := hb3.size; have hr4 := hru.out _ _ _ _ _ _ _ _ hW; clear hnw hru)
    | (go_at_call 14; refine hr4.mono ?_; rintro e w5 ⟨⟨t, s, rfl, hR, hst, hnx, hW5⟩, hb5⟩; have hB5 : Below w.heap.size w w5 := hB4.trans (hb5.mono hs3); have c4 := hW5.c4; clear hr4 hW)
    | go_in)
  go_ret3
  exact ⟨⟨t, s, gT, by rfl, hR, hst, hnx, Nat.le_trans hs3 hW5.lo.2.2.2.2.1, hW5.lt.2.2.2.2, fun i hi => ⟨(hW5.T i hi).1, (hW5.T i hi).2.1⟩⟩, hB5⟩
end Go.Proofs.YthfpdbogbmccjaaDoor
