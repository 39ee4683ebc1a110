/- path.Way. -/
import Derived.Test.YtknhbpnbbnjioaaDoorPcr
namespace Go.Proofs.YtknhbpnbbnjioaaDoor
open Go.RowKit Gm Pm
set_option linter.unusedSectionVars false
set_option linter.unusedVariables false

/-- Where the way stands: the row so far, and what comes next, if anything. -/
structure WyI (l : List Ed) (D E L : Nat → Int) (n : Nat) (S : Int) (R : List Nat) (i : Nat) (ok : Bool) : Prop where
  yes : ok = true → Wy l D E L n S (R ++ [i]) ∧ i < n
  no : ok = false → n = 0 ∧ R = []
theorem WyI.start {l : List Ed} {D E L : Nat → Int} {n : Nat} {S : Int} (hg : Gr n l) (hac : ∀ i, ¬ Rch (eB l) i i) (hD : ∀ i, i < n → 0 ≤ D i ∧ D i ≤ 1000000000) (hP : Pln l D n E L S) : WyI l D E L n S [] (lsA E L 0 (bl (crB E L) n)).1 (lsA E L 0 (bl (crB E L) n)).2 := by
  obtain ⟨h1, h2⟩ := lsA_spec E L 0 (bl (crB E L) n)
  refine ⟨fun ho => ?_, fun ho => ⟨?_, rfl⟩⟩
  · obtain ⟨a1, a2, a3, a4⟩ := h1 ho
    have hm := mem_bl.1 a1
    exact ⟨.first hm.1 a2 a3 fun j hj e1 e2 => a4 j (mem_bl.2 ⟨hj, decide_eq_true (by omega)⟩) e1 e2, hm.1⟩
  · refine Classical.byContradiction fun hn => ?_
    obtain ⟨i, hi, e1, e2⟩ := crit_first hg hac hD hP (by omega)
    exact h2 ho i (mem_bl.2 ⟨hi, decide_eq_true (by omega)⟩) ⟨e1, e2⟩
theorem WyI.step {l : List Ed} {D E L : Nat → Int} {n i : Nat} {S : Int} {R : List Nat} (hg : Gr n l) (hac : ∀ i, ¬ Rch (eB l) i i) (hP : Pln l D n E L S) (h : WyI l D E L n S R i true) (hne : E i + D i ≠ S) : (lsA E L (E i + D i) (suc l i)).2 = true ∧ WyI l D E L n S (R ++ [i]) (lsA E L (E i + D i) (suc l i)).1 (lsA E L (E i + D i) (suc l i)).2 := by
  obtain ⟨h1, h2⟩ := lsA_spec E L (E i + D i) (suc l i)
  obtain ⟨hw, hin⟩ := h.yes rfl
  have hci : E i = L i := ((hw.facts hg hac).1 i (by simp)).2
  obtain ⟨j, hj, e1, e2⟩ := crit_next hg hac hP hin hci hne
  have ht : (lsA E L (E i + D i) (suc l i)).2 = true := by
    cases hf : (lsA E L (E i + D i) (suc l i)).2 with
    | true => rfl
    | false => exact absurd ⟨e1, e2⟩ (h2 hf j ((mem_suc hg).2 hj))
  obtain ⟨a1, a2, a3, a4⟩ := h1 ht
  have he := (mem_suc hg).1 a1
  refine ⟨ht, fun _ => ⟨.snoc hw hne he a2 a3 fun k hk f1 f2 => a4 k ((mem_suc hg).2 hk) f1 f2, (hg.lt he).2⟩, fun hf => ?_⟩
  rw [ht] at hf
  cases hf
/-- The whole way. -/
structure WyD (l : List Ed) (D E L : Nat → Int) (n : Nat) (S : Int) (W : List Nat) : Prop where
  way : Wy l D E L n S W
  zero : W = [] ↔ n = 0
  last : ∀ R i, W = R ++ [i] → E i + D i = S

set_option maxHeartbeats 4000000 in
set_option maxRecDepth 100000 in
theorem Way_ok {n : Int} {w : World} {q pd : Option Addr} {l : List Ed} {d : List Int} {cap cd : Nat} {E L : Nat → Int} {S : Int} (h : Eds w q l) (hZ : TabZ w) (hd : Nums w pd d) (he : pe n l d = 0) (hP : Pln l (nm d) d.length E L S) :
    Calls Tryd.prog 6 #[.int .i64 n, .slice q l.length cap, .slice pd d.length cd] w fun e w' => (∃ (W : List Nat) (p : Option Addr) (c : Nat), e = .returned (.tuple #[.slice p W.length c, .int .i64 0]) ∧ w'.ownsRow w.heap.size 3 1 (.slice p W.length c) W.length (ints W) ∧ WyD l (nm d) E L d.length S W) ∧ Below w.heap.size w w' := by
  obtain ⟨hc0, hdn, hdu, hac⟩ := pe_zero he
  obtain ⟨hn0, hn60, hl4, _⟩ := chk_ok hc0
  obtain ⟨N, rfl⟩ : ∃ N : Nat, n = N := ⟨n.toNat, by omega⟩
  have hdN : d.length = N := by omega
  have hgr : Gr N l := by have h3 := chk_gr hc0; rwa [Int.toNat_natCast] at h3
  have hD := dur_nm hdN hdu
  have hti := times_ok (cap := cap) (cd := cd) h hZ hd he
  have hEb : Hid (∀ w1, Below w.heap.size w w1 → Eds w1 q l) := fun w1 hb => h.below hb (Nat.le_refl _)
  have hdb : Hid (∀ w1, Below w.heap.size w w1 → Nums w1 pd d) := fun w1 hb => hd.below hb (Nat.le_refl _)
  have hst : Hid (∀ w1, Below w.heap.size w w1 → _) := fun w1 hb => psteps_any (n := N) (cap := cap) (hEb.out w1 hb) hgr hl4
  rw [hdN] at hti hP ⊢
  have huq : Hid (∀ E' L' S', Pln l (nm d) N E' L' S' → (∀ j, j < N → E' j = E j) ∧ (∀ j, j < N → L' j = L j) ∧ S' = S) := fun E' L' S' h' => h'.uniq hgr hac hP
  have hgH : Hid (Gr N l) := hgr
  have hlH : Hid (l.length ≤ 400) := hl4
  have hacH : Hid (∀ i, ¬ Rch (eB l) i i) := hac
  have hDH : Hid (∀ i, i < N → 0 ≤ nm d i ∧ nm d i ≤ 1000000000) := hD
  have hPH : Hid (Pln l (nm d) N E L S) := hP
  have hnH : Hid (N ≤ 60) := hgr.n60
  have hdNH : Hid (d.length = N) := hdN
  clear h hZ hd he hP hc0 hdn hdu hac hgr hl4 hn0 hn60 hD hdN hEb
  go_enter Tryd.func6, Tryd.ntmps6
  go_wp2_with (first
    | (go_at_call 4; refine hti.mono ?_; rintro e w2 ⟨⟨E', L', S', pE, cE, pL, cL, rfl, hP', hE2, hL2⟩, hb2⟩; clear hti; obtain ⟨u1, u2, rfl⟩ := huq.out E' L' S' hP'; clear huq hP'; rw [numf_congr u1] at hE2; rw [numf_congr u2] at hL2; clear u1 u2; obtain ⟨hbz, hz⟩ := plan_box w2 #[.slice pE N cE, .slice pL N cL, .int .i64 S'])
    | (refine wpList_store_row rfl 25 _ _ rfl _ #[.slice pE N cE, .slice pL N cL, .int .i64 S'] rfl rfl _ _ (heap_alloc_new w2 _) (plan_info _ rfl) rfl (plan_one _ _ _ _ _ _ _) ?_; generalize World.setRow (w2.alloc (.cells #[.slice none 0 0, .slice none 0 0, .int .i64 0] 25)) w2.heap.size #[.slice pE N cE, .slice pL N cL, .int .i64 S'] = wz at *)
    | go_in)
  have hs1 := hb2.size
  have hs2 := hbz.size
  have hBz : Hid (Below w.heap.size w wz) := hb2.trans (hbz.mono hs1)
  have hEz : Hid (wz.ownsRow w.heap.size 2 1 (.slice pE N cE) N (numf E N)) := row_below hE2 hbz
  have hLz : Hid (wz.ownsRow w.heap.size 2 1 (.slice pL N cL) N (numf L N)) := row_below hL2 hbz
  generalize hgp : w2.heap.size = gp at *
  clear hE2 hL2 hbz hb2 hs1 hs2 hgp
  have hcz : wz.drew.heap[gp]? = some (.cells #[.slice pE N cE, .slice pL N cL, .int .i64 S'] 25 (0, 0)) := hz
  have hBd : Hid (Below w.heap.size w wz.drew) := hBz.out.drew
  have hEd : Hid (wz.drew.ownsRow w.heap.size 2 1 (.slice pE N cE) N (numf E N)) := hEz.out
  have hLd : Hid (wz.drew.ownsRow w.heap.size 2 1 (.slice pL N cL) N (numf L N)) := hLz.out
  clear hz hBz hEz hLz
  refine Tkc.region_anyC (C := fun w' => w'.heap[gp]? = some (.cells #[.slice pE N cE, .slice pL N cL, .int .i64 S'] 25 (0, 0))) (s := 6) (by kernel_rfl) ?_
  generalize wz.drew = wd at *
  have hst1 := hst.out wd hBd.out
  refine Tkc.takeC (i := 0) (v := .int .i64 (N : Int)) rfl (by kernel_rfl) (by kernel_rfl) (by kernel_rfl) (fun _ _ _ h => h) (by decide) (by kernel_rfl) (by kernel_rfl) hcz ⟨by rfl, fun w hw => by go_simp⟩ ?_
  try go_frame
  refine Tkc.takeC (i := 1) (v := .slice q l.length cap) rfl (by kernel_rfl) (by kernel_rfl) (by kernel_rfl) (fun _ _ _ h => h) (by decide) (by kernel_rfl) (by kernel_rfl) hcz ⟨by rfl, fun w hw => by go_simp⟩ ?_
  try go_frame
  refine Tkc.takeC (i := 3) (v := .agg #[.slice pE N cE, .slice pL N cL, .int .i64 S']) rfl (by kernel_rfl) (by kernel_rfl) (by kernel_rfl) (fun _ _ _ h => h) (by decide) (by kernel_rfl) (by kernel_rfl) hcz ⟨by rfl, fun w hw => by have k0 := box_cell hw 0 rfl; have k1 := box_cell hw 1 rfl; have k2 := box_cell hw 2 rfl; go_simp⟩ ?_
  try go_frame
  refine Tkc.onlyC (i := 2) rfl (by kernel_rfl) (fun _ => hcz) (by rfl) (fun K hK => ?_)
  go_simp
  refine hst1.mono ?_
  rintro e w3 ⟨rfl, hN3, hb3⟩
  refine hK _ _ ?_
  clear hK K hst1 hst
  have hc3 : w3.heap[gp]? = some (.cells #[.slice pE N cE, .slice pL N cL, .int .i64 S'] 25 (0, 0)) := (hb3.block gp (Array.getElem?_eq_some_iff.1 hcz).1).trans hcz
  have hB3 : Hid (Below w.heap.size w w3) := hBd.out.trans (hb3.mono hBd.out.size)
  have hE3 := row_below hEd.out hb3
  have hL3 := row_below hLd.out hb3
  have hcr := critical_any (S := S') hnH.out hE3 hL3
  clear hcz hBd hEd hLd
  try go_frame
  refine Tkc.onlyC (i := 4) rfl (by kernel_rfl) (fun _ => hc3) (by rfl) (fun K hK => ?_)
  go_simp
  refine hcr.mono ?_
  rintro e w4 ⟨p4, c4, rfl, hR4, hb4⟩
  refine hK _ _ ?_
  clear hK K hcr
  have hc4 : w4.heap[gp]? = some (.cells #[.slice pE N cE, .slice pL N cL, .int .i64 S'] 25 (0, 0)) := (hb4.block gp (Array.getElem?_eq_some_iff.1 hc3).1).trans hc3
  try go_frame
  refine Tkc.onlyC (i := 5) rfl (by kernel_rfl) (fun _ => hc4) (by rfl) (fun K hK => ?_)
  go_simp
  refine hK _ _ ?_
  clear hK K
  refine Tkc.onlyC (i := 6) rfl (by kernel_rfl) (fun _ => hc4) (by rfl) (fun K hK => ?_)
  go_simp
  refine hK _ _ ?_
  clear hK K
  refine Tkc.doneC (by kernel_rfl) (fun hz => by have hz' : true = false := hz; cases hz') ?_
  have hB4 : Below w.heap.size w w4 := hB3.out.trans (hb4.mono hB3.out.size)
  have hE4 := row_below hE3 hb4
  have hL4 := row_below hL3 hb4
  have hN4 := hN3.below hb4
  generalize hgn : wd.heap.size = gn at *
  have hml : Hid ((bl (crB E L) N).length ≤ 4000) := by have := bl_len (crB E L) N; have := hnH.out; show _ ≤ _; omega
  have hls := leastAt_any (S := S') (a := 0) hnH.out hE4 hL4 hR4 rfl hml.out (fun x hx => (mem_bl.1 hx).1)
  have hst0 : Hid (WyI l (nm d) E L N S' [] (lsA E L 0 (bl (crB E L) N)).1 (lsA E L 0 (bl (crB E L) N)).2) := WyI.start hgH.out hacH.out hDH.out hPH.out
  clear hN3 hE3 hL3 hb3 hB3 hc3 hb4 hR4 hgn
  generalize lsA E L 0 (bl (crB E L) N) = s0 at *
  obtain ⟨i0, ok0⟩ := s0
  simp only at hls hst0
  generalize (bl (crB E L) N).length = mm at *
  go_wp2_with (first
    | (refine wpList_load_row rfl 25 _ rfl _ rfl _ _ _ _ hc4 Tryd.underlying25 rfl (plan_info _ rfl) ?_)
    | (go_at_call 21; refine hls.mono ?_; rintro e w5 ⟨rfl, hb5⟩; clear hls)
    | go_in)
  have hc5 : Hid (w5.heap[gp]? = some (.cells #[.slice pE N cE, .slice pL N cL, .int .i64 S'] 25 (0, 0))) := (hb5.block gp (Array.getElem?_eq_some_iff.1 hc4).1).trans hc4
  have hE5 : Hid (w5.ownsRow w.heap.size 2 1 (.slice pE N cE) N (numf E N)) := row_below hE4 hb5
  have hL5 : Hid (w5.ownsRow w.heap.size 2 1 (.slice pL N cL) N (numf L N)) := row_below hL4 hb5
  have hN5 : Hid (Nx w5 gn gn N (suc l)) := hN4.below hb5
  have hB5 : Hid (Below w.heap.size w w5) := hB4.trans (hb5.mono hB4.size)
  clear hc4 hE4 hL4 hN4 hB4 hb5
  go_loopw [12, 13, 14] (fun rv iv kv wr => ∃ (R : List Nat) (i : Nat) (ok : Bool) (p : Option Addr) (c : Nat), rv = .slice p R.length c ∧ iv = .int .i64 i ∧ kv = .bool ok ∧ WyI l (nm d) E L N S' R i ok ∧ wr.ownsRow w5.heap.size 3 1 (.slice p R.length c) R.length (ints R) ∧ Below w5.heap.size w5 wr)
    (fun rv _ _ _ => 64 - lenOf' rv)
  case atStart => exact ⟨[], i0, ok0, none, 0, rfl, rfl, rfl, hst0.out, World.ownsRow_nil _ _ _ _, Below.refl _ _⟩
  case round =>
    clear hst0
    obtain ⟨R, i, ok, p, c, rfl, rfl, rfl, hI, hown, hbl⟩ := hrel
    have hBr : Hid (Below w.heap.size w wr) := hB5.out.trans (hbl.mono hB5.out.size)
    cases ok with
    | false =>
      obtain ⟨hN0, hR0⟩ := hI.no rfl
      have hD0 : Hid (WyD l (nm d) E L N S' R) := ⟨by rw [hR0]; exact .nil, by simp [hR0, hN0], fun R' i' e => by rw [hR0] at e; simp at e⟩
      have hs5 := hB5.out.size
      clear hI hN0 hR0
      go_wp2
      go_ret2
      exact ⟨⟨R, p, c, rfl, owns_base' hown hs5, hD0.out⟩, hBr.out⟩
    | true =>
      obtain ⟨hw, hin⟩ := hI.yes rfl
      have hIH : Hid (WyI l (nm d) E L N S' R i true) := hI
      have hwH : Hid (Wy l (nm d) E L N S' (R ++ [i])) := hw
      have hfew : Hid (R.length ≤ 60) := by have := hw.few hgH.out hacH.out; simp at this; show _ ≤ _; omega
      have hinH : Hid (i < N) := hin
      obtain ⟨m, hm⟩ : ∃ m, R.length = m := ⟨_, rfl⟩
      have hmH : Hid (R.length = m) := hm
      rw [hm] at hown hfew ⊢
      have hszw := hbl.size
      clear hm hI hw
      go_wp2_with (first
        | (at_builtin; obtain ⟨i9, hi9, hz0, hz1, hz2⟩ := info_parts info_int; refine wpList_append_own _ rfl _ _ 29 rfl w5.heap.size 3 i9 (.int .i64 0) 1 8 Tryd.underlying29 hi9 hz0 hz1 hz2 rfl (by decide) _ _ _ rfl (hown.alloc _) ⟨wr.heap.size, 0, none⟩ 1 1 [.int .i64 (i : Int)] rfl rfl (cells_new _ _ _) (fun v hv => by simp at hv; subst hv; rfl) (by unfold maxLen; have := hfew.out; omega) (by have := hfew.out; omega) (by simp; omega) ?_; intro v' w6 hown6 hgrow6 hnil6; clear hi9 hz0 hz1 hz2 hnil6; obtain ⟨g6, cap6, rfl⟩ := form_succ hown6)
        | go_in)
      have hgA : (wr.alloc (.cells #[.int .i64 (i : Int)] 3)).grownBy w6 (Value.ownBlock (.slice p m c)) := hgrow6
      have hb6 : Below w5.heap.size w5 w6 := below_app hbl hown hgA (Nat.le_refl _) hszw
      have hR6 : Hid (w6.ownsRow w5.heap.size 3 1 (.slice (some ⟨g6, 0, none⟩) (m + 1) cap6) (m + 1) (ints (R ++ [i]))) := by
        show World.ownsRow _ _ _ _ _ _ _
        simp only [ints, List.map_append, List.map_cons, List.map_nil]
        exact hown6
      have hB6 : Hid (Below w.heap.size w w6) := hB5.out.trans (hb6.mono hB5.out.size)
      have z6 := (hb6.block gp (Array.getElem?_eq_some_iff.1 hc5.out).1).trans hc5.out
      have a0 := box_cell z6 0 rfl
      have a2 := box_cell z6 2 rfl
      obtain ⟨g1, rfl, e1, _⟩ := row_num (row_below hE5.out hb6) hin
      obtain ⟨db, dof, rfl, d0⟩ : ∃ b o, pd = some ⟨b, o, none⟩ ∧ w6.cell? ⟨b, o + i, none⟩ = some (.int .i64 (nm d i)) := by
        rcases hdb.out w6 hB6.out with h0 | ⟨b, o, e, hA⟩
        · have := hdNH.out; omega
        · exact ⟨b, o, e, hA.c i (by have := hdNH.out; omega)⟩
      have hEi := hPH.out.e.most hgH.out hacH.out hDH.out i hin
      have hEl := hPH.out.e.lo i hin
      have hDi := hDH.out i hin
      have hii : (i : Int) < (N : Int) := by omega
      have hi0 : ¬ (i : Int) < 0 := by omega
      have hig : ¬ (N : Int) ≤ (i : Int) := by omega
      have hws : wrap64 (E i + nm d i) = E i + nm d i := wrap_small (by omega)
      have hb6H : Hid (Below w5.heap.size w5 w6) := hb6
      have hz6H : Hid (w6.heap[gp]? = some (.cells #[.slice (some ⟨g1, 0, none⟩) N cE, .slice pL N cL, .int .i64 S'] 25 (0, 0))) := z6
      clear hown6 hgrow6 hgA hown hbl hszw hb6 hEi hEl hDi z6
      go_wp2
      go_quiet (fail)
      have hbq : Hid (Below w5.heap.size w5 (w6.drewN nq)) := drewN_below hb6H.out nq
      have hBq : Hid (Below w.heap.size w (w6.drewN nq)) := drewN_below hB6.out nq
      have hzq : (w6.drewN nq).heap[gp]? = some (.cells #[.slice (some ⟨g1, 0, none⟩) N cE, .slice pL N cL, .int .i64 S'] 25 (0, 0)) := hz6H.out
      have hRq : Hid ((w6.drewN nq).ownsRow w5.heap.size 3 1 (.slice (some ⟨g6, 0, none⟩) (m + 1) cap6) (m + 1) (ints (R ++ [i]))) := hR6.out
      clear a0 a2 e1 d0 hb6H hB6 hz6H hR6
      generalize w6.drewN nq = wq at *
      have b2 := box_cell hzq 2 rfl
      rw [hws]
      clear hws
      have hl1 : Hid ((R ++ [i]).length = m + 1) := by show _ = _; simp [hmH.out]
      have hs5 := hB5.out.size
      by_cases hend : E i + nm d i = S'
      · have hee : (E i + nm d i == S') = true := by simpa using hend
        have hD0 : Hid (WyD l (nm d) E L N S' (R ++ [i])) := ⟨hwH.out, ⟨fun e => by simp at e, fun e => by have := hinH.out; omega⟩, fun R' i' e => by
          obtain ⟨_, e2⟩ := List.append_inj' e rfl
          obtain rfl : i = i' := by simpa using e2
          exact hend⟩
        clear hend hzq
        generalize E i + nm d i = x at *
        go_wp2
        go_ret2
        refine ⟨⟨R ++ [i], some ⟨g6, 0, none⟩, cap6, by rw [hl1.out]; rfl, by rw [hl1.out]; exact owns_base' hRq.out hs5, hD0.out⟩, hBq.out⟩
      · have hee : (E i + nm d i == S') = false := by simpa using hend
        obtain ⟨ps, cs, n0, n1⟩ := (hN5.out.below hbq.out).c i hinH.out
        obtain ⟨hf, hI2⟩ := hIH.out.step hgH.out hacH.out hPH.out hend
        have hls2 := leastAt_any (w := wq.drew) (S := S') (a := E i + nm d i) hnH.out (row_below hE5.out hbq.out.drew) (row_below hL5.out hbq.out.drew) n1 rfl (by have := suc_len l i; have := hlH.out; omega) (fun x hx => (hgH.out.lt ((mem_suc hgH.out).1 hx)).2)
        have hI2H : Hid (WyI l (nm d) E L N S' (R ++ [i]) (lsA E L (E i + nm d i) (suc l i)).1 (lsA E L (E i + nm d i) (suc l i)).2) := hI2
        clear hend hf hI2 n1 hIH hwH
        generalize lsA E L (E i + nm d i) (suc l i) = s1 at *
        obtain ⟨lv, fv⟩ := s1
        simp only at hls2 hI2H
        generalize E i + nm d i = x at *
        generalize (suc l i).length = a at *
        have hii : (i : Int) < (N : Int) := by have := hinH.out; omega
        go_wp2
        have hcq : wq.drew.heap[gp]? = some (.cells #[.slice (some ⟨g1, 0, none⟩) N cE, .slice pL N cL, .int .i64 S'] 25 (0, 0)) ∧ wq.drew.cell? ⟨gn, i, none⟩ = some (.slice ps a cs) := ⟨hzq, n0⟩
        have hls3 : Calls Tryd.prog 21 #[.agg #[.slice (some ⟨g1, 0, none⟩) N cE, .slice pL N cL, .int .i64 S'], .slice ps a cs, .int .i64 x] wq.drew fun e w' => e = .returned (.tuple #[.int .i64 (lv : Int), .bool fv]) ∧ Below wq.drew.heap.size wq.drew w' := hls2
        have hbd : Hid (Below w5.heap.size w5 wq.drew) := hbq.out.drew
        have hRd : Hid (wq.drew.ownsRow w5.heap.size 3 1 (.slice (some ⟨g6, 0, none⟩) (m + 1) cap6) (m + 1) (ints (R ++ [i]))) := hRq.out
        clear hzq n0 b2 hbq hBq hRq
        refine Tkc.region_anyC (C := fun w' => w'.heap[gp]? = some (.cells #[.slice (some ⟨g1, 0, none⟩) N cE, .slice pL N cL, .int .i64 S'] 25 (0, 0)) ∧ w'.cell? ⟨gn, i, none⟩ = some (.slice ps a cs)) (s := 11) (by kernel_rfl) ?_
        generalize wq.drew = wd2 at *
        refine Tkc.takeC (i := 0) (v := .agg #[.slice (some ⟨g1, 0, none⟩) N cE, .slice pL N cL, .int .i64 S']) rfl (by kernel_rfl) (by kernel_rfl) (by kernel_rfl) (fun _ _ _ h => h) (by decide) (by kernel_rfl) (by kernel_rfl) hcq ⟨by rfl, fun w hw => by obtain ⟨hw1, hw2⟩ := hw; have k0 := box_cell hw1 0 rfl; have k1 := box_cell hw1 1 rfl; have k2 := box_cell hw1 2 rfl; go_simp⟩ ?_
        try go_frame
        refine Tkc.takeC (i := 1) (v := .slice (some ⟨gn, 0, none⟩) N N) rfl (by kernel_rfl) (by kernel_rfl) (by kernel_rfl) (fun _ _ _ h => h) (by decide) (by kernel_rfl) (by kernel_rfl) hcq ⟨by rfl, fun w hw => by obtain ⟨hw1, hw2⟩ := hw; go_simp⟩ ?_
        try go_frame
        refine Tkc.takeC (i := 2) (v := .int .i64 (i : Int)) rfl (by kernel_rfl) (by kernel_rfl) (by kernel_rfl) (fun _ _ _ h => h) (by decide) (by kernel_rfl) (by kernel_rfl) hcq ⟨by rfl, fun w hw => by obtain ⟨hw1, hw2⟩ := hw; go_simp⟩ ?_
        try go_frame
        refine Tkc.takeC (i := 3) (v := .pointer (some ⟨gn, i, none⟩)) rfl (by kernel_rfl) (by kernel_rfl) (by kernel_rfl) (fun _ _ _ h => h) (by decide) (by kernel_rfl) (by kernel_rfl) hcq ⟨by rfl, fun w hw => by obtain ⟨hw1, hw2⟩ := hw; go_simp⟩ ?_
        try go_frame
        refine Tkc.takeC (i := 4) (v := .slice ps a cs) rfl (by kernel_rfl) (by kernel_rfl) (by kernel_rfl) (fun _ _ _ h => h) (by decide) (by kernel_rfl) (by kernel_rfl) hcq ⟨by rfl, fun w hw => by obtain ⟨hw1, hw2⟩ := hw; go_simp⟩ ?_
        try go_frame
        refine Tkc.takeC (i := 5) (v := .int .i64 x) rfl (by kernel_rfl) (by kernel_rfl) (by kernel_rfl) (fun _ _ _ h => h) (by decide) (by kernel_rfl) (by kernel_rfl) hcq ⟨by rfl, fun w hw => by obtain ⟨hw1, hw2⟩ := hw; go_simp⟩ ?_
        try go_frame
        refine Tkc.onlyC (i := 6) rfl (by kernel_rfl) (fun _ => hcq) (by rfl) (fun K hK => ?_)
        go_simp
        refine hls3.mono ?_
        rintro e w8 ⟨rfl, hb8⟩
        refine hK _ _ ?_
        clear hK K hls3 hls2
        have hc8 : w8.heap[gp]? = some (.cells #[.slice (some ⟨g1, 0, none⟩) N cE, .slice pL N cL, .int .i64 S'] 25 (0, 0)) ∧ w8.cell? ⟨gn, i, none⟩ = some (.slice ps a cs) := ⟨(hb8.block gp (Array.getElem?_eq_some_iff.1 hcq.1).1).trans hcq.1, (hb8.cell (p := ⟨gn, i, none⟩) (World.block_lt_of_cell? _ _ hcq.2)).trans hcq.2⟩
        try go_frame
        refine Tkc.takeC (i := 7) (v := .tuple #[.int .i64 (lv : Int), .bool fv]) rfl (by kernel_rfl) (by kernel_rfl) (by kernel_rfl) (fun _ _ _ h => h) (by decide) (by kernel_rfl) (by kernel_rfl) hc8 ⟨by rfl, fun w hw => by obtain ⟨hw1, hw2⟩ := hw; go_simp⟩ ?_
        try go_frame
        refine Tkc.takeC (i := 8) (v := .int .i64 (lv : Int)) rfl (by kernel_rfl) (by kernel_rfl) (by kernel_rfl) (fun _ _ _ h => h) (by decide) (by kernel_rfl) (by kernel_rfl) hc8 ⟨by rfl, fun w hw => by obtain ⟨hw1, hw2⟩ := hw; go_simp⟩ ?_
        try go_frame
        refine Tkc.takeC (i := 9) (v := .bool fv) rfl (by kernel_rfl) (by kernel_rfl) (by kernel_rfl) (fun _ _ _ h => h) (by decide) (by kernel_rfl) (by kernel_rfl) hc8 ⟨by rfl, fun w hw => by obtain ⟨hw1, hw2⟩ := hw; go_simp⟩ ?_
        try go_frame
        refine Tkc.onlyC (i := 10) rfl (by kernel_rfl) (fun _ => hc8) (by rfl) (fun K hK => ?_)
        go_simp
        refine hK _ _ ?_
        clear hK K
        refine Tkc.onlyC (i := 11) rfl (by kernel_rfl) (fun _ => hc8) (by rfl) (fun K hK => ?_)
        go_simp
        refine hK _ _ ?_
        clear hK K
        refine Tkc.doneC (by kernel_rfl) (fun hz => by have hz' : true = false := hz; cases hz') ?_
        have hR8 := row_below hRd.out hb8
        have hb58 : Below w5.heap.size w5 w8 := hbd.out.trans (hb8.mono hbd.out.size)
        clear hcq hc8
        go_wp2
        refine ⟨⟨R ++ [i], lv, fv, some ⟨g6, 0, none⟩, cap6, by rw [hl1.out], rfl, rfl, hI2H.out, by rw [hl1.out]; exact hR8, hb58⟩, ?_⟩
        have := hfew.out
        simp [lenOf']
        omega
end Go.Proofs.YtknhbpnbbnjioaaDoor
