/- PathSlack, walked. -/
import Derived.Test.YtncjnmlgkhngaabDoorPsc
import Derived.Test.YtncjnmlgkhngaabDoorGtm
namespace Go.Proofs.YtncjnmlgkhngaabDoor
open Go.RowKit Gm Pm
set_option linter.unusedSectionVars false
set_option linter.unusedVariables false

theorem nm_set {d : List Int} {i : Nat} (v : Int) (hi : i < d.length) : nm (d.set i v) = fp (nm d) i v := by
  funext k
  unfold nm fp
  by_cases e : k = i
  · subst e; simp [hi]
  · have : i ≠ k := fun x => e x.symm
    simp [e, this]
theorem pe_set {n : Int} {l : List Ed} {d : List Int} {i : Nat} {v : Int} (h : pe n l d = 0) (hv : 0 ≤ v ∧ v ≤ 1000000000) : pe n l (d.set i v) = 0 := by
  obtain ⟨h0, h1, h2, h3⟩ := pe_zero h
  have hd : durB (d.set i v) = true := by
    unfold durB at h2 ⊢
    rw [List.all_eq_true] at h2 ⊢
    intro x hx
    rcases List.mem_or_eq_of_mem_set hx with hx | rfl
    · exact h2 x hx
    · simp [spB]; exact hv
  unfold pe
  rw [if_pos h0, if_pos ⟨by rw [List.length_set]; exact h1, hd⟩, if_neg (fun x => by obtain ⟨i, hi⟩ := (knot_cyc h0).2 x; exact h3 i hi)]

theorem wpList_clone_n {w : World} {ops : Array Oper} {rest : List Oper} {o : Oper} {a : Act} {Q : Exit → Act → World → Prop} (hg : o.guard = none)
    (s x : Operand) (hop : o.op = Op.call { callee := Callee.builtin Builtin.append, args := #[s, x], argTypes := #[23, 23] })
    {v : Value} {b of c n B : Nat} {xs : List Value} (hB : B ≤ w.heap.size) (hs : a.eval s = v) (hx : a.eval x = .slice (some ⟨b, of, none⟩) n c) (h0 : w.ownsRow B 2 1 v 0 []) (hl : xs.length = n) (hc : ∀ j u, xs[j]? = some u → w.cell? ⟨b, of + j, none⟩ = some u) (h1 : ∀ u ∈ xs, u.oneCell' = true) (hb : n ≤ 4000)
    (hK : ∀ v' w', w'.ownsRow B 2 1 v' n xs → w.grownBy w' v.ownBlock → wpList Tryd.prog ops Q rest (a.put o.dst v') w') :
    wpList Tryd.prog ops Q (o :: rest) a w := by
  obtain ⟨i0, hi, hz0, hz1, hz2⟩ := info_parts info_i64
  refine wpList_plain hg fun K' hK' => ?_
  obtain ⟨v', w', hrun, r1, r2, _, _⟩ := run_append_own_at (P := Tryd.prog) (w := w) B 23 o.type 2 i0 (.int .i64 0) 1 8 Tryd.underlying23 hi hz0 hz1 hz2 rfl (by decide) v 0 [] h0 ⟨b, of, none⟩ n c xs (by omega) (fun j u hu => by rw [Addr.add_lit]; exact hc j u hu) h1 (by unfold maxLen; omega) (by omega) hB
  rw [Nat.zero_add, List.nil_append] at r1
  unfold Oper.wp
  simp [execOp, hop, resolve, invoke, builtin, hs, hx, hrun, Result.andThen]
  exact hK' _ _ (hK v' w' r1 r2)

set_option maxRecDepth 100000 in
theorem clone_n {w : World} {p : Option Addr} {c : Nat} {n : Nat} {d : List Int} (h : Nums w p d) (hd : d.length = n) (hn0 : 0 < n) (hn : n ≤ 4000) :
    Calls Tryd.prog 8 #[.slice p n c] w fun e w' => ∃ (g cap : Nat), e = .returned (.slice (some ⟨g, 0, none⟩) n cap) ∧ w'.ownsRow w.heap.size 2 1 (.slice (some ⟨g, 0, none⟩) n cap) n (numf (nm d) n) ∧ Below w.heap.size w w' := by
  have hnil := fun (w : World) (a : Option Addr) (n c : Nat) => Lib.run_eql_slice_nil (P := Tryd.prog) w 23 2 a n c 0 0 Tryd.underlying23
  rcases h with h0 | ⟨b, o, rfl, hA⟩
  · omega
  · have hal : (w.alloc (.cells #[] 2)).ownsRow w.heap.size 2 1 (.slice (some ⟨w.heap.size, 0, none⟩) 0 0) 0 [] := ⟨rfl, Or.inr ⟨w.heap.size, 0, #[], rfl, Nat.le_refl _, heap_alloc_new w _, Nat.le_refl _, by unfold maxLen; omega, rfl, rfl⟩⟩
    have hcl : Hid (∀ j u, (numf (nm d) n)[j]? = some u → (w.alloc (.cells #[] 2)).cell? ⟨b, o + j, none⟩ = some u) := fun j u hu => by
      have hj : j < n := by have := (List.getElem?_eq_some_iff.1 hu).1; rwa [numf_len] at this
      rw [numf_get hj] at hu
      cases hu
      exact cell_alloc (hA.c j (by omega)) _
    have hn' : Hid (n ≤ 4000) := hn
    have hn0' : Hid (0 < n) := hn0
    have h1 : Hid (∀ u ∈ numf (nm d) n, u.oneCell' = true) := fun u hu => by
      unfold numf at hu
      obtain ⟨j, _, rfl⟩ := List.mem_map.1 hu
      rfl
    have hlenH : Hid ((numf (nm d) n).length = n) := numf_len _ _
    clear hA hn hn0 hd
    go_enter Tryd.func8, Tryd.ntmps8
    go_wp2_with (first
      | (at_builtin; refine wpList_clone_n (B := w.heap.size) rfl _ _ rfl (by simp) rfl rfl hal hlenH.out hcl.out h1.out hn'.out ?_; intro v' w2 r2 hg2; obtain ⟨p', c', rfl⟩ := ownsRow_form' r2)
      | go_in)
    go_ret
    have hg3 : (w.alloc (.cells #[] 2)).grownBy w2 (some w.heap.size) := hg2
    obtain ⟨g2, rfl⟩ : ∃ g2, p' = some ⟨g2, 0, none⟩ := by
      rcases r2.2 with ⟨_, h0⟩ | ⟨g, cap, cur, hv, _⟩
      · have := hn0'.out; omega
      · exact ⟨g, by injection hv⟩
    refine ⟨_, _, rfl, r2, ⟨hg3.os, hg3.tape, hg3.output, ?_, fun k hk => ?_⟩⟩
    · have := hg3.size; simp at this; omega
    · rw [hg3.block k (by simp; omega) (fun e => by cases e; omega), Below.heap_alloc _ _ _ hk]

set_option maxHeartbeats 4000000 in
set_option maxRecDepth 100000 in
theorem pathSlack_walk (n : Int) (q : Option Addr) (l : List Ed) (cap : Nat) (pd : Option Addr) (d : List Int) (cd : Nat) (i more : Int) (w : World) (hZ : TabZ w) (h : Eds w q l) (hd : Nums w pd d) :
    Calls Tryd.prog 3 #[.int .i64 n, .slice q l.length cap, .slice pd d.length cd, .int .i64 i, .int .i64 more] w fun e w' => e = .returned (.bool true) ∧ Below w.heap.size w w' := by
  have hpa := paths_any w hZ
  have hEb : Hid (∀ w1, Below w.heap.size w w1 → Eds w1 q l) := fun w1 hb => h.below hb (Nat.le_refl _)
  have hdb : Hid (∀ w1, Below w.heap.size w w1 → Nums w1 pd d) := fun w1 hb => hd.below hb (Nat.le_refl _)
  have hZb : Hid (∀ w1, Below w.heap.size w w1 → TabZ w1) := fun w1 hb => hZ.below hb (Nat.le_refl _)
  by_cases h0 : pe n l d = 0
  · have hti : Hid (∀ w1, Below w.heap.size w w1 → _) := fun w1 hb => times_ok (cap := cap) (cd := cd) (hEb.out w1 hb) (hZb.out w1 hb) (hdb.out w1 hb) h0
    have hlg0 : Hid (∀ (w1 : World) (p : Option Addr) (c k : Nat) (v : Int), Below w.heap.size w w1 → Nums w1 p (d.set k v) → 0 ≤ v ∧ v ≤ 1000000000 → _) := fun w1 p c k v hb hn hv => times_ok (cap := cap) (cd := c) (hEb.out w1 hb) (hZb.out w1 hb) hn (pe_set h0 hv)
    obtain ⟨hc0, hdn, hdu, hac⟩ := pe_zero h0
    obtain ⟨hn0, hn60, hl4, _⟩ := chk_ok hc0
    obtain ⟨N, rfl⟩ : ∃ N : Nat, n = N := ⟨n.toNat, by omega⟩
    have hdN : d.length = N := by omega
    have hdNH : Hid (d.length = N) := hdN
    have hgH : Hid (Gr N l) := by have h3 := chk_gr hc0; rw [Int.toNat_natCast] at h3; exact h3
    have hacH : Hid (∀ i, ¬ Rch (eB l) i i) := hac
    have hDH : Hid (∀ i, i < N → 0 ≤ nm d i ∧ nm d i ≤ 1000000000) := dur_nm hdN hdu
    have hnH : Hid (N ≤ 60) := hgH.out.n60
    rw [hdN] at hti ⊢
    have hlg : Hid (∀ (w1 : World) (p : Option Addr) (c k : Nat) (v : Int), Below w.heap.size w w1 → Nums w1 p (d.set k v) → 0 ≤ v ∧ v ≤ 1000000000 → Calls Tryd.prog 7 #[.int .i64 (N : Int), .slice q l.length cap, .slice p N c] w1 fun e w' => (∃ E L S pE cE pL cL, e = .returned (.tuple #[.agg #[.slice pE N cE, .slice pL N cL, .int .i64 S], .int .i64 0]) ∧ Pln l (nm (d.set k v)) N E L S ∧ w'.ownsRow w1.heap.size 2 1 (.slice pE N cE) N (numf E N) ∧ w'.ownsRow w1.heap.size 2 1 (.slice pL N cL) N (numf L N)) ∧ Below w1.heap.size w1 w') := fun w1 p c k v hb hn hv => by
      have := hlg0.out w1 p c k v hb hn hv
      rwa [List.length_set, hdNH.out] at this
    clear hlg0
    clear h hd hZ h0 hc0 hdn hdu hac hl4 hdN hn0 hn60 hEb hZb
    by_cases hi0 : i < 0
    · clear hlg
      go_enter Tryd.func3, Tryd.ntmps3
      go_wp2_with (first
        | (go_at_call 6; refine hpa.mono ?_; rintro e w1 ⟨rfl, hB1⟩; clear hpa)
        | (go_at_call 7; refine (hti.out w1 hB1).mono ?_; rintro e w2 ⟨⟨E, L, S, pE, cE, pL, cL, rfl, hP, hE2, hL2⟩, hb2⟩; clear hti hP hE2 hL2; have hB2 : Below w.heap.size w w2 := hB1.trans (hb2.mono hB1.size); obtain ⟨hbz, hz⟩ := plan_box w2 #[.slice pE N cE, .slice pL N cL, .int .i64 S])
        | (refine wpList_store_row rfl 26 _ _ rfl _ #[.slice pE N cE, .slice pL N cL, .int .i64 S] rfl rfl _ _ (heap_alloc_new w2 _) (plan_info _ rfl) rfl (plan_one _ _ _ _ _ _ _) ?_; generalize World.setRow (w2.alloc (.cells #[.slice none 0 0, .slice none 0 0, .int .i64 0] 26)) w2.heap.size #[.slice pE N cE, .slice pL N cL, .int .i64 S] = wz at *)
        | go_in)
      go_ret
      exact ⟨by first | rfl | simp, hB2.trans (hbz.mono hB2.size)⟩
    by_cases hi1 : (N : Int) ≤ i
    · clear hlg
      go_enter Tryd.func3, Tryd.ntmps3
      go_wp2_with (first
        | (go_at_call 6; refine hpa.mono ?_; rintro e w1 ⟨rfl, hB1⟩; clear hpa)
        | (go_at_call 7; refine (hti.out w1 hB1).mono ?_; rintro e w2 ⟨⟨E, L, S, pE, cE, pL, cL, rfl, hP, hE2, hL2⟩, hb2⟩; clear hti hP hE2 hL2; have hB2 : Below w.heap.size w w2 := hB1.trans (hb2.mono hB1.size); obtain ⟨hbz, hz⟩ := plan_box w2 #[.slice pE N cE, .slice pL N cL, .int .i64 S])
        | (refine wpList_store_row rfl 26 _ _ rfl _ #[.slice pE N cE, .slice pL N cL, .int .i64 S] rfl rfl _ _ (heap_alloc_new w2 _) (plan_info _ rfl) rfl (plan_one _ _ _ _ _ _ _) ?_; generalize World.setRow (w2.alloc (.cells #[.slice none 0 0, .slice none 0 0, .int .i64 0] 26)) w2.heap.size #[.slice pE N cE, .slice pL N cL, .int .i64 S] = wz at *)
        | go_in)
      go_ret
      exact ⟨by first | rfl | simp, hB2.trans (hbz.mono hB2.size)⟩
    by_cases hm0 : more < 0
    · clear hlg
      go_enter Tryd.func3, Tryd.ntmps3
      go_wp2_with (first
        | (go_at_call 6; refine hpa.mono ?_; rintro e w1 ⟨rfl, hB1⟩; clear hpa)
        | (go_at_call 7; refine (hti.out w1 hB1).mono ?_; rintro e w2 ⟨⟨E, L, S, pE, cE, pL, cL, rfl, hP, hE2, hL2⟩, hb2⟩; clear hti hP hE2 hL2; have hB2 : Below w.heap.size w w2 := hB1.trans (hb2.mono hB1.size); obtain ⟨hbz, hz⟩ := plan_box w2 #[.slice pE N cE, .slice pL N cL, .int .i64 S])
        | (refine wpList_store_row rfl 26 _ _ rfl _ #[.slice pE N cE, .slice pL N cL, .int .i64 S] rfl rfl _ _ (heap_alloc_new w2 _) (plan_info _ rfl) rfl (plan_one _ _ _ _ _ _ _) ?_; generalize World.setRow (w2.alloc (.cells #[.slice none 0 0, .slice none 0 0, .int .i64 0] 26)) w2.heap.size #[.slice pE N cE, .slice pL N cL, .int .i64 S] = wz at *)
        | go_in)
      go_ret
      exact ⟨by first | rfl | simp, hB2.trans (hbz.mono hB2.size)⟩
    by_cases hm1 : 1000000 < more
    · clear hlg
      go_enter Tryd.func3, Tryd.ntmps3
      go_wp2_with (first
        | (go_at_call 6; refine hpa.mono ?_; rintro e w1 ⟨rfl, hB1⟩; clear hpa)
        | (go_at_call 7; refine (hti.out w1 hB1).mono ?_; rintro e w2 ⟨⟨E, L, S, pE, cE, pL, cL, rfl, hP, hE2, hL2⟩, hb2⟩; clear hti hP hE2 hL2; have hB2 : Below w.heap.size w w2 := hB1.trans (hb2.mono hB1.size); obtain ⟨hbz, hz⟩ := plan_box w2 #[.slice pE N cE, .slice pL N cL, .int .i64 S])
        | (refine wpList_store_row rfl 26 _ _ rfl _ #[.slice pE N cE, .slice pL N cL, .int .i64 S] rfl rfl _ _ (heap_alloc_new w2 _) (plan_info _ rfl) rfl (plan_one _ _ _ _ _ _ _) ?_; generalize World.setRow (w2.alloc (.cells #[.slice none 0 0, .slice none 0 0, .int .i64 0] 26)) w2.heap.size #[.slice pE N cE, .slice pL N cL, .int .i64 S] = wz at *)
        | go_in)
      go_ret
      exact ⟨by first | rfl | simp, hB2.trans (hbz.mono hB2.size)⟩
    obtain ⟨I, rfl⟩ : ∃ I : Nat, i = I := ⟨i.toNat, by omega⟩
    have hI : Hid (I < N) := by show _ < _; omega
    have hmH : Hid (0 ≤ more ∧ more ≤ 1000000) := by constructor <;> omega
    go_enter Tryd.func3, Tryd.ntmps3
    go_wp2_with (first
      | (go_at_call 6; refine hpa.mono ?_; rintro e w1 ⟨rfl, hB1⟩; clear hpa)
      | (go_at_call 7; refine (hti.out w1 hB1).mono ?_; rintro e w2 ⟨⟨E, L, S, pE, cE, pL, cL, rfl, hP, hE2, hL2⟩, hb2⟩; clear hti; have hPH : Hid (Pln l (nm d) N E L S) := hP; clear hP; have hB2 : Below w.heap.size w w2 := hB1.trans (hb2.mono hB1.size); obtain ⟨hbz, hz⟩ := plan_box w2 #[.slice pE N cE, .slice pL N cL, .int .i64 S])
      | (refine wpList_store_row rfl 26 _ _ rfl _ #[.slice pE N cE, .slice pL N cL, .int .i64 S] rfl rfl _ _ (heap_alloc_new w2 _) (plan_info _ rfl) rfl (plan_one _ _ _ _ _ _ _) ?_; generalize World.setRow (w2.alloc (.cells #[.slice none 0 0, .slice none 0 0, .int .i64 0] 26)) w2.heap.size #[.slice pE N cE, .slice pL N cL, .int .i64 S] = wz at *)
      | go_in)
    have hBz : Hid (Below w.heap.size w wz) := hB2.trans (hbz.mono hB2.size)
    have hzH : Hid (wz.heap[w2.heap.size]? = some (.cells #[.slice pE N cE, .slice pL N cL, .int .i64 S] 26 (0, 0))) := hz
    have a0 := box_cell hz 0 rfl
    have a1 := box_cell hz 1 rfl
    obtain ⟨g1, rfl, e1, _⟩ := row_num (row_below hE2 hbz) hI.out
    obtain ⟨g2, rfl, e2, _⟩ := row_num (row_below hL2 hbz) hI.out
    have hbd := hPH.out.bounds hgH.out hacH.out hDH.out
    have hEL : Hid (0 ≤ E I ∧ E I ≤ L I ∧ L I ≤ 61000000000) := by have h1 := hbd.1 I hI.out; have h2 := hbd.2.2; exact ⟨h1.1, h1.2.1, by omega⟩
    have hSb : Hid (0 ≤ S ∧ S ≤ 61000000000) := hbd.2
    have hDI : Hid (0 ≤ nm d I ∧ nm d I ≤ 1000000000) := hDH.out I hI.out
    have hsl : Hid (∀ E' L' S' (m : Int), 0 ≤ m → Pln l (nm (d.set I (nm d I + (L I - E I) + m))) N E' L' S' → S' = S + m) := fun E' L' S' m hm h' => by
      rw [nm_set _ (by rw [hdNH.out]; exact hI.out)] at h'
      exact hPH.out.slack hgH.out hacH.out hI.out hm h'
    have hst : Hid (∀ v : Int, (numf (nm d) N).set I (.int .i64 v) = numf (nm (d.set I v)) N) := fun v => by rw [numf_set, nm_set _ (by rw [hdNH.out]; exact hI.out)]
    have hst2 : Hid (∀ u v : Int, (numf (nm (d.set I u)) N).set I (.int .i64 v) = numf (nm (d.set I v)) N) := fun u v => by
      rw [numf_set, nm_set _ (by rw [hdNH.out]; exact hI.out), nm_set _ (by rw [hdNH.out]; exact hI.out)]
      congr 1
      funext k
      unfold fp
      split <;> rfl
    have hnu : Hid (∀ v : Int, nm (d.set I v) I = v) := fun v => by rw [nm_set _ (by rw [hdNH.out]; exact hI.out), fp_same]
    have hll : Hid (∀ v : Int, (d.set I v).length = N) := fun v => by rw [List.length_set]; exact hdNH.out
    have hsw : wrap64 (L I - E I) = L I - E I := by have := hEL.out; unfold wrap64; omega
    have hk0 : ¬ (I : Int) < 0 := by omega
    have hkg : ¬ (N : Int) ≤ (I : Int) := by omega
    have hslk : ¬ (L I - E I) < 0 := by have := hEL.out; omega
    obtain ⟨db, dof, rfl, d0⟩ := (hdb.out wz hBz.out).at'' (i := I) (by have := hdNH.out; have := hI.out; omega)
    clear hE2 hL2 hbz hz hB1 hB2 hb2 hbd hPH
    generalize w2.heap.size = gp at *
    obtain ⟨sl, hsl0⟩ : ∃ sl, L I - E I = sl := ⟨_, rfl⟩
    rw [hsl0] at hsl hsw hslk
    have hslb : Hid (0 ≤ sl ∧ sl ≤ 61000000000) := by have := hEL.out; constructor <;> omega
    have hsw2 : wrap64 (L I - E I) = sl := by rw [hsl0]; exact hsw
    clear hsl0 hsw
    generalize E I = eI at *
    generalize L I = lI at *
    have hdx : Hid (∀ w1, Below w.heap.size w w1 → Nums w1 (some ⟨db, dof, none⟩) d) := hdb
    clear hdb
    generalize hdI : nm d I = x at *
    have hdIH : Hid (nm d I = x) := hdI
    clear hdI
    go_wp2
    go_quiet (fail)
    have hBq : Hid (Below w.heap.size w (wz.drewN nq)) := drewN_below hBz.out nq
    have hzq : Hid ((wz.drewN nq).heap[gp]? = some (.cells #[.slice (some ⟨g1, 0, none⟩) N cE, .slice (some ⟨g2, 0, none⟩) N cL, .int .i64 S] 26 (0, 0))) := hzH.out
    have d1 : (wz.drewN nq).cell? ⟨db, dof + I, none⟩ = some (.int .i64 x) := d0
    clear a0 a1 e1 e2 d0 hzH hBz
    generalize wz.drewN nq = wq at *
    have hs1 : wrap64 (x + sl) = x + sl := by have := hslb.out; have := hDI.out; unfold wrap64; omega
    have hs2 : wrap64 (x + sl + more) = x + sl + more := by have := hslb.out; have := hDI.out; have := hmH.out; unfold wrap64; omega
    by_cases hbig : 1000000000 < x + sl + more
    · go_wp2
      go_ret
      exact ⟨by first | rfl | simp | (simp; omega), hBq.out⟩
    have hv1 : Hid (0 ≤ x + sl ∧ x + sl ≤ 1000000000) := by have := hslb.out; have := hDI.out; have := hmH.out; constructor <;> omega
    have hv2 : Hid (0 ≤ x + sl + more ∧ x + sl + more ≤ 1000000000) := by have := hslb.out; have := hDI.out; have := hmH.out; constructor <;> omega
    have hcn := clone_n (c := cd) (hdx.out wq hBq.out) hdNH.out (by have := hI.out; omega) (Nat.le_trans hnH.out (by omega))
    have hs3 : wrap64 (S + more) = S + more := by have := hSb.out; have := hmH.out; unfold wrap64; omega
    go_wp2_with (first
      | (go_at_call 8; refine hcn.mono ?_; rintro e w6 ⟨g6, c6, rfl, hR6, hb6⟩; clear hcn; have hB6 : Below w.heap.size w w6 := hBq.out.trans (hb6.mono hBq.out.size); have hg6 := (hR6.lt g6 rfl).1; have hgp : gp < wq.heap.size := (Array.getElem?_eq_some_iff.1 hzq.out).1; have hws := hBq.out.size; have hne6 : Hid (gp ≠ g6 ∧ w.heap.size ≤ g6) := ⟨by omega, by omega⟩; have y6 : w6.cell? ⟨g6, I, none⟩ = some (.int .i64 x) := (by rw [hR6.cellAt I (by have := hI.out; omega), numf_get hI.out, hdIH.out]); have f6 := owns_frz hR6 I; have zpA : (w6.setCell ⟨g6, I, none⟩ (.int .i64 (x + sl))).heap[gp]? = some (.cells #[.slice (some ⟨g1, 0, none⟩) N cE, .slice (some ⟨g2, 0, none⟩) N cL, .int .i64 S] 26 (0, 0)) := (Below.heap_setCell w6 ⟨g6, I, none⟩ _ gp hne6.out.1).trans ((hb6.block gp hgp).trans hzq.out); have hRA : (w6.setCell ⟨g6, I, none⟩ (.int .i64 (x + sl))).ownsRow wq.heap.size 2 1 (.slice (some ⟨g6, 0, none⟩) N c6) N (numf (nm (d.set I (x + sl))) N) := (by rw [← hst.out]; exact owns_store hR6 _); have hBA : Below w.heap.size w (w6.setCell ⟨g6, I, none⟩ (.int .i64 (x + sl))) := hB6.setCell (p := ⟨g6, I, none⟩) hne6.out.2 _; have htA := hlg.out (w6.setCell ⟨g6, I, none⟩ (.int .i64 (x + sl))) _ c6 I (x + sl) hBA (nums_row hRA (hll.out _)) hv1.out; clear hR6 hg6 hgp hws hb6 hB6)
      | (go_at_call 7; refine htA.mono ?_; rintro e w8 ⟨⟨E1, L1, S1, pE1, cE1, pL1, cL1, rfl, hP1, _, _⟩, hb8⟩; clear htA y6 f6; obtain rfl : S = S1 := (by have := hsl.out E1 L1 S1 0 (Int.le_refl _) (by rw [Int.add_zero]; exact hP1); omega); clear hP1; have hB8 : Below w.heap.size w w8 := hBA.trans (hb8.mono hBA.size); have zp8 := (hb8.block gp (Array.getElem?_eq_some_iff.1 zpA).1).trans zpA; have hR8 := row_below hRA hb8; clear zpA hRA hBA hb8; obtain ⟨hb9, zq9⟩ := plan_box w8 #[.slice pE1 N cE1, .slice pL1 N cL1, .int .i64 S])
      | (refine wpList_store_row rfl 26 _ _ rfl _ #[.slice pE1 N cE1, .slice pL1 N cL1, .int .i64 S] rfl rfl _ _ (heap_alloc_new w8 _) (plan_info _ rfl) rfl (plan_one _ _ _ _ _ _ _) ?_; generalize World.setRow (w8.alloc (.cells #[.slice none 0 0, .slice none 0 0, .int .i64 0] 26)) w8.heap.size #[.slice pE1 N cE1, .slice pL1 N cL1, .int .i64 S] = w9 at *; have hB9 : Below w.heap.size w w9 := hB8.trans (hb9.mono hB8.size); have zp9 := (hb9.block gp (Array.getElem?_eq_some_iff.1 zp8).1).trans zp8; have hR9 := row_below hR8 hb9; have hg8 := (hR8.lt g6 rfl).2; have y9 : w9.cell? ⟨g6, I, none⟩ = some (.int .i64 (x + sl)) := (by rw [hR9.cellAt I (by have := hI.out; omega), numf_get hI.out, hnu.out]); have f9 := owns_frz hR9 I; generalize hgq : w8.heap.size = gq at *; have hneq : Hid (gq ≠ g6) := (by show _ ≠ _; omega); have zpC : (w9.setCell ⟨g6, I, none⟩ (.int .i64 (x + sl + more))).heap[gp]? = some (.cells #[.slice (some ⟨g1, 0, none⟩) N cE, .slice (some ⟨g2, 0, none⟩) N cL, .int .i64 S] 26 (0, 0)) := (Below.heap_setCell w9 ⟨g6, I, none⟩ _ gp hne6.out.1).trans zp9; have zqC : (w9.setCell ⟨g6, I, none⟩ (.int .i64 (x + sl + more))).heap[gq]? = some (.cells #[.slice pE1 N cE1, .slice pL1 N cL1, .int .i64 S] 26 (0, 0)) := (Below.heap_setCell w9 ⟨g6, I, none⟩ _ gq hneq.out).trans zq9; have hRC : (w9.setCell ⟨g6, I, none⟩ (.int .i64 (x + sl + more))).ownsRow wq.heap.size 2 1 (.slice (some ⟨g6, 0, none⟩) N c6) N (numf (nm (d.set I (x + sl + more))) N) := (by rw [← hst2.out (x + sl)]; exact owns_store hR9 _); have hBC : Below w.heap.size w (w9.setCell ⟨g6, I, none⟩ (.int .i64 (x + sl + more))) := hB9.setCell (p := ⟨g6, I, none⟩) hne6.out.2 _; have htC := hlg.out (w9.setCell ⟨g6, I, none⟩ (.int .i64 (x + sl + more))) _ c6 I (x + sl + more) hBC (nums_row hRC (hll.out _)) hv2.out; clear zp8 hR8 zp9 zq9 hR9 hg8 hB8 hB9 hb9 hgq)
      | (go_at_call 7; refine htC.mono ?_; rintro e w11 ⟨⟨E2, L2, S2, pE2, cE2, pL2, cL2, rfl, hP2, _, _⟩, hb11⟩; clear htC y9 f9; obtain rfl : S2 = S + more := hsl.out E2 L2 S2 more hmH.out.1 hP2; clear hP2; have hB11 : Below w.heap.size w w11 := hBC.trans (hb11.mono hBC.size); have zp11 := (hb11.block gp (Array.getElem?_eq_some_iff.1 zpC).1).trans zpC; have zq11 := (hb11.block gq (Array.getElem?_eq_some_iff.1 zqC).1).trans zqC; clear zpC zqC hRC hBC hb11; obtain ⟨hb12, zr12⟩ := plan_box w11 #[.slice pE2 N cE2, .slice pL2 N cL2, .int .i64 (S + more)])
      | (refine wpList_store_row rfl 26 _ _ rfl _ #[.slice pE2 N cE2, .slice pL2 N cL2, .int .i64 (S + more)] rfl rfl _ _ (heap_alloc_new w11 _) (plan_info _ rfl) rfl (plan_one _ _ _ _ _ _ _) ?_; generalize World.setRow (w11.alloc (.cells #[.slice none 0 0, .slice none 0 0, .int .i64 0] 26)) w11.heap.size #[.slice pE2 N cE2, .slice pL2 N cL2, .int .i64 (S + more)] = w12 at *; have hB12 : Below w.heap.size w w12 := hB11.trans (hb12.mono hB11.size); have k2 := cell_alloc (box_cell ((hb12.block gp (Array.getElem?_eq_some_iff.1 zp11).1).trans zp11) 2 rfl) (.cells #[.int .i64 0, .int .i64 0] 27); have q2 := cell_alloc (box_cell ((hb12.block gq (Array.getElem?_eq_some_iff.1 zq11).1).trans zq11) 2 rfl) (.cells #[.int .i64 0, .int .i64 0] 27); have r2 := cell_alloc (box_cell zr12 2 rfl) (.cells #[.int .i64 0, .int .i64 0] 27); have hB13 : Below w.heap.size w (w12.alloc (.cells #[.int .i64 0, .int .i64 0] 27)) := hB12.alloc hB12.size _; have hn13 := heap_alloc_new w12 (.cells #[.int .i64 0, .int .i64 0] 27); have hgd := good2 w12.heap.size 0 0 _ ((cell_of_row _ _ 0 _ _ _ hn13).trans rfl) ((cell_of_row _ _ 1 _ _ _ hn13).trans rfl); clear zp11 zq11 zr12 hb12 hn13 hB11 hB12)
      | (go_at_call 9; refine hgd.mono ?_; rintro e w' ⟨rfl, hw'⟩; have hw'' := hw'.symm; subst hw''; clear hgd)
      | go_in)
    go_ret
    exact ⟨by first | rfl | simp, hB13⟩
  · have hti : Hid (∀ w1, Below w.heap.size w w1 → _) := fun w1 hb => times_bad (cap := cap) (cd := cd) (hEb.out w1 hb) (hZb.out w1 hb) (hdb.out w1 hb) h0
    have hc0 : (pe n l d == 0) = false := by simpa using h0
    have hc1 : (pe n l d != 0) = true := by simpa using h0
    generalize pe n l d = y at *
    clear h0 h hd hZ hZb hEb hdb
    go_enter Tryd.func3, Tryd.ntmps3
    go_wp2_with (first
      | (go_at_call 6; refine hpa.mono ?_; rintro e w1 ⟨rfl, hB1⟩; clear hpa)
      | (go_at_call 7; refine (hti.out w1 hB1).mono ?_; rintro e w2 ⟨rfl, hb2⟩; clear hti; have hB2 : Below w.heap.size w w2 := hB1.trans (hb2.mono hB1.size); obtain ⟨hbz, hz⟩ := plan_box w2 #[.slice none 0 0, .slice none 0 0, .int .i64 0])
      | (refine wpList_store_row rfl 26 _ _ rfl _ #[.slice none 0 0, .slice none 0 0, .int .i64 0] rfl rfl _ _ (heap_alloc_new w2 _) (plan_info _ rfl) rfl (plan_one _ _ _ _ _ _ _) ?_; generalize World.setRow (w2.alloc (.cells #[.slice none 0 0, .slice none 0 0, .int .i64 0] 26)) w2.heap.size #[.slice none 0 0, .slice none 0 0, .int .i64 0] = wz at *; have p2 : wz.cell? ⟨w2.heap.size, 2, none⟩ = some (.int .i64 0) := box_cell hz 2 rfl)
      | go_in)
    go_ret
    exact ⟨by first | rfl | simp, hB2.trans (hbz.mono hB2.size)⟩
end Go.Proofs.YtncjnmlgkhngaabDoor
