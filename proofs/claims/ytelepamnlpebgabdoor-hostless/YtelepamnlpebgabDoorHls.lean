/- HostLess, walked. -/
import Derived.Test.YtelepamnlpebgabDoorHin
namespace Go.Proofs.YtelepamnlpebgabDoor
open Go.RowKit Go.Shelf Akm Ndm
set_option linter.unusedSectionVars false
set_option linter.unusedVariables false

set_option maxHeartbeats 2000000 in
set_option maxRecDepth 100000 in
theorem less1_any (F : List Nat) (p : Option Addr) (n c gp : Nat) (hn : F.length = n) (h30 : n ≤ 30) (x : Nat) (hx : x ∈ F) (w : World) (h : IntR w p F) (hp : w.heap[gp]? = some (.cells #[.slice p n c] 38 (0, 0))) : Calls Tryd.prog 33 #[.int .i64 (x : Int), .pointer (some ⟨gp, 0, none⟩)] w fun e w' => e = .returned (.bool false) ∧ w' = w := by
  have hc := containsI_any F (x : Int) p n c hn h30 w h true (mI_mem.2 hx)
  have z0 : w.cell? ⟨gp, 0, none⟩ = some (.slice p n c) := (cell_of_row _ _ 0 _ _ _ hp).trans rfl
  clear hn h30 hx h hp
  go_enter Tryd.func33, Tryd.ntmps33
  go_wp2_with (first
    | (go_at_call 30; refine hc.mono ?_; rintro e w3 ⟨rfl, hw3⟩; have hw4 := hw3.symm; subst hw4; clear hc)
    | go_in)
  go_ret
  exact ⟨rfl, rfl⟩

set_option maxHeartbeats 2000000 in
set_option maxRecDepth 100000 in
theorem indexL2_any (F : List Nat) (p : Option Addr) (n c gp : Nat) (hn : F.length = n) (h30 : n ≤ 30) (G : List Nat) (hG : ∀ x ∈ G, x ∈ F) (q : Option Addr) (n2 c2 : Nat) (hn2 : G.length = n2) (h302 : n2 ≤ 30) (w : World) (h : IntR w p F) (h2 : IntR w q G) (hp : w.heap[gp]? = some (.cells #[.slice p n c] 38 (0, 0))) :
    Calls Tryd.prog 62 #[.slice q n2 c2, .func (.func 33) #[] #[.pointer (some ⟨gp, 0, none⟩)]] w fun e w' => e = .returned (.int .i64 (-1)) ∧ w' = w := by
  have hcl : Hid (∀ x ∈ F, Calls Tryd.prog 33 #[.int .i64 (x : Int), .pointer (some ⟨gp, 0, none⟩)] w fun e w' => e = .returned (.bool false) ∧ w' = w) := fun x hx => less1_any F p n c gp hn h30 x hx w h hp
  have hH : Hid (IntR w q G) := h2
  have hGH : Hid (∀ x ∈ G, x ∈ F) := hG
  have hnH : Hid (G.length = n2) := hn2
  have h30i : (n2 : Int) ≤ 30 := by omega
  clear h h2 hp hn h30 hG hn2 h302
  go_enter Tryd.func62, Tryd.ntmps62
  go_wp2
  go_loopw [8] (fun iv wr => ∃ j : Nat, iv = .int .i64 j ∧ j ≤ n2 ∧ wr = w) (fun iv _ => n2 - (intOf iv).toNat)
  case atStart => exact ⟨0, rfl, Nat.zero_le _, rfl⟩
  case round =>
    obtain ⟨j, rfl, hj, rfl⟩ := hrel
    by_cases hjl : j < n2
    · obtain ⟨x, hx⟩ : ∃ x, G[j]? = some x := ⟨G[j]'(by rw [hnH.out]; exact hjl), List.getElem?_eq_getElem _⟩
      obtain ⟨g, rfl, hg, hc⟩ := hH.out.resolve_left (fun e => by have := hnH.out; rw [e] at this; simp at this; omega)
      have z0 := hc j x hx
      have hcall := hcl.out x (hGH.out x (List.mem_of_getElem? hx))
      have hlt : (j : Int) < (n2 : Int) := by omega
      have hjH : Hid (j < n2) := hjl
      clear hx hc hj hjl
      go_wp2_with (first
        | (go_at_call 33; refine hcall.mono ?_; rintro e w3 ⟨rfl, hw3⟩; have hw4 := hw3.symm; subst hw4; clear hcall)
        | go_in)
      refine ⟨⟨j + 1, by first | rfl | simp, hjH.out, by first | rfl | trivial⟩, ?_⟩
      have := hjH.out
      simp [intOf]
      omega
    · have hlt : ¬ (j : Int) < (n2 : Int) := by omega
      go_wp2
      go_ret
      exact ⟨rfl, rfl⟩
theorem containsL2_any (F : List Nat) (p : Option Addr) (n c gp : Nat) (hn : F.length = n) (h30 : n ≤ 30) (G : List Nat) (hG : ∀ x ∈ G, x ∈ F) (q : Option Addr) (n2 c2 : Nat) (hn2 : G.length = n2) (h302 : n2 ≤ 30) (w : World) (h : IntR w p F) (h2 : IntR w q G) (hp : w.heap[gp]? = some (.cells #[.slice p n c] 38 (0, 0))) :
    Calls Tryd.prog 32 #[.slice q n2 c2, .func (.func 33) #[] #[.pointer (some ⟨gp, 0, none⟩)]] w fun e w' => e = .returned (.bool false) ∧ w' = w := by
  have hi := indexL2_any F p n c gp hn h30 G hG q n2 c2 hn2 h302 w h h2 hp
  clear hn h30 hG hn2 h302 h h2 hp
  go_enter Tryd.func32, Tryd.ntmps32
  go_wp2_with (first
    | (go_at_call 62; refine hi.mono ?_; rintro e w3 ⟨rfl, hw3⟩; have hw4 := hw3.symm; subst hw4; clear hi)
    | go_in)
  go_ret
  exact ⟨rfl, rfl⟩

/-- Where more is needed no more hosts fit. -/
theorem less_sub {l : List Ht} {t : Tr} {a b : N3} (h1 : aE a b = 0) (h2 : ftE l t a = 0) (h3 : ftE l t (aR a b) = 0) : ∀ x ∈ ftL l t (aR a b), x ∈ ftL l t a := by
  intro x hx
  obtain ⟨h, hh, hf⟩ := (ftL_mem h3).1 hx
  refine (ftL_mem h2).2 ⟨h, hh, ?_⟩
  unfold fiB at hf ⊢
  simp only [Bool.and_eq_true, decide_eq_true_eq] at hf ⊢
  refine ⟨hf.1, ?_⟩
  have hl := hf.2
  have oa := (ftE_zero h2).2.2
  unfold aE at h1
  by_cases e1 : (okN a && okN b) = true
  · rw [if_pos e1] at h1
    by_cases e2 : okN (addN a b) = true
    · have ec : aR a b = addN a b := by unfold aR; rw [if_pos e1, if_pos e2]
      rw [ec] at hl
      simp only [Bool.and_eq_true] at e1
      unfold lfE at hl ⊢
      by_cases e3 : sE h.hs h.us = 0
      · rw [if_neg (by simpa using e3)] at hl ⊢
        generalize sR h.hs h.us = R at *
        unfold sE at hl ⊢
        by_cases e4 : (okN R && okN (addN a b)) = true
        · rw [if_pos e4] at hl
          by_cases e5 : ftN (addN a b) R = true
          · simp only [Bool.and_eq_true] at e4
            rw [if_pos (by simp [e4.1, oa])]
            have f5 := ftN_iff.1 e5
            have ob := okN_iff.1 e1.2
            simp only [addN] at f5
            rw [if_pos (ftN_iff.2 ⟨by omega, by omega, by omega⟩)]
          · rw [if_neg e5] at hl
            cases hl
        · rw [if_neg e4] at hl
          cases hl
      · rw [if_pos e3] at hl
        exact absurd hl e3
    · rw [if_neg e2] at h1
      cases h1
  · rw [if_neg e1] at h1
    cases h1

theorem boxes_ann (w : World) (d d' : N3) (c0 c1 c2 c3 c4 : Value) : (((w.alloc (.cells #[c0, c1, c2, c3, c4] 25)).alloc (.cells #[.int .i64 d.x, .int .i64 d.y, .int .i64 d.z] 27)).alloc (.cells #[.int .i64 (d').x, .int .i64 (d').y, .int .i64 (d').z] 27)).heap[w.heap.size]? = some (.cells #[c0, c1, c2, c3, c4] 25 (0, 0)) ∧ (((w.alloc (.cells #[c0, c1, c2, c3, c4] 25)).alloc (.cells #[.int .i64 d.x, .int .i64 d.y, .int .i64 d.z] 27)).alloc (.cells #[.int .i64 (d').x, .int .i64 (d').y, .int .i64 (d').z] 27)).heap[w.heap.size + 1]? = some (.cells #[.int .i64 d.x, .int .i64 d.y, .int .i64 d.z] 27 (0, 0)) ∧ (((w.alloc (.cells #[c0, c1, c2, c3, c4] 25)).alloc (.cells #[.int .i64 d.x, .int .i64 d.y, .int .i64 d.z] 27)).alloc (.cells #[.int .i64 (d').x, .int .i64 (d').y, .int .i64 (d').z] 27)).heap[w.heap.size + 1 + 1]? = some (.cells #[.int .i64 (d').x, .int .i64 (d').y, .int .i64 (d').z] 27 (0, 0)) ∧ Below w.heap.size w (((w.alloc (.cells #[c0, c1, c2, c3, c4] 25)).alloc (.cells #[.int .i64 d.x, .int .i64 d.y, .int .i64 d.z] 27)).alloc (.cells #[.int .i64 (d').x, .int .i64 (d').y, .int .i64 (d').z] 27)) := by
  refine ⟨(Below.heap_alloc _ _ _ (by simp; omega)).trans ((Below.heap_alloc _ _ _ (by simp)).trans (heap_alloc_new _ _)), ?_, ?_, (((Below.refl _ _).alloc (Nat.le_refl _) _).alloc (by simp) _).alloc (by simp; omega) _⟩
  · have h := heap_alloc_new (w.alloc (.cells #[c0, c1, c2, c3, c4] 25)) (.cells #[.int .i64 d.x, .int .i64 d.y, .int .i64 d.z] 27)
    rw [World.size_alloc] at h
    exact (Below.heap_alloc _ _ _ (by simp)).trans h
  · have h := heap_alloc_new ((w.alloc (.cells #[c0, c1, c2, c3, c4] 25)).alloc (.cells #[.int .i64 d.x, .int .i64 d.y, .int .i64 d.z] 27)) (.cells #[.int .i64 (d').x, .int .i64 (d').y, .int .i64 (d').z] 27)
    rw [World.size_alloc, World.size_alloc] at h
    exact h
theorem good3H (w : World) (e g i : Int) : Calls Tryd.prog 28 #[.slice (some ⟨w.heap.size, 0, none⟩) 3 3] (w.alloc (.cells #[.int .i64 e, .int .i64 g, .int .i64 i] 31)) fun x w' => x = .returned (.bool (gdB [e, g, i])) ∧ w' = w.alloc (.cells #[.int .i64 e, .int .i64 g, .int .i64 i] 31) :=
  good_any (L := [e, g, i]) rfl (by
    intro j hj
    rcases (show j = 0 ∨ j = 1 ∨ j = 2 by omega) with rfl | rfl | rfl
    · exact (cell_of_row _ _ 0 _ _ _ (heap_alloc_new _ _)).trans rfl
    · exact (cell_of_row _ _ 1 _ _ _ (heap_alloc_new _ _)).trans rfl
    · exact (cell_of_row _ _ 2 _ _ _ (heap_alloc_new _ _)).trans rfl) (by omega)
theorem ftL_30 {l : List Ht} {t : Tr} {d : N3} : (ftL l t d).length ≤ 30 := by
  by_cases h0 : ftE l t d = 0
  · have := hc_30 h0
    unfold ftL
    rw [if_pos h0]
    exact Nat.le_trans (fiG_len _ _ _ _) this
  · unfold ftL
    rw [if_neg h0]
    simp

set_option maxHeartbeats 8000000 in
set_option maxRecDepth 100000 in
theorem hostLess_run (k : Int) (a b : ByteArray) (n : Int) (xs : List Tr) (p : Option Addr) (m cap : Nat) (hm : xs.length = m) (l : List Ht) (q : Option Addr) (nl c : Nat) (hnl : l.length = nl) (hnc : nl ≤ c) (d d' : N3) (w : World) (hA : TabA w) (hv : liesT w (.mk k a b n xs) (.agg #[.int .i64 k, .string a, .string b, .int .i64 n, .slice p m cap])) (hl : Hsts w q l) :
    Calls Tryd.prog 7 #[.slice q nl c, .agg #[.int .i64 k, .string a, .string b, .int .i64 n, .slice p m cap], .agg #[.int .i64 d.x, .int .i64 d.y, .int .i64 d.z], .agg #[.int .i64 (d').x, .int .i64 (d').y, .int .i64 (d').z]] w fun e w' => e = .returned (.bool true) ∧ Below w.heap.size w w' := by
  obtain ⟨fx0, fa0, fb0, HB0⟩ := boxes_ann w d d' (.int .i64 k) (.string a) (.string b) (.int .i64 n) (.slice p m cap)
  have hho := fun w1 (h : Below w.heap.size w w1) => hosts_any w1 (hA.below h (Nat.le_refl _))
  have hfi : ∀ w1 (h : Below w.heap.size w w1) (D : N3), Calls Tryd.prog 13 #[.slice q nl c, .agg #[.int .i64 k, .string a, .string b, .int .i64 n, .slice p m cap], .agg #[.int .i64 D.x, .int .i64 D.y, .int .i64 D.z]] w1 fun e w' => (∃ pf cf, e = .returned (.tuple #[.slice pf (ftL l (.mk k a b n xs) D).length cf, .int .i64 (ftE l (.mk k a b n xs) D)]) ∧ IntR w' pf (ftL l (.mk k a b n xs) D)) ∧ Below w1.heap.size w1 w' := fun w1 h D => (Fit_any k a b n xs p m cap hm l q nl c hnl hnc D w1 (hA.below h (Nat.le_refl _)) (liesT_below _ _ hv h) (hl.below h)).mono fun e w' ⟨⟨pf, cf, h1, h2⟩, h3⟩ => ⟨⟨pf, cf, h1, IntR.of h2⟩, h3⟩
  obtain ⟨C, hC⟩ : ∃ C, aR d d' = C := ⟨_, rfl⟩
  have had := fun w1 => Add_any d d' w1
  rw [hC] at had
  have hsub := fun h1 h2 h3 => less_sub (l := l) (t := .mk k a b n xs) (a := d) (b := d') h1 h2 h3
  rw [hC] at hsub
  have hf1 := fun w1 h => hfi w1 h d
  have hf2 := fun w1 h => hfi w1 h C
  have l1 : (ftL l (.mk k a b n xs) d).length ≤ 30 := ftL_30
  have l2 : (ftL l (.mk k a b n xs) C).length ≤ 30 := ftL_30
  generalize ftL l (.mk k a b n xs) d = F at *
  generalize ftL l (.mk k a b n xs) C = G at *
  generalize ftE l (.mk k a b n xs) d = e1 at *
  generalize ftE l (.mk k a b n xs) C = e2 at *
  generalize aE d d' = e0 at *
  have hsubH : Hid (e0 = 0 → e1 = 0 → e2 = 0 → ∀ x ∈ G, x ∈ F) := hsub
  have l1H : Hid (F.length ≤ 30) := l1
  have l2H : Hid (G.length ≤ 30) := l2
  obtain ⟨nF, hnF⟩ : ∃ nF, F.length = nF := ⟨_, rfl⟩
  obtain ⟨nG, hnG⟩ : ∃ nG, G.length = nG := ⟨_, rfl⟩
  rw [hnF] at hf1
  rw [hnG] at hf2
  have hnFH : Hid (F.length = nF) := hnF
  have hnGH : Hid (G.length = nG) := hnG
  clear hA hv hl hm hnl hnc hfi hC hsub l1 l2 hnF hnG
  go_enter Tryd.func7, Tryd.ntmps7
  go_wp2_with (first
    | (go_at_call 25; refine (hho _ HB0).mono ?_; rintro e w1 ⟨rfl, hb1⟩; have fx1 := (hb1.block _ (Array.getElem?_eq_some_iff.1 fx0).1).trans fx0; have fa1 := (hb1.block _ (Array.getElem?_eq_some_iff.1 fa0).1).trans fa0; have fb1 := (hb1.block _ (Array.getElem?_eq_some_iff.1 fb0).1).trans fb0; have HB1 : Below w.heap.size w w1 := HB0.trans (hb1.mono HB0.size); clear hb1  HB0 fx0 fa0 fb0 hho)
    | (refine load_wanted rfl 27 _ rfl _ rfl _ _ _ _ (fa1) Tryd.underlying27 rfl (need_info _ rfl) ?_)
    | (refine load_wanted rfl 27 _ rfl _ rfl _ _ _ _ (fb1) Tryd.underlying27 rfl (need_info _ rfl) ?_)
    | (go_at_call 27; refine (had _).mono ?_; rintro e w2 ⟨rfl, hb2⟩; have fx2 := (Below.heap_alloc w2 (.cells #[.int .i64 C.x, .int .i64 C.y, .int .i64 C.z] 27) _ (Array.getElem?_eq_some_iff.1 ((hb2.block _ (Array.getElem?_eq_some_iff.1 fx1).1).trans fx1)).1).trans ((hb2.block _ (Array.getElem?_eq_some_iff.1 fx1).1).trans fx1); have fa2 := (Below.heap_alloc w2 (.cells #[.int .i64 C.x, .int .i64 C.y, .int .i64 C.z] 27) _ (Array.getElem?_eq_some_iff.1 ((hb2.block _ (Array.getElem?_eq_some_iff.1 fa1).1).trans fa1)).1).trans ((hb2.block _ (Array.getElem?_eq_some_iff.1 fa1).1).trans fa1); have fc2 := heap_alloc_new w2 (.cells #[.int .i64 C.x, .int .i64 C.y, .int .i64 C.z] 27); have HB2 : Below w.heap.size w (w2.alloc (.cells #[.int .i64 C.x, .int .i64 C.y, .int .i64 C.z] 27)) := (HB1.trans (hb2.mono HB1.size)).alloc (Nat.le_trans HB1.size hb2.size) _; clear hb2  HB1 fx1 fa1 fb1 had)
    | (refine load_wanted rfl 25 _ rfl _ rfl _ _ _ _ (fx2) Tryd.underlying25 rfl (ask_info _ rfl) ?_)
    | (refine load_wanted rfl 27 _ rfl _ rfl _ _ _ _ (fa2) Tryd.underlying27 rfl (need_info _ rfl) ?_)
    | (go_at_call 13; refine (hf1 _ HB2).mono ?_; rintro e w3 ⟨⟨p3, c3, rfl, hr3a⟩, hb3⟩; have fx3 := (Below.heap_alloc w3 (.cells #[.slice p3 nF c3] 38) _ (Array.getElem?_eq_some_iff.1 ((hb3.block _ (Array.getElem?_eq_some_iff.1 fx2).1).trans fx2)).1).trans ((hb3.block _ (Array.getElem?_eq_some_iff.1 fx2).1).trans fx2); have fc3 := (Below.heap_alloc w3 (.cells #[.slice p3 nF c3] 38) _ (Array.getElem?_eq_some_iff.1 ((hb3.block _ (Array.getElem?_eq_some_iff.1 fc2).1).trans fc2)).1).trans ((hb3.block _ (Array.getElem?_eq_some_iff.1 fc2).1).trans fc2); have fp3 := heap_alloc_new w3 (.cells #[.slice p3 nF c3] 38); have HB3 : Below w.heap.size w (w3.alloc (.cells #[.slice p3 nF c3] 38)) := (HB2.trans (hb3.mono HB2.size)).alloc (Nat.le_trans HB2.size hb3.size) _; have hr3 := hr3a.below ((Below.refl _ w3).alloc (Nat.le_refl _) (.cells #[.slice p3 nF c3] 38)); clear hb3  HB2 fx2 fa2 fc2 hf1 hr3a)
    | (refine load_wanted rfl 25 _ rfl _ rfl _ _ _ _ (fx3) Tryd.underlying25 rfl (ask_info _ rfl) ?_)
    | (refine load_wanted rfl 27 _ rfl _ rfl _ _ _ _ (fc3) Tryd.underlying27 rfl (need_info _ rfl) ?_)
    | (go_at_call 13; refine (hf2 _ HB3).mono ?_; rintro e w4 ⟨⟨p4, c4, rfl, hg4⟩, hb4⟩; have fp4 := (hb4.block _ (Array.getElem?_eq_some_iff.1 fp3).1).trans fp3; have HB4 : Below w.heap.size w w4 := HB3.trans (hb4.mono HB3.size); have hr4 := hr3.below hb4; clear hb4  HB3 fx3 fc3 fp3 hf2 hr3))
  refine (good3H w4 e0 e1 e2).mono ?_
  rintro e w5 ⟨rfl, hw5⟩
  have hB5 : Below w4.heap.size w4 w5 := by rw [hw5]; exact (Below.refl _ _).alloc (Nat.le_refl _) _
  have HB5 : Below w.heap.size w w5 := HB4.trans (hB5.mono HB4.size)
  have fp5 := (hB5.block _ (Array.getElem?_eq_some_iff.1 fp4).1).trans fp4
  have hr5 := hr4.below hB5
  have hg5 := hg4.below hB5
  clear hw5 hB5 fp4 HB4 hr4 hg4
  obtain ⟨r, hr⟩ : ∃ r, gdB [e0, e1, e2] = r := ⟨_, rfl⟩
  rw [hr]
  cases r with
  | true =>
    simp [gdB] at hr
    have hct := containsL2_any F p3 nF c3 _ hnFH.out (by have := l1H.out; have := hnFH.out; omega) G (hsubH.out hr.1 hr.2.1 hr.2.2) p4 nG c4 hnGH.out (by have := l2H.out; have := hnGH.out; omega) w5 hr5 hg5 fp5
    have HB5H : Hid (Below w.heap.size w w5) := HB5
    clear hr hr5 hg5 fp5 HB5
    go_wp2_with (first
      | (go_at_call 32; refine hct.mono ?_; rintro e w6 ⟨rfl, hw6⟩; have hw7 := hw6.symm; subst hw7; clear hct)
      | go_in)
    go_ret
    exact ⟨rfl, HB5H.out⟩
  | false =>
    clear hr hr5 hg5 fp5
    go_wp2
    go_ret
    exact ⟨rfl, HB5⟩

theorem hostLess_walk (q : Option Addr) (l : List Ht) (c : Nat) (t : Tr) (v : Value) (d d' : N3) (w : World) (hA : TabA w) (hl : Hsts w q l) (hnc : l.length ≤ c) (hv : liesT w t v) : Calls Tryd.prog 7 #[.slice q l.length c, v, .agg #[.int .i64 d.x, .int .i64 d.y, .int .i64 d.z], .agg #[.int .i64 (d').x, .int .i64 (d').y, .int .i64 (d').z]] w fun e w' => e = .returned (.bool true) ∧ Below w.heap.size w w' := by
  obtain ⟨k, a, b, n, xs⟩ := t
  have hv1 := hv
  rw [liesT] at hv
  obtain ⟨p, cap, rfl, _, _⟩ := hv
  exact hostLess_run k a b n xs p _ cap rfl l q _ c rfl hnc d d' w hA hv1 hl
end Go.Proofs.YtelepamnlpebgabDoor
