/- HostBest, walked. -/
import Derived.Test.YtelepamnlpebgabDoorHbe
namespace Go.Proofs.YtelepamnlpebgabDoor
open Go.RowKit Go.Shelf Akm Ndm
set_option linter.unusedSectionVars false
set_option linter.unusedVariables false

theorem good2H (w : World) (e g : Int) : Calls Tryd.prog 28 #[.slice (some ⟨w.heap.size, 0, none⟩) 2 2] (w.alloc (.cells #[.int .i64 e, .int .i64 g] 31)) fun x w' => x = .returned (.bool (gdB [e, g])) ∧ w' = w.alloc (.cells #[.int .i64 e, .int .i64 g] 31) :=
  good_any (L := [e, g]) rfl (by
    intro j hj
    rcases (show j = 0 ∨ j = 1 by omega) with rfl | rfl
    · exact (cell_of_row _ _ 0 _ _ _ (heap_alloc_new _ _)).trans rfl
    · exact (cell_of_row _ _ 1 _ _ _ (heap_alloc_new _ _)).trans rfl) (by omega)

set_option maxHeartbeats 4000000 in
set_option maxRecDepth 100000 in
/-- Where there is none. -/
theorem hostBest_bad (k : Int) (a b : ByteArray) (n : Int) (xs : List Tr) (p : Option Addr) (m cap : Nat) (hm : xs.length = m) (l : List Ht) (q : Option Addr) (nl c : Nat) (hnl : l.length = nl) (hnc : nl ≤ c) (d : N3) (i0 : Int) (w : World) (hA : TabA w) (hv : liesT w (.mk k a b n xs) (.agg #[.int .i64 k, .string a, .string b, .int .i64 n, .slice p m cap])) (hl : Hsts w q l) (he : bsE l (.mk k a b n xs) d ≠ 0) :
    Calls Tryd.prog 6 #[.slice q nl c, .agg #[.int .i64 k, .string a, .string b, .int .i64 n, .slice p m cap], .agg #[.int .i64 d.x, .int .i64 d.y, .int .i64 d.z], .int .i64 i0] w fun e w' => e = .returned (.bool true) ∧ Below w.heap.size w w' := by
  obtain ⟨fx0, fa0, HB0⟩ := boxes_an w d (.int .i64 k) (.string a) (.string b) (.int .i64 n) (.slice p m cap)
  have hho := fun w1 (h : Below w.heap.size w w1) => hosts_any w1 (hA.below h (Nat.le_refl _))
  have hbe := fun w1 (h : Below w.heap.size w w1) => Best_any k a b n xs p m cap hm l q nl c hnl hnc d w1 (hA.below h (Nat.le_refl _)) (liesT_below _ _ hv h) (hl.below h)
  have hfi : ∀ w1 (h : Below w.heap.size w w1), Calls Tryd.prog 13 #[.slice q nl c, .agg #[.int .i64 k, .string a, .string b, .int .i64 n, .slice p m cap], .agg #[.int .i64 d.x, .int .i64 d.y, .int .i64 d.z]] w1 fun e w' => (∃ pf cf, e = .returned (.tuple #[.slice pf (ftL l (.mk k a b n xs) d).length cf, .int .i64 (ftE l (.mk k a b n xs) d)])) ∧ Below w1.heap.size w1 w' := fun w1 h => (Fit_any k a b n xs p m cap hm l q nl c hnl hnc d w1 (hA.below h (Nat.le_refl _)) (liesT_below _ _ hv h) (hl.below h)).mono fun e w' ⟨⟨pf, cf, h1, h2⟩, h3⟩ => ⟨⟨pf, cf, h1⟩, h3⟩
  have hL : ftL l (.mk k a b n xs) d = [] := by
    unfold bsE at he
    by_cases h0 : ftE l (.mk k a b n xs) d = 0
    · rw [if_neg (by simpa using h0)] at he
      by_cases h1 : (ftL l (.mk k a b n xs) d).isEmpty = true
      · exact List.isEmpty_iff.1 h1
      · rw [if_neg h1] at he; exact absurd rfl he
    · unfold ftL; rw [if_neg h0]
  have hK : bsK l (.mk k a b n xs) d = 0 := by unfold bsK; rw [hL]
  rw [hK] at hbe
  rw [hL] at hfi
  have h5 := ftE_5 l (.mk k a b n xs) d
  unfold bsE at hbe he
  rw [hL] at hbe he
  generalize ftE l (.mk k a b n xs) d = E at *
  clear hA hv hl hm hnl hnc hL hK
  by_cases h0 : E = 0
  · subst h0
    simp only [ne_eq, not_true_eq_false, if_false, List.isEmpty_nil, if_true] at hbe
    clear he h5
    go_enter Tryd.func6, Tryd.ntmps6
    go_wp2_with (first
      | (go_at_call 25; refine (hho _ HB0).mono ?_; rintro e w1 ⟨rfl, hb1⟩; have fx1 := (hb1.block _ (Array.getElem?_eq_some_iff.1 fx0).1).trans fx0; have fa1 := (hb1.block _ (Array.getElem?_eq_some_iff.1 fa0).1).trans fa0; have HB1 : Below w.heap.size w w1 := HB0.trans (hb1.mono HB0.size); clear hb1  HB0 fx0 fa0 hho)
      | (refine load_wanted rfl 25 _ rfl _ rfl _ _ _ _ (fx1) Tryd.underlying25 rfl (ask_info _ rfl) ?_)
      | (refine load_wanted rfl 27 _ rfl _ rfl _ _ _ _ (fa1) Tryd.underlying27 rfl (need_info _ rfl) ?_)
      | (go_at_call 14; refine (hbe _ HB1).mono ?_; rintro e w2 ⟨rfl, hb2⟩; have fx2 := (hb2.block _ (Array.getElem?_eq_some_iff.1 fx1).1).trans fx1; have fa2 := (hb2.block _ (Array.getElem?_eq_some_iff.1 fa1).1).trans fa1; have HB2 : Below w.heap.size w w2 := HB1.trans (hb2.mono HB1.size); clear hb2  HB1 fx1 fa1 hbe)
      | (refine load_wanted rfl 25 _ rfl _ rfl _ _ _ _ (fx2) Tryd.underlying25 rfl (ask_info _ rfl) ?_)
      | (refine load_wanted rfl 27 _ rfl _ rfl _ _ _ _ (fa2) Tryd.underlying27 rfl (need_info _ rfl) ?_)
      | (go_at_call 13; refine (hfi _ HB2).mono ?_; rintro e w3 ⟨⟨p3, c3, rfl⟩, hb3⟩; have HB3 : Below w.heap.size w w3 := HB2.trans (hb3.mono HB2.size); clear hb3  HB2 fx2 fa2 hfi)
      | go_in)
    go_ret
    exact ⟨by first | rfl | simp, HB3⟩
  · simp only [ne_eq, h0, not_false_eq_true, if_true] at hbe
    have hne : (E != 0) = true := by simpa using h0
    have hn0 : (E == 0) = false := by simpa using h0
    have hn5 : (E == 5) = false := by simpa using h5
    clear he h5 h0
    go_enter Tryd.func6, Tryd.ntmps6
    go_wp2_with (first
      | (go_at_call 25; refine (hho _ HB0).mono ?_; rintro e w1 ⟨rfl, hb1⟩; have fx1 := (hb1.block _ (Array.getElem?_eq_some_iff.1 fx0).1).trans fx0; have fa1 := (hb1.block _ (Array.getElem?_eq_some_iff.1 fa0).1).trans fa0; have HB1 : Below w.heap.size w w1 := HB0.trans (hb1.mono HB0.size); clear hb1  HB0 fx0 fa0 hho)
      | (refine load_wanted rfl 25 _ rfl _ rfl _ _ _ _ (fx1) Tryd.underlying25 rfl (ask_info _ rfl) ?_)
      | (refine load_wanted rfl 27 _ rfl _ rfl _ _ _ _ (fa1) Tryd.underlying27 rfl (need_info _ rfl) ?_)
      | (go_at_call 14; refine (hbe _ HB1).mono ?_; rintro e w2 ⟨rfl, hb2⟩; have fx2 := (hb2.block _ (Array.getElem?_eq_some_iff.1 fx1).1).trans fx1; have fa2 := (hb2.block _ (Array.getElem?_eq_some_iff.1 fa1).1).trans fa1; have HB2 : Below w.heap.size w w2 := HB1.trans (hb2.mono HB1.size); clear hb2  HB1 fx1 fa1 hbe)
      | (refine load_wanted rfl 25 _ rfl _ rfl _ _ _ _ (fx2) Tryd.underlying25 rfl (ask_info _ rfl) ?_)
      | (refine load_wanted rfl 27 _ rfl _ rfl _ _ _ _ (fa2) Tryd.underlying27 rfl (need_info _ rfl) ?_)
      | (go_at_call 13; refine (hfi _ HB2).mono ?_; rintro e w3 ⟨⟨p3, c3, rfl⟩, hb3⟩; have HB3 : Below w.heap.size w w3 := HB2.trans (hb3.mono HB2.size); clear hb3  HB2 fx2 fa2 hfi)
      | go_in)
    go_ret
    exact ⟨by first | rfl | simp, HB3⟩

set_option maxHeartbeats 8000000 in
set_option maxRecDepth 100000 in
/-- Where there is one. -/
theorem hostBest_ok (k : Int) (a b : ByteArray) (n : Int) (xs : List Tr) (p : Option Addr) (m cap : Nat) (hm : xs.length = m) (l : List Ht) (q : Option Addr) (nl c : Nat) (hnl : l.length = nl) (hnc : nl ≤ c) (d : N3) (i0 : Int) (w : World) (hA : TabA w) (hv : liesT w (.mk k a b n xs) (.agg #[.int .i64 k, .string a, .string b, .int .i64 n, .slice p m cap])) (hl : Hsts w q l) (h0 : ftE l (.mk k a b n xs) d = 0) (m0 : Nat) (F : List Nat) (hL : ftL l (.mk k a b n xs) d = m0 :: F) :
    Calls Tryd.prog 6 #[.slice q nl c, .agg #[.int .i64 k, .string a, .string b, .int .i64 n, .slice p m cap], .agg #[.int .i64 d.x, .int .i64 d.y, .int .i64 d.z], .int .i64 i0] w fun e w' => e = .returned (.bool true) ∧ Below w.heap.size w w' := by
  obtain ⟨fx0, fa0, HB0⟩ := boxes_an w d (.int .i64 k) (.string a) (.string b) (.int .i64 n) (.slice p m cap)
  have h30 := hc_30 h0
  obtain ⟨hk, hkl, hkm, hmin⟩ := best_least h0 hL
  have hho := fun w1 (h : Below w.heap.size w w1) => hosts_any w1 (hA.below h (Nat.le_refl _))
  have hbe := fun w1 (h : Below w.heap.size w w1) => Best_any k a b n xs p m cap hm l q nl c hnl hnc d w1 (hA.below h (Nat.le_refl _)) (liesT_below _ _ hv h) (hl.below h)
  have hbE : bsE l (.mk k a b n xs) d = 0 := by unfold bsE; rw [if_neg (by simpa using h0), hL]; rfl
  have hbK : bsK l (.mk k a b n xs) d = mnG (lfA l d) m0 F := by unfold bsK; rw [hL]
  rw [hbE, hbK] at hbe
  have hfi : ∀ w1 (h : Below w.heap.size w w1), Calls Tryd.prog 13 #[.slice q nl c, .agg #[.int .i64 k, .string a, .string b, .int .i64 n, .slice p m cap], .agg #[.int .i64 d.x, .int .i64 d.y, .int .i64 d.z]] w1 fun e w' => (∃ pf cf, e = .returned (.tuple #[.slice pf (ftL l (.mk k a b n xs) d).length cf, .int .i64 (ftE l (.mk k a b n xs) d)]) ∧ IntR w' pf (ftL l (.mk k a b n xs) d)) ∧ Below w1.heap.size w1 w' := fun w1 h => (Fit_any k a b n xs p m cap hm l q nl c hnl hnc d w1 (hA.below h (Nat.le_refl _)) (liesT_below _ _ hv h) (hl.below h)).mono fun e w' ⟨⟨pf, cf, h1, h2⟩, h3⟩ => ⟨⟨pf, cf, h1, IntR.of h2⟩, h3⟩
  have l30 : (ftL l (.mk k a b n xs) d).length ≤ 30 := by
    unfold ftL
    rw [if_pos h0]
    exact Nat.le_trans (fiG_len _ _ _ _) h30
  rw [h0] at hfi
  generalize mnG (lfA l d) m0 F = K at *
  have hh0 := (ftE_zero h0).1
  obtain ⟨G, hG⟩ : ∃ G, ftL l (.mk k a b n xs) d = G := ⟨_, rfl⟩
  rw [hG] at hfi l30 hkm hmin
  obtain ⟨nG, hnG⟩ : ∃ nG, G.length = nG := ⟨_, rfl⟩
  rw [hnG] at hfi l30
  have hKn : K < nl := by rw [← hnl]; exact (List.getElem?_eq_some_iff.1 hkl).1
  have hcK := fun w1 (pf : Option Addr) (cf : Nat) (h : IntR w1 pf G) => containsI_any G (K : Int) pf nG cf hnG l30 w1 h true (mI_mem.2 hkm)
  have hcI := fun w1 (pf : Option Addr) (cf : Nat) (h : IntR w1 pf G) r hr => containsI_any G i0 pf nG cf hnG l30 w1 h r hr
  have hK0 : ¬ (K : Int) < 0 := by omega
  have hK1 : ¬ (nl : Int) ≤ (K : Int) := by omega
  have hnl30 : nl ≤ 30 := by omega
  by_cases hi0 : i0 < 0
  · clear hA hv hl hm hnl hnc h0 hL h30 hkl hkm hmin hbE hbK l30 hh0 hG hnG hKn hcI hnl30
    go_enter Tryd.func6, Tryd.ntmps6
    go_wp2_with (first
      | (go_at_call 25; refine (hho _ HB0).mono ?_; rintro e w1 ⟨rfl, hb1⟩; have fx1 := (hb1.block _ (Array.getElem?_eq_some_iff.1 fx0).1).trans fx0; have fa1 := (hb1.block _ (Array.getElem?_eq_some_iff.1 fa0).1).trans fa0; have HB1 : Below w.heap.size w w1 := HB0.trans (hb1.mono HB0.size); clear hb1  HB0 fx0 fa0 hho)
      | (refine load_wanted rfl 25 _ rfl _ rfl _ _ _ _ (fx1) Tryd.underlying25 rfl (ask_info _ rfl) ?_)
      | (refine load_wanted rfl 27 _ rfl _ rfl _ _ _ _ (fa1) Tryd.underlying27 rfl (need_info _ rfl) ?_)
      | (go_at_call 14; refine (hbe _ HB1).mono ?_; rintro e w2 ⟨rfl, hb2⟩; have fx2 := (hb2.block _ (Array.getElem?_eq_some_iff.1 fx1).1).trans fx1; have fa2 := (hb2.block _ (Array.getElem?_eq_some_iff.1 fa1).1).trans fa1; have HB2 : Below w.heap.size w w2 := HB1.trans (hb2.mono HB1.size); clear hb2  HB1 fx1 fa1 hbe)
      | (refine load_wanted rfl 25 _ rfl _ rfl _ _ _ _ (fx2) Tryd.underlying25 rfl (ask_info _ rfl) ?_)
      | (refine load_wanted rfl 27 _ rfl _ rfl _ _ _ _ (fa2) Tryd.underlying27 rfl (need_info _ rfl) ?_)
      | (go_at_call 13; refine (hfi _ HB2).mono ?_; rintro e w3 ⟨⟨p3, c3, rfl, hr3⟩, hb3⟩; have HB3 : Below w.heap.size w w3 := HB2.trans (hb3.mono HB2.size); clear hb3  HB2 fx2 fa2 hfi)
      | (go_at_call 30; refine (hcK _ _ _ hr3).mono ?_; rintro e wz ⟨rfl, hwz⟩; have hwy := hwz.symm; subst hwy; clear hcK)
      | go_in)
    go_ret
    exact ⟨by first | rfl | simp, HB3⟩
  · by_cases hi1 : (nl : Int) ≤ i0
    · clear hA hv hl hm hnl hnc h0 hL h30 hkl hkm hmin hbE hbK l30 hh0 hG hnG hKn hcI hnl30
      go_enter Tryd.func6, Tryd.ntmps6
      go_wp2_with (first
        | (go_at_call 25; refine (hho _ HB0).mono ?_; rintro e w1 ⟨rfl, hb1⟩; have fx1 := (hb1.block _ (Array.getElem?_eq_some_iff.1 fx0).1).trans fx0; have fa1 := (hb1.block _ (Array.getElem?_eq_some_iff.1 fa0).1).trans fa0; have HB1 : Below w.heap.size w w1 := HB0.trans (hb1.mono HB0.size); clear hb1  HB0 fx0 fa0 hho)
        | (refine load_wanted rfl 25 _ rfl _ rfl _ _ _ _ (fx1) Tryd.underlying25 rfl (ask_info _ rfl) ?_)
        | (refine load_wanted rfl 27 _ rfl _ rfl _ _ _ _ (fa1) Tryd.underlying27 rfl (need_info _ rfl) ?_)
        | (go_at_call 14; refine (hbe _ HB1).mono ?_; rintro e w2 ⟨rfl, hb2⟩; have fx2 := (hb2.block _ (Array.getElem?_eq_some_iff.1 fx1).1).trans fx1; have fa2 := (hb2.block _ (Array.getElem?_eq_some_iff.1 fa1).1).trans fa1; have HB2 : Below w.heap.size w w2 := HB1.trans (hb2.mono HB1.size); clear hb2  HB1 fx1 fa1 hbe)
        | (refine load_wanted rfl 25 _ rfl _ rfl _ _ _ _ (fx2) Tryd.underlying25 rfl (ask_info _ rfl) ?_)
        | (refine load_wanted rfl 27 _ rfl _ rfl _ _ _ _ (fa2) Tryd.underlying27 rfl (need_info _ rfl) ?_)
        | (go_at_call 13; refine (hfi _ HB2).mono ?_; rintro e w3 ⟨⟨p3, c3, rfl, hr3⟩, hb3⟩; have HB3 : Below w.heap.size w w3 := HB2.trans (hb3.mono HB2.size); clear hb3  HB2 fx2 fa2 hfi)
        | (go_at_call 30; refine (hcK _ _ _ hr3).mono ?_; rintro e wz ⟨rfl, hwz⟩; have hwy := hwz.symm; subst hwy; clear hcK)
        | go_in)
      go_ret
      exact ⟨by first | rfl | simp, HB3⟩
    · cases hmi : mI G i0 with
      | false =>
        have hcI2 := fun w1 pf cf h => hcI w1 pf cf h false hmi
        clear hA hv hl hm hnl hnc h0 hL h30 hkl hkm hmin hbE hbK l30 hh0 hG hnG hKn hcI hnl30 hmi
        go_enter Tryd.func6, Tryd.ntmps6
        go_wp2_with (first
          | (go_at_call 25; refine (hho _ HB0).mono ?_; rintro e w1 ⟨rfl, hb1⟩; have fx1 := (hb1.block _ (Array.getElem?_eq_some_iff.1 fx0).1).trans fx0; have fa1 := (hb1.block _ (Array.getElem?_eq_some_iff.1 fa0).1).trans fa0; have HB1 : Below w.heap.size w w1 := HB0.trans (hb1.mono HB0.size); clear hb1  HB0 fx0 fa0 hho)
          | (refine load_wanted rfl 25 _ rfl _ rfl _ _ _ _ (fx1) Tryd.underlying25 rfl (ask_info _ rfl) ?_)
          | (refine load_wanted rfl 27 _ rfl _ rfl _ _ _ _ (fa1) Tryd.underlying27 rfl (need_info _ rfl) ?_)
          | (go_at_call 14; refine (hbe _ HB1).mono ?_; rintro e w2 ⟨rfl, hb2⟩; have fx2 := (hb2.block _ (Array.getElem?_eq_some_iff.1 fx1).1).trans fx1; have fa2 := (hb2.block _ (Array.getElem?_eq_some_iff.1 fa1).1).trans fa1; have HB2 : Below w.heap.size w w2 := HB1.trans (hb2.mono HB1.size); clear hb2  HB1 fx1 fa1 hbe)
          | (refine load_wanted rfl 25 _ rfl _ rfl _ _ _ _ (fx2) Tryd.underlying25 rfl (ask_info _ rfl) ?_)
          | (refine load_wanted rfl 27 _ rfl _ rfl _ _ _ _ (fa2) Tryd.underlying27 rfl (need_info _ rfl) ?_)
          | (go_at_call 13; refine (hfi _ HB2).mono ?_; rintro e w3 ⟨⟨p3, c3, rfl, hr3⟩, hb3⟩; have HB3 : Below w.heap.size w w3 := HB2.trans (hb3.mono HB2.size); clear hb3  HB2 fx2 fa2 hfi)
          | (go_at_call 30; refine (hcK _ _ _ hr3).mono ?_; rintro e wz ⟨rfl, hwz⟩; have hwy := hwz.symm; subst hwy; clear hcK)
          | (go_at_call 30; refine (hcI2 _ _ _ hr3).mono ?_; rintro e wz ⟨rfl, hwz⟩; have hwy := hwz.symm; subst hwy; clear hcI2)
          | go_in)
        go_ret
        exact ⟨by first | rfl | simp, HB3⟩
      | true =>
        have hcI2 := fun w1 pf cf h => hcI w1 pf cf h true hmi
        obtain ⟨i, rfl⟩ := Int.eq_ofNat_of_zero_le (show 0 ≤ i0 by omega)
        have him := mI_mem.1 hmi
        obtain ⟨hi, hil⟩ : ∃ x, l[i]? = some x := ⟨l[i]'(by omega), List.getElem?_eq_getElem _⟩
        obtain ⟨hx1, hx2⟩ := hmin i hi hil him
        obtain ⟨ck1, ck2⟩ := hc_one hh0 (List.mem_of_getElem? hkl)
        obtain ⟨ci1, ci2⟩ := hc_one hh0 (List.mem_of_getElem? hil)
        obtain ⟨g, o, plk, clk, rfl, hg, hk8, hklb, hklm⟩ := host_at hl hkl
        obtain ⟨g', o', pli, cli, e2, _, hi8, hilb, hilm⟩ := host_at hl hil
        simp only [Option.some.injEq, Addr.mk.injEq, and_true] at e2
        obtain ⟨rfl, rfl⟩ := e2
        have hfk := fun w1 (h : Below w.heap.size w w1) => Free_any hk plk hk.L.length clk rfl hklm w1 (hA.2.below h (Nat.le_refl _)) (hklb.below h) hk.nm hk.hs hk.us rfl rfl rfl _ _ rfl rfl
        have hfr := fun w1 (h : Below w.heap.size w w1) => Free_any hi pli hi.L.length cli rfl hilm w1 (hA.2.below h (Nat.le_refl _)) (hilb.below h) hi.nm hi.hs hi.us rfl rfl rfl _ _ rfl rfl
        have rk : frR hk = sR hk.hs hk.us := by unfold frR; rw [if_neg (by simpa using ck1)]
        have ri : frR hi = sR hi.hs hi.us := by unfold frR; rw [if_neg (by simpa using ci1)]
        have ek : frE hk = 0 := by unfold frE; rw [if_neg (by simpa using ck1), ck2]
        have ei : frE hi = 0 := by unfold frE; rw [if_neg (by simpa using ci1), ci2]
        rw [rk, ek] at hfk
        rw [ri, ei] at hfr
        generalize sR hk.hs hk.us = X at *
        generalize sR hi.hs hi.us = Y at *
        have hkc : ∀ w1, Below w.heap.size w w1 → cell8 w1 g (o + K * 8) hk plk clk := fun w1 h => hk8.below h hg
        have hic : ∀ w1, Below w.heap.size w w1 → cell8 w1 g (o + i * 8) hi pli cli := fun w1 h => hi8.below h hg
        obtain ⟨nm, L, hs, us⟩ := hk
        obtain ⟨nmo, Lo, hso, uso⟩ := hi
        obtain ⟨ln, hln⟩ : ∃ m, L.length = m := ⟨_, rfl⟩
        obtain ⟨lno, hlno⟩ : ∃ m, Lo.length = m := ⟨_, rfl⟩
        simp only at hfk hfr
        rw [hln] at hfk
        rw [hlno] at hfr
        have hkcH : Hid (∀ w1, Below w.heap.size w w1 → cell8 w1 g (o + K * 8) ⟨nm, L, hs, us⟩ plk clk) := hkc
        have hicH : Hid (∀ w1, Below w.heap.size w w1 → cell8 w1 g (o + i * 8) ⟨nmo, Lo, hso, uso⟩ pli cli) := hic
        have hlnH : Hid (L.length = ln) := hln
        have hlnoH : Hid (Lo.length = lno) := hlno
        have hg0 : gdB [0, 0] = true := rfl
        have hi2 : (i : Int) < (nl : Int) := by omega
        have hK2 : (K : Int) < (nl : Int) := by omega
        clear hA hv hl hm hnl hnc h0 hL h30 hkl hkm hmin hbE hbK l30 hh0 hG hnG hKn hcI hnl30 hmi him hil ck1 ck2 ci1 ci2 hk8 hi8 hklb hilb hklm hilm rk ri ek ei hln hlno hkc hic hg
        go_enter Tryd.func6, Tryd.ntmps6
        go_wp2_with (first
          | (go_at_call 25; refine (hho _ HB0).mono ?_; rintro e w1 ⟨rfl, hb1⟩; have fx1 := (hb1.block _ (Array.getElem?_eq_some_iff.1 fx0).1).trans fx0; have fa1 := (hb1.block _ (Array.getElem?_eq_some_iff.1 fa0).1).trans fa0; have HB1 : Below w.heap.size w w1 := HB0.trans (hb1.mono HB0.size); clear hb1  HB0 fx0 fa0 hho)
          | (refine load_wanted rfl 25 _ rfl _ rfl _ _ _ _ (fx1) Tryd.underlying25 rfl (ask_info _ rfl) ?_)
          | (refine load_wanted rfl 27 _ rfl _ rfl _ _ _ _ (fa1) Tryd.underlying27 rfl (need_info _ rfl) ?_)
          | (go_at_call 14; refine (hbe _ HB1).mono ?_; rintro e w2 ⟨rfl, hb2⟩; have fx2 := (hb2.block _ (Array.getElem?_eq_some_iff.1 fx1).1).trans fx1; have fa2 := (hb2.block _ (Array.getElem?_eq_some_iff.1 fa1).1).trans fa1; have HB2 : Below w.heap.size w w2 := HB1.trans (hb2.mono HB1.size); clear hb2  HB1 fx1 fa1 hbe)
          | (refine load_wanted rfl 25 _ rfl _ rfl _ _ _ _ (fx2) Tryd.underlying25 rfl (ask_info _ rfl) ?_)
          | (refine load_wanted rfl 27 _ rfl _ rfl _ _ _ _ (fa2) Tryd.underlying27 rfl (need_info _ rfl) ?_)
          | (go_at_call 13; refine (hfi _ HB2).mono ?_; rintro e w3 ⟨⟨p3, c3, rfl, hr3⟩, hb3⟩; have HB3 : Below w.heap.size w w3 := HB2.trans (hb3.mono HB2.size); clear hb3  HB2 fx2 fa2 hfi)
          | (go_at_call 30; refine (hcK _ _ _ hr3).mono ?_; rintro e wz ⟨rfl, hwz⟩; have hwy := hwz.symm; subst hwy; clear hcK)
          | (go_at_call 30; refine (hcI2 _ _ _ hr3).mono ?_; rintro e wz ⟨rfl, hwz⟩; have hwy := hwz.symm; subst hwy; clear hcI2; obtain ⟨⟨u0, u1⟩, ⟨u2, u3, u4⟩, ⟨u5, u6, u7⟩⟩ := hkcH.out _ HB3; simp only at u0 u1 u2 u3 u4 u5 u6 u7; rw [hlnH.out] at u1)
          | (go_at_call 8; refine (hfk _ HB3).mono ?_; rintro e w4 ⟨rfl, hb4⟩; have fk4 := heap_alloc_new w4 (.cells #[.int .i64 X.x, .int .i64 X.y, .int .i64 X.z] 27); have HB4 : Below w.heap.size w (w4.alloc (.cells #[.int .i64 X.x, .int .i64 X.y, .int .i64 X.z] 27)) := (HB3.trans (hb4.mono HB3.size)).alloc (Nat.le_trans HB3.size hb4.size) _; clear hb4  HB3  hfk hr3 u0 u1 u2 u3 u4 u5 u6 u7; obtain ⟨⟨u0, u1⟩, ⟨u2, u3, u4⟩, ⟨u5, u6, u7⟩⟩ := hicH.out _ HB4; simp only at u0 u1 u2 u3 u4 u5 u6 u7; rw [hlnoH.out] at u1)
          | (go_at_call 8; refine (hfr _ HB4).mono ?_; rintro e w5 ⟨rfl, hb5⟩; have fk5 := (Below.heap_alloc w5 (.cells #[.int .i64 Y.x, .int .i64 Y.y, .int .i64 Y.z] 27) _ (Array.getElem?_eq_some_iff.1 ((hb5.block _ (Array.getElem?_eq_some_iff.1 fk4).1).trans fk4)).1).trans ((hb5.block _ (Array.getElem?_eq_some_iff.1 fk4).1).trans fk4); have fi5 := heap_alloc_new w5 (.cells #[.int .i64 Y.x, .int .i64 Y.y, .int .i64 Y.z] 27); have HB5 : Below w.heap.size w (w5.alloc (.cells #[.int .i64 Y.x, .int .i64 Y.y, .int .i64 Y.z] 27)) := (HB4.trans (hb5.mono HB4.size)).alloc (Nat.le_trans HB4.size hb5.size) _; clear hb5  HB4 fk4 hfr u0 u1 u2 u3 u4 u5 u6 u7))
        have hg2 := good2H (w5.alloc (.cells #[.int .i64 Y.x, .int .i64 Y.y, .int .i64 Y.z] 27)) 0 0
        rw [World.size_alloc] at hg2
        refine hg2.mono ?_
        clear hg2
        rintro e w6 ⟨rfl, hb6⟩
        have hB6 : Below (w5.alloc (.cells #[.int .i64 Y.x, .int .i64 Y.y, .int .i64 Y.z] 27)).heap.size (w5.alloc (.cells #[.int .i64 Y.x, .int .i64 Y.y, .int .i64 Y.z] 27)) w6 := by rw [hb6]; exact (Below.refl _ _).alloc (Nat.le_refl _) _
        have HB6 : Below w.heap.size w w6 := HB5.trans (hB6.mono HB5.size)
        have fk6 := (hB6.block _ (Array.getElem?_eq_some_iff.1 fk5).1).trans fk5
        have fi6 := (hB6.block _ (Array.getElem?_eq_some_iff.1 fi5).1).trans fi5
        have x0 := (cell_of_row _ _ 0 _ _ _ fk6).trans rfl
        have x1 := (cell_of_row _ _ 1 _ _ _ fk6).trans rfl
        have y0 := (cell_of_row _ _ 0 _ _ _ fi6).trans rfl
        have y1 := (cell_of_row _ _ 1 _ _ _ fi6).trans rfl
        rw [hg0]
        clear hb6 hB6 fk5 fi5 HB5 hg0 fk6 fi6
        by_cases hxx : X.x < Y.x
        · clear hx2
          go_wp2
          go_ret
          exact ⟨by first | rfl | simp, HB6⟩
        · have hyy : X.y ≤ Y.y := by rcases hx2 with h | h <;> omega
          clear hx2
          go_wp2
          go_ret
          exact ⟨by first | rfl | simp, HB6⟩

theorem hostBest_walk (q : Option Addr) (l : List Ht) (c : Nat) (t : Tr) (v : Value) (d : N3) (i0 : Int) (w : World) (hA : TabA w) (hl : Hsts w q l) (hnc : l.length ≤ c) (hv : liesT w t v) : Calls Tryd.prog 6 #[.slice q l.length c, v, .agg #[.int .i64 d.x, .int .i64 d.y, .int .i64 d.z], .int .i64 i0] w fun e w' => e = .returned (.bool true) ∧ Below w.heap.size w w' := by
  obtain ⟨k, a, b, n, xs⟩ := t
  have hv1 := hv
  rw [liesT] at hv
  obtain ⟨p, cap, rfl, _, _⟩ := hv
  by_cases he : bsE l (.mk k a b n xs) d = 0
  · have h0 : ftE l (.mk k a b n xs) d = 0 := by
      unfold bsE at he
      by_cases h0 : ftE l (.mk k a b n xs) d = 0
      · exact h0
      · rw [if_pos h0] at he; exact absurd he h0
    unfold bsE at he
    rw [if_neg (by simpa using h0)] at he
    cases hL : ftL l (.mk k a b n xs) d with
    | nil => rw [hL] at he; cases he
    | cons m0 F => exact hostBest_ok k a b n xs p _ cap rfl l q _ c rfl hnc d i0 w hA hv1 hl h0 m0 F hL
  · exact hostBest_bad k a b n xs p _ cap rfl l q _ c rfl hnc d i0 w hA hv1 hl he
end Go.Proofs.YtelepamnlpebgabDoor
