/- GraphReach, walked. -/
import Derived.Test.YtgcdifpkfpgafaaDoorGrm
namespace Go.Proofs.YtgcdifpkfpgafaaDoor
open Go.RowKit Gm
set_option linter.unusedSectionVars false

set_option maxHeartbeats 2000000 in
set_option maxRecDepth 100000 in
theorem graphReach_walk (n : Int) (q : Option Addr) (l : List Ed) (cap : Nat) (i k : Int) (w : World) (hZ : TabZ w) (h : Eds w q l) :
    Calls Tryd.prog 6 #[.int .i64 n, .slice q l.length cap, .int .i64 i, .int .i64 k] w fun e w' => e = .returned (.bool true) ∧ Below w.heap.size w w' := by
  have hE : Hid (∀ w1, Below w.heap.size w w1 → Eds w1 q l) := fun w1 hb => h.below hb (Nat.le_refl _)
  have hZb : Hid (∀ w1, Below w.heap.size w w1 → TabZ w1) := fun w1 hb => hZ.below hb (Nat.le_refl _)
  have hgs := graphs_any w hZ
  have hr1 : Hid (∀ w2, Below w.heap.size w w2 → _) := fun w2 hb => reach_e (n := n) (i := i) (cap := cap) (hE.out w2 hb) (hZb.out w2 hb)
  have hr2 : Hid (∀ w2, Below w.heap.size w w2 → _) := fun w2 hb => reach_e (n := n) (i := k) (cap := cap) (hE.out w2 hb) (hZb.out w2 hb)
  have hcl : Hid (∀ w2, Below w.heap.size w w2 → _) := fun w2 hb => close_e (n := n) (cap := cap) (hE.out w2 hb) (hZb.out w2 hb)
  have hl1 : Hid ((rl n l i).length ≤ 60) := rl_len _ _ _
  have hl2 : Hid ((rl n l k).length ≤ 60) := rl_len _ _ _
  have hl3 : Hid ((cl n l).length ≤ 4000) := cl_len _ _
  have hn1 : Hid (re n l i ≠ 0 → rl n l i = []) := rl_none
  have hn3 : Hid (ce n l ≠ 0 → cl n l = []) := cl_none
  have htr : Hid (re n l i = 0 → re n l k = 0 → (∃ j ∈ rl n l i, (j : Int) = k) → ∀ x, x ∈ rl n l k → x ∈ rl n l i) := fun a b c x hx => rl_trans a b c hx
  have hmm : Hid (re n l i = 0 → re n l k = 0 → ce n l = 0 → ((⟨i, k⟩ : Ed) ∈ cl n l ↔ ∃ j ∈ rl n l i, (j : Int) = k)) := cl_mem
  have hag : Hid (ce n l = 0 → ∀ w2 p c, Eds w2 p (cl n l) → TabZ w2 → Calls Tryd.prog 19 #[.int .i64 n, .slice p (cl n l).length c] w2 fun e w' => ∃ (p : Option Addr) (c : Nat), e = .returned (.tuple #[.slice p (cl n l).length c, .int .i64 0]) ∧ w'.ownsRow w2.heap.size 41 2 (.slice p (cl n l).length c) (cl n l).length (flatE (cl n l)) ∧ Below w2.heap.size w2 w') := fun hc w2 p c h2 z2 => by
    have := close_e (n := n) (cap := c) h2 z2
    rwa [(closed_again hc).1, (closed_again hc).2] at this
  clear hE h hZ
  generalize re n l i = E1 at *
  generalize re n l k = E2 at *
  generalize ce n l = E3 at *
  generalize rl n l i = L1 at *
  generalize rl n l k = L2 at *
  generalize cl n l = L3 at *
  obtain ⟨n1, hn1e⟩ : ∃ n1, L1.length = n1 := ⟨_, rfl⟩
  obtain ⟨n2, hn2e⟩ : ∃ n2, L2.length = n2 := ⟨_, rfl⟩
  obtain ⟨n3, hn3e⟩ : ∃ n3, L3.length = n3 := ⟨_, rfl⟩
  rw [hn1e] at hr1 hl1
  rw [hn2e] at hr2 hl2
  rw [hn3e] at hcl hl3 hag
  have q1 : Hid (L1.length = n1) := hn1e
  have q2 : Hid (L2.length = n2) := hn2e
  have q3 : Hid (L3.length = n3) := hn3e
  clear hn1e hn2e hn3e
  have hgood : Hid (∀ w5 : World, Calls Tryd.prog 25 #[.slice (some ⟨w5.heap.size, 0, none⟩) 2 2] (w5.alloc (.cells #[.int .i64 E1, .int .i64 E2] 24)) fun e w' => e = .returned (.bool (decide (E1 = 0 ∧ E2 = 0))) ∧ w' = w5.alloc (.cells #[.int .i64 E1, .int .i64 E2] 24)) := fun w5 => good2 _ E1 E2 _ ((cell_of_row _ _ 0 _ _ _ (heap_alloc_new w5 _)).trans rfl) ((cell_of_row _ _ 1 _ _ _ (heap_alloc_new w5 _)).trans rfl)
  by_cases hgd : E1 = 0 ∧ E2 = 0
  · rw [decide_eq_true hgd] at hgood
    obtain ⟨rfl, rfl⟩ := hgd
    have htr2 : Hid ((∃ j ∈ L1, (j : Int) = k) → ∀ x, x ∈ L2 → x ∈ L1) := htr.out rfl rfl
    by_cases hin : ∃ j ∈ L1, (j : Int) = k
    · have hinH : Hid (∃ j ∈ L1, (j : Int) = k) := hin
      have hsub : Hid (∀ x, x ∈ L2 → x ∈ L1) := htr2.out hin
      by_cases h3 : E3 = 0
      · have hag2 : Hid (∀ w2 p c, Eds w2 p L3 → TabZ w2 → Calls Tryd.prog 19 #[.int .i64 n, .slice p n3 c] w2 fun e w' => ∃ (p : Option Addr) (c : Nat), e = .returned (.tuple #[.slice p n3 c, .int .i64 0]) ∧ w'.ownsRow w2.heap.size 41 2 (.slice p n3 c) n3 (flatE L3) ∧ Below w2.heap.size w2 w') := hag.out h3
        have hmm2 : Hid ((⟨i, k⟩ : Ed) ∈ L3 ↔ ∃ j ∈ L1, (j : Int) = k) := hmm.out rfl rfl h3
        subst h3
        clear hag htr hmm hn1 hn3 hin htr2
        go_enter Tryd.func6, Tryd.ntmps6
        go_wp2_with (first
          | (go_at_call 24; refine hgs.mono ?_; rintro e w1 ⟨rfl, hB1⟩; clear hgs)
          | (go_at_call 11; refine (hr1.out w1 hB1).mono ?_; rintro e w2 ⟨p2, c2, rfl, hR2, hb2⟩; have hB2 : Below w.heap.size w w2 := hB1.trans (hb2.mono hB1.size); clear hr1)
          | (go_at_call 11; refine (hr2.out w2 hB2).mono ?_; rintro e w3 ⟨p3, c3, rfl, hR3, hb3⟩; have hB3 : Below w.heap.size w w3 := hB2.trans (hb3.mono hB2.size); clear hr2)
          | (go_at_call 19; refine (hcl.out w3 hB3).mono ?_; rintro e w4 ⟨p4, c4, rfl, hR4, hb4⟩; have hB4 : Below w.heap.size w w4 := hB3.trans (hb4.mono hB3.size); clear hcl)
          | (go_at_call 25; refine (hgood.out w4).mono ?_; rintro e w' ⟨rfl, rfl⟩; clear hgood; have hBa : Below w.heap.size w (w4.alloc (.cells #[.int .i64 0, .int .i64 0] 24)) := hB4.alloc hB4.size _; have hA : Hid (World.ownsRow (w4.alloc (.cells #[.int .i64 0, .int .i64 0] 24)) w1.heap.size 3 1 (.slice p2 n1 c2) n1 (ints L1)) := (row_below (row_below hR2 hb3) hb4).alloc _; have hBb : Hid (World.ownsRow (w4.alloc (.cells #[.int .i64 0, .int .i64 0] 24)) w2.heap.size 3 1 (.slice p3 n2 c3) n2 (ints L2)) := (row_below hR3 hb4).alloc _; have hC : Hid (World.ownsRow (w4.alloc (.cells #[.int .i64 0, .int .i64 0] 24)) w3.heap.size 41 2 (.slice p4 n3 c4) n3 (flatE L3)) := hR4.alloc _; clear hR2 hR3 hR4; generalize w4.alloc (.cells #[.int .i64 0, .int .i64 0] 24) = wa at *; have hc1 := contains_i k q1.out (Nat.le_trans hl1.out (by omega)) hA.out)
          | (go_at_call 26; refine hc1.mono ?_; rintro e w' ⟨⟨z1, rfl, hz1⟩, hw'⟩; have hw'' := hw'.symm; subst hw''; clear hc1; obtain rfl : z1 = true := hz1.2 hinH.out; clear hz1)
          | go_in)
        go_loopw [58] (fun iv wr => ∃ j : Nat, iv = .int .i64 j ∧ j ≤ n2 ∧ wr = wa)
          (fun iv _ => n2 - (intOf iv).toNat)
        case atStart => exact ⟨0, rfl, Nat.zero_le _, rfl⟩
        case round =>
          obtain ⟨j, rfl, hjn, rfl⟩ := hrel
          by_cases hj : j < n2
          · obtain ⟨g, rfl, y0, _⟩ := row_at hBb.out q2.out hj
            have hji : (j : Int) < (n2 : Int) := by omega
            have hj2 : Hid (j ≤ 100000) := by have := hl2.out; show _ ≤ _; omega
            have hmem : Hid (bn L2 j ∈ L1) := hsub.out _ (by rw [bn_get (by have := q2.out; omega)]; exact List.getElem_mem _)
            have hcx := contains_i ((bn L2 j : Nat) : Int) q1.out (Nat.le_trans hl1.out (by omega)) hA.out
            generalize bn L2 j = x at *
            go_wp2_with (first
              | (go_at_call 26; refine hcx.mono ?_; rintro e w' ⟨⟨zx, rfl, hzx⟩, hw'⟩; have hw'' := hw'.symm; subst hw''; clear hcx; obtain rfl : zx = true := hzx.2 ⟨x, hmem.out, rfl⟩; clear hzx)
              | go_in)
            refine ⟨⟨j + 1, ?_, hj, by first | rfl | trivial⟩, ?_⟩
            · first | exact int_succ j | exact int_wsucc hj2.out
            · first | exact meas_1 hj | exact meas_w hj hj2.out
          · have hji : ¬ (j : Int) < (n2 : Int) := by omega
            go_wp2_with (first
              | (go_at_call 19; refine (hag2.out wr p4 c4 (eds_row hC.out q3.out) (hZb.out wr hBa)).mono ?_; rintro e w6 ⟨p6, c6, rfl, hR6, hb6⟩; have hB6 : Below w.heap.size w w6 := hBa.trans (hb6.mono hBa.size); have heq := equal_e q3.out (row_below hC.out hb6) hR6 hl3.out; clear hR6)
              | (go_at_call 22; refine heq.mono ?_; rintro e w7 ⟨rfl, hb7⟩; have hB7 : Below w.heap.size w w7 := hB6.trans (hb7.mono hB6.size); have hce := contains_e i k q3.out (row_below (row_below hC.out hb6) hb7) hl3.out; clear heq)
              | (go_at_call 27; refine hce.mono ?_; rintro e w8 ⟨⟨z8, rfl, hz8⟩, hb8⟩; have hB8 : Below w.heap.size w w8 := hB7.trans (hb8.mono hB7.size); have hcl1 := contains_i k q1.out (Nat.le_trans hl1.out (by omega)) (row_below (row_below (row_below hA.out hb6) hb7) hb8); clear hce; obtain rfl : z8 = true := hz8.2 (hmm2.out.2 hinH.out); clear hz8)
              | (go_at_call 26; refine hcl1.mono ?_; rintro e w' ⟨⟨z9, rfl, hz9⟩, hw'⟩; have hw'' := hw'.symm; subst hw''; clear hcl1; obtain rfl : z9 = true := hz9.2 hinH.out; clear hz9)
              | go_in)
            go_ret
            exact ⟨by first | rfl | simp, hB8⟩
      · have h30 : L3 = [] := hn3.out h3
        have hz3 : n3 = 0 := by have := q3.out; rw [h30] at this; simpa using this.symm
        subst hz3
        clear h30
        have h3b : (E3 == 0) = false := by simpa using h3
        have h3c : (E3 != 0) = true := by simpa using h3
        clear h3
        clear hag htr hmm hn1 hn3 hin htr2
        go_enter Tryd.func6, Tryd.ntmps6
        go_wp2_with (first
          | (go_at_call 24; refine hgs.mono ?_; rintro e w1 ⟨rfl, hB1⟩; clear hgs)
          | (go_at_call 11; refine (hr1.out w1 hB1).mono ?_; rintro e w2 ⟨p2, c2, rfl, hR2, hb2⟩; have hB2 : Below w.heap.size w w2 := hB1.trans (hb2.mono hB1.size); clear hr1)
          | (go_at_call 11; refine (hr2.out w2 hB2).mono ?_; rintro e w3 ⟨p3, c3, rfl, hR3, hb3⟩; have hB3 : Below w.heap.size w w3 := hB2.trans (hb3.mono hB2.size); clear hr2)
          | (go_at_call 19; refine (hcl.out w3 hB3).mono ?_; rintro e w4 ⟨p4, c4, rfl, hR4, hb4⟩; have hB4 : Below w.heap.size w w4 := hB3.trans (hb4.mono hB3.size); clear hcl)
          | (go_at_call 25; refine (hgood.out w4).mono ?_; rintro e w' ⟨rfl, rfl⟩; clear hgood; have hBa : Below w.heap.size w (w4.alloc (.cells #[.int .i64 0, .int .i64 0] 24)) := hB4.alloc hB4.size _; have hA : Hid (World.ownsRow (w4.alloc (.cells #[.int .i64 0, .int .i64 0] 24)) w1.heap.size 3 1 (.slice p2 n1 c2) n1 (ints L1)) := (row_below (row_below hR2 hb3) hb4).alloc _; have hBb : Hid (World.ownsRow (w4.alloc (.cells #[.int .i64 0, .int .i64 0] 24)) w2.heap.size 3 1 (.slice p3 n2 c3) n2 (ints L2)) := (row_below hR3 hb4).alloc _; have hC : Hid (World.ownsRow (w4.alloc (.cells #[.int .i64 0, .int .i64 0] 24)) w3.heap.size 41 2 (.slice p4 0 c4) 0 (flatE L3)) := hR4.alloc _; clear hR2 hR3 hR4; generalize w4.alloc (.cells #[.int .i64 0, .int .i64 0] 24) = wa at *; have hc1 := contains_i k q1.out (Nat.le_trans hl1.out (by omega)) hA.out)
          | (go_at_call 26; refine hc1.mono ?_; rintro e w' ⟨⟨z1, rfl, hz1⟩, hw'⟩; have hw'' := hw'.symm; subst hw''; clear hc1; obtain rfl : z1 = true := hz1.2 hinH.out; clear hz1)
          | go_in)
        go_loopw [58] (fun iv wr => ∃ j : Nat, iv = .int .i64 j ∧ j ≤ n2 ∧ wr = wa)
          (fun iv _ => n2 - (intOf iv).toNat)
        case atStart => exact ⟨0, rfl, Nat.zero_le _, rfl⟩
        case round =>
          obtain ⟨j, rfl, hjn, rfl⟩ := hrel
          by_cases hj : j < n2
          · obtain ⟨g, rfl, y0, _⟩ := row_at hBb.out q2.out hj
            have hji : (j : Int) < (n2 : Int) := by omega
            have hj2 : Hid (j ≤ 100000) := by have := hl2.out; show _ ≤ _; omega
            have hmem : Hid (bn L2 j ∈ L1) := hsub.out _ (by rw [bn_get (by have := q2.out; omega)]; exact List.getElem_mem _)
            have hcx := contains_i ((bn L2 j : Nat) : Int) q1.out (Nat.le_trans hl1.out (by omega)) hA.out
            generalize bn L2 j = x at *
            go_wp2_with (first
              | (go_at_call 26; refine hcx.mono ?_; rintro e w' ⟨⟨zx, rfl, hzx⟩, hw'⟩; have hw'' := hw'.symm; subst hw''; clear hcx; obtain rfl : zx = true := hzx.2 ⟨x, hmem.out, rfl⟩; clear hzx)
              | go_in)
            refine ⟨⟨j + 1, ?_, hj, by first | rfl | trivial⟩, ?_⟩
            · first | exact int_succ j | exact int_wsucc hj2.out
            · first | exact meas_1 hj | exact meas_w hj hj2.out
          · have hji : ¬ (j : Int) < (n2 : Int) := by omega
            go_wp2
            go_ret
            exact ⟨by first | rfl | simp, hBa⟩
    · have hinH : Hid (¬ (∃ j ∈ L1, (j : Int) = k)) := hin
      by_cases h3 : E3 = 0
      · have hag2 : Hid (∀ w2 p c, Eds w2 p L3 → TabZ w2 → Calls Tryd.prog 19 #[.int .i64 n, .slice p n3 c] w2 fun e w' => ∃ (p : Option Addr) (c : Nat), e = .returned (.tuple #[.slice p n3 c, .int .i64 0]) ∧ w'.ownsRow w2.heap.size 41 2 (.slice p n3 c) n3 (flatE L3) ∧ Below w2.heap.size w2 w') := hag.out h3
        have hmm2 : Hid ((⟨i, k⟩ : Ed) ∈ L3 ↔ ∃ j ∈ L1, (j : Int) = k) := hmm.out rfl rfl h3
        subst h3
        clear hag htr hmm hn1 hn3 hin htr2
        go_enter Tryd.func6, Tryd.ntmps6
        go_wp2_with (first
          | (go_at_call 24; refine hgs.mono ?_; rintro e w1 ⟨rfl, hB1⟩; clear hgs)
          | (go_at_call 11; refine (hr1.out w1 hB1).mono ?_; rintro e w2 ⟨p2, c2, rfl, hR2, hb2⟩; have hB2 : Below w.heap.size w w2 := hB1.trans (hb2.mono hB1.size); clear hr1)
          | (go_at_call 11; refine (hr2.out w2 hB2).mono ?_; rintro e w3 ⟨p3, c3, rfl, hR3, hb3⟩; have hB3 : Below w.heap.size w w3 := hB2.trans (hb3.mono hB2.size); clear hr2)
          | (go_at_call 19; refine (hcl.out w3 hB3).mono ?_; rintro e w4 ⟨p4, c4, rfl, hR4, hb4⟩; have hB4 : Below w.heap.size w w4 := hB3.trans (hb4.mono hB3.size); clear hcl)
          | (go_at_call 25; refine (hgood.out w4).mono ?_; rintro e w' ⟨rfl, rfl⟩; clear hgood; have hBa : Below w.heap.size w (w4.alloc (.cells #[.int .i64 0, .int .i64 0] 24)) := hB4.alloc hB4.size _; have hA : Hid (World.ownsRow (w4.alloc (.cells #[.int .i64 0, .int .i64 0] 24)) w1.heap.size 3 1 (.slice p2 n1 c2) n1 (ints L1)) := (row_below (row_below hR2 hb3) hb4).alloc _; have hBb : Hid (World.ownsRow (w4.alloc (.cells #[.int .i64 0, .int .i64 0] 24)) w2.heap.size 3 1 (.slice p3 n2 c3) n2 (ints L2)) := (row_below hR3 hb4).alloc _; have hC : Hid (World.ownsRow (w4.alloc (.cells #[.int .i64 0, .int .i64 0] 24)) w3.heap.size 41 2 (.slice p4 n3 c4) n3 (flatE L3)) := hR4.alloc _; clear hR2 hR3 hR4; generalize w4.alloc (.cells #[.int .i64 0, .int .i64 0] 24) = wa at *; have hc1 := contains_i k q1.out (Nat.le_trans hl1.out (by omega)) hA.out)
          | (go_at_call 26; refine hc1.mono ?_; rintro e w' ⟨⟨z1, rfl, hz1⟩, hw'⟩; have hw'' := hw'.symm; subst hw''; clear hc1; obtain rfl : z1 = false := Bool.eq_false_iff.2 fun e => hinH.out (hz1.1 e); clear hz1)
          | (go_at_call 19; refine (hag2.out wa p4 c4 (eds_row hC.out q3.out) (hZb.out wa hBa)).mono ?_; rintro e w6 ⟨p6, c6, rfl, hR6, hb6⟩; have hB6 : Below w.heap.size w w6 := hBa.trans (hb6.mono hBa.size); have heq := equal_e q3.out (row_below hC.out hb6) hR6 hl3.out; clear hR6)
          | (go_at_call 22; refine heq.mono ?_; rintro e w7 ⟨rfl, hb7⟩; have hB7 : Below w.heap.size w w7 := hB6.trans (hb7.mono hB6.size); have hce := contains_e i k q3.out (row_below (row_below hC.out hb6) hb7) hl3.out; clear heq)
          | (go_at_call 27; refine hce.mono ?_; rintro e w8 ⟨⟨z8, rfl, hz8⟩, hb8⟩; have hB8 : Below w.heap.size w w8 := hB7.trans (hb8.mono hB7.size); have hcl1 := contains_i k q1.out (Nat.le_trans hl1.out (by omega)) (row_below (row_below (row_below hA.out hb6) hb7) hb8); clear hce; obtain rfl : z8 = false := Bool.eq_false_iff.2 fun e => hinH.out (hmm2.out.1 (hz8.1 e)); clear hz8)
          | (go_at_call 26; refine hcl1.mono ?_; rintro e w' ⟨⟨z9, rfl, hz9⟩, hw'⟩; have hw'' := hw'.symm; subst hw''; clear hcl1; obtain rfl : z9 = false := Bool.eq_false_iff.2 fun e => hinH.out (hz9.1 e); clear hz9)
          | go_in)
        go_ret
        exact ⟨by first | rfl | simp, hB8⟩
      · have h30 : L3 = [] := hn3.out h3
        have hz3 : n3 = 0 := by have := q3.out; rw [h30] at this; simpa using this.symm
        subst hz3
        clear h30
        have h3b : (E3 == 0) = false := by simpa using h3
        have h3c : (E3 != 0) = true := by simpa using h3
        clear h3
        clear hag htr hmm hn1 hn3 hin htr2
        go_enter Tryd.func6, Tryd.ntmps6
        go_wp2_with (first
          | (go_at_call 24; refine hgs.mono ?_; rintro e w1 ⟨rfl, hB1⟩; clear hgs)
          | (go_at_call 11; refine (hr1.out w1 hB1).mono ?_; rintro e w2 ⟨p2, c2, rfl, hR2, hb2⟩; have hB2 : Below w.heap.size w w2 := hB1.trans (hb2.mono hB1.size); clear hr1)
          | (go_at_call 11; refine (hr2.out w2 hB2).mono ?_; rintro e w3 ⟨p3, c3, rfl, hR3, hb3⟩; have hB3 : Below w.heap.size w w3 := hB2.trans (hb3.mono hB2.size); clear hr2)
          | (go_at_call 19; refine (hcl.out w3 hB3).mono ?_; rintro e w4 ⟨p4, c4, rfl, hR4, hb4⟩; have hB4 : Below w.heap.size w w4 := hB3.trans (hb4.mono hB3.size); clear hcl)
          | (go_at_call 25; refine (hgood.out w4).mono ?_; rintro e w' ⟨rfl, rfl⟩; clear hgood; have hBa : Below w.heap.size w (w4.alloc (.cells #[.int .i64 0, .int .i64 0] 24)) := hB4.alloc hB4.size _; have hA : Hid (World.ownsRow (w4.alloc (.cells #[.int .i64 0, .int .i64 0] 24)) w1.heap.size 3 1 (.slice p2 n1 c2) n1 (ints L1)) := (row_below (row_below hR2 hb3) hb4).alloc _; have hBb : Hid (World.ownsRow (w4.alloc (.cells #[.int .i64 0, .int .i64 0] 24)) w2.heap.size 3 1 (.slice p3 n2 c3) n2 (ints L2)) := (row_below hR3 hb4).alloc _; have hC : Hid (World.ownsRow (w4.alloc (.cells #[.int .i64 0, .int .i64 0] 24)) w3.heap.size 41 2 (.slice p4 0 c4) 0 (flatE L3)) := hR4.alloc _; clear hR2 hR3 hR4; generalize w4.alloc (.cells #[.int .i64 0, .int .i64 0] 24) = wa at *; have hc1 := contains_i k q1.out (Nat.le_trans hl1.out (by omega)) hA.out)
          | (go_at_call 26; refine hc1.mono ?_; rintro e w' ⟨⟨z1, rfl, hz1⟩, hw'⟩; have hw'' := hw'.symm; subst hw''; clear hc1; obtain rfl : z1 = false := Bool.eq_false_iff.2 fun e => hinH.out (hz1.1 e); clear hz1)
          | go_in)
        go_ret
        exact ⟨by first | rfl | simp, hBa⟩
  · rw [decide_eq_false hgd] at hgood
    clear hag htr hmm hn3
    by_cases h1 : E1 = 0
    · subst h1
      clear hn1 hgd
      go_enter Tryd.func6, Tryd.ntmps6
      go_wp2_with (first
        | (go_at_call 24; refine hgs.mono ?_; rintro e w1 ⟨rfl, hB1⟩; clear hgs)
        | (go_at_call 11; refine (hr1.out w1 hB1).mono ?_; rintro e w2 ⟨p2, c2, rfl, hR2, hb2⟩; have hB2 : Below w.heap.size w w2 := hB1.trans (hb2.mono hB1.size); clear hr1)
        | (go_at_call 11; refine (hr2.out w2 hB2).mono ?_; rintro e w3 ⟨p3, c3, rfl, hR3, hb3⟩; have hB3 : Below w.heap.size w w3 := hB2.trans (hb3.mono hB2.size); clear hr2)
        | (go_at_call 19; refine (hcl.out w3 hB3).mono ?_; rintro e w4 ⟨p4, c4, rfl, hR4, hb4⟩; have hB4 : Below w.heap.size w w4 := hB3.trans (hb4.mono hB3.size); clear hcl)
        | (go_at_call 25; refine (hgood.out w4).mono ?_; rintro e w' ⟨rfl, hw'⟩; have hw'' := hw'.symm; subst hw''; clear hgood)
        | go_in)
      go_ret
      exact ⟨by first | rfl | simp, hB4.alloc hB4.size _⟩
    · have h10 : L1 = [] := hn1.out h1
      have hz1 : n1 = 0 := by have := q1.out; rw [h10] at this; simpa using this.symm
      subst hz1
      have h1b : (E1 == 0) = false := by simpa using h1
      clear h10 hn1 hgd h1
      go_enter Tryd.func6, Tryd.ntmps6
      go_wp2_with (first
        | (go_at_call 24; refine hgs.mono ?_; rintro e w1 ⟨rfl, hB1⟩; clear hgs)
        | (go_at_call 11; refine (hr1.out w1 hB1).mono ?_; rintro e w2 ⟨p2, c2, rfl, hR2, hb2⟩; have hB2 : Below w.heap.size w w2 := hB1.trans (hb2.mono hB1.size); clear hr1)
        | (go_at_call 11; refine (hr2.out w2 hB2).mono ?_; rintro e w3 ⟨p3, c3, rfl, hR3, hb3⟩; have hB3 : Below w.heap.size w w3 := hB2.trans (hb3.mono hB2.size); clear hr2)
        | (go_at_call 19; refine (hcl.out w3 hB3).mono ?_; rintro e w4 ⟨p4, c4, rfl, hR4, hb4⟩; have hB4 : Below w.heap.size w w4 := hB3.trans (hb4.mono hB3.size); clear hcl)
        | (go_at_call 25; refine (hgood.out w4).mono ?_; rintro e w' ⟨rfl, hw'⟩; have hw'' := hw'.symm; subst hw''; clear hgood)
        | go_in)
      go_ret
      exact ⟨by first | rfl | simp, hB4.alloc hB4.size _⟩
end Go.Proofs.YtgcdifpkfpgafaaDoor
