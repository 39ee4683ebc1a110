/- GraphThin, walked. -/
import Derived.Test.YtncjnmlgkhngaaaDoorGtz
import Derived.Test.YtncjnmlgkhngaaaDoorGdl
namespace Go.Proofs.YtncjnmlgkhngaaaDoor
open Go.RowKit Gm
set_option linter.unusedSectionVars false
set_option linter.unusedVariables false

theorem chk_len {n : Int} {l : List Ed} (h0 : chk n l = 0) : l.length ≤ 400 := by
  obtain ⟨h1, h2, h3, h4⟩ := chk_ok h0
  by_cases hq : 400 < l.length
  · unfold chk at h0
    rw [if_neg (by omega), if_pos hq] at h0
    cases h0
  · omega
theorem ed_in {L : List Ed} {j : Nat} (h : j < L.length) : ed L j ∈ L := ed_mem h

set_option maxHeartbeats 2000000 in
set_option maxRecDepth 100000 in
theorem graphThin_walk (n : Int) (q : Option Addr) (l : List Ed) (cap : Nat) (k : Int) (w : World) (hZ : TabZ w) (h : Eds w q l) :
    Calls Tryd.prog 5 #[.int .i64 n, .slice q l.length cap, .int .i64 k] w fun e w' => e = .returned (.bool true) ∧ Below w.heap.size w w' := by
  have hEb : Hid (∀ w1, Below w.heap.size w w1 → Eds w1 q l) := fun w1 hb => h.below hb (Nat.le_refl _)
  have hZb : Hid (∀ w1, Below w.heap.size w w1 → TabZ w1) := fun w1 hb => hZ.below hb (Nat.le_refl _)
  have hgs := graphs_any w hZ
  have hth : Hid (∀ w2, Below w.heap.size w w2 → _) := fun w2 hb => thin_e (n := n) (cap := cap) (hEb.out w2 hb) (hZb.out w2 hb)
  have hc1 : Hid (∀ w2, Below w.heap.size w w2 → _) := fun w2 hb => close_e (n := n) (cap := cap) (hEb.out w2 hb) (hZb.out w2 hb)
  have hl3 : Hid ((cl n l).length ≤ 4000) := cl_len _ _
  have hn3 : Hid (ce n l ≠ 0 → cl n l = []) := cl_none
  by_cases hte : te n l = 0
  · have hl4 : Hid (l.length ≤ 400) := chk_len (te_zero hte).1
    have hll := tl_len n l
    have hsub : Hid (∀ e, e ∈ tl n l → e ∈ l) := fun e he => tl_sub he
    have hc2 : Hid (∀ w2 p c, Eds w2 p (tl n l) → TabZ w2 → Calls Tryd.prog 19 #[.int .i64 n, .slice p (tl n l).length c] w2 fun e w' => ∃ (p : Option Addr) (c : Nat), e = .returned (.tuple #[.slice p (cl n l).length c, .int .i64 (ce n l)]) ∧ w'.ownsRow w2.heap.size 41 2 (.slice p (cl n l).length c) (cl n l).length (flatE (cl n l)) ∧ Below w2.heap.size w2 w') := fun w2 p c h2 z2 => by
      have := close_e (n := n) (cap := c) h2 z2
      rwa [(close_thin hte).1, (close_thin hte).2] at this
    have hc3 : Hid (ce n l = 0 → ∀ j, j < (tl n l).length → ∀ w2 p c, Eds w2 p ((tl n l).eraseIdx j) → TabZ w2 → Calls Tryd.prog 19 #[.int .i64 n, .slice p ((tl n l).length - 1) c] w2 fun e w' => ∃ (p : Option Addr) (c m : Nat), m < (cl n l).length ∧ e = .returned (.tuple #[.slice p m c, .int .i64 0]) ∧ Below w2.heap.size w2 w') := fun hc j hj w2 p c h2 z2 => by
      have := close_e (n := n) (cap := c) h2 z2
      rw [List.length_eraseIdx, if_pos hj] at this
      refine this.mono ?_
      rintro e w' ⟨p, c, rfl, _, hb⟩
      have ht := thin_less hte hc hj
      exact ⟨p, c, _, ht.2, by rw [ht.1], hb⟩
    rw [hte] at hth
    clear hte h hZ
    generalize ce n l = E3 at *
    generalize tl n l = L1 at *
    generalize cl n l = L3 at *
    obtain ⟨n1, hn1e⟩ : ∃ n1, L1.length = n1 := ⟨_, rfl⟩
    obtain ⟨n3, hn3e⟩ : ∃ n3, L3.length = n3 := ⟨_, rfl⟩
    rw [hn1e] at hth hc2 hll hc3
    rw [hn3e] at hc1 hc2 hl3 hc3
    have q1 : Hid (L1.length = n1) := hn1e
    have q3 : Hid (L3.length = n3) := hn3e
    have hlli : (n1 : Int) ≤ (l.length : Int) := by omega
    clear hn1e hn3e
    have hn1 : Hid (n1 ≤ 400) := by have := hl4.out; show _ ≤ _; omega
    clear hll
    have hEE : (E3 != E3) = false := by simp
    have hdd : decide (l.length < n1) = false := decide_eq_false (by omega)
    go_enter Tryd.func5, Tryd.ntmps5
    go_wp2_with (first
      | (go_at_call 24; refine hgs.mono ?_; rintro e w1 ⟨rfl, hB1⟩; clear hgs)
      | (go_at_call 20; refine (hth.out w1 hB1).mono ?_; rintro e w2 ⟨p2, c2, rfl, hR2, hb2⟩; have hB2 : Below w.heap.size w w2 := hB1.trans (hb2.mono hB1.size); clear hth)
      | (go_at_call 19; refine (hc1.out w2 hB2).mono ?_; rintro e w3 ⟨p3, c3, rfl, hR3, hb3⟩; have hB3 : Below w.heap.size w w3 := hB2.trans (hb3.mono hB2.size); clear hc1; have hR2' := row_below hR2 hb3)
      | (go_at_call 19; refine (hc2.out w3 p2 c2 (eds_row hR2' q1.out) (hZb.out w3 hB3)).mono ?_; rintro e w4 ⟨p4, c4, rfl, hR4, hb4⟩; have hB4 : Below w.heap.size w w4 := hB3.trans (hb4.mono hB3.size); clear hc2; have heq := equal_e q3.out (row_below hR3 hb4) hR4 hl3.out)
      | (go_at_call 22; refine heq.mono ?_; rintro e w5 ⟨rfl, hb5⟩; have hB5 : Below w.heap.size w w5 := hB4.trans (hb5.mono hB4.size); clear heq; have hRa : Hid (World.ownsRow w5 w1.heap.size 41 2 (.slice p2 n1 c2) n1 (flatE L1)) := row_below (row_below hR2' hb4) hb5; clear hR2 hR2' hR3 hR4)
      | go_in)
    have hB5H : Hid (Below w.heap.size w w5) := hB5
    try simp only [hdd]
    clear hb2 hb3 hb4 hb5 hB1 hB2 hB3 hB4 hB5 hEE
    go_loopw [60] (fun iv wr => ∃ j : Nat, iv = .int .i64 j ∧ j ≤ n1 ∧ Below w5.heap.size w5 wr)
      (fun iv _ => n1 - (intOf iv).toNat)
    case atStart => exact ⟨0, rfl, Nat.zero_le _, Below.refl _ _⟩
    case round =>
      obtain ⟨j, rfl, hjn, hbl⟩ := hrel
      have hBl : Hid (Below w.heap.size w wr) := hB5H.out.trans (hbl.mono hB5H.out.size)
      have hRr : Hid (World.ownsRow wr w1.heap.size 41 2 (.slice p2 n1 c2) n1 (flatE L1)) := row_below hRa.out hbl
      by_cases hj : j < n1
      · rcases eds_row hRr.out q1.out with hh0 | ⟨b, o, rfl, hAr⟩
        · have := q1.out; omega
        have hj1 : j < L1.length := by have := q1.out; omega
        have z0 := hAr.cf j hj1
        have z1 := hAr.ct j hj1
        have hmem : Hid ((⟨(ed L1 j).f, (ed L1 j).t⟩ : Ed) ∈ l) := hsub.out _ (ed_in hj1)
        have hji : (j : Int) < (n1 : Int) := by omega
        have hj2 : Hid (j ≤ 100000) := by have := hn1.out; show _ ≤ _; omega
        generalize (ed L1 j).f = F at *
        generalize (ed L1 j).t = T at *
        have hblA : Below w5.heap.size w5 (wr.alloc (.cells #[.int .i64 F, .int .i64 T] 41)) := hbl.alloc hbl.size _
        have hBA : Below w.heap.size w (wr.alloc (.cells #[.int .i64 F, .int .i64 T] 41)) := hBl.out.alloc hBl.out.size _
        have hn := heap_alloc_new wr (.cells #[.int .i64 F, .int .i64 T] 41)
        have hcd := contains_d (c := cap) F T rfl (hEb.out _ hBA) (Nat.le_trans hl4.out (by omega))
        have hszA := hblA.size
        clear hAr hRr hBl hj1 hbl hBA
        go_wp2_with (first
          | (go_at_call 25; refine hcd.mono ?_; rintro e w6 ⟨⟨z6, rfl, hz6⟩, hb6⟩; clear hcd; obtain rfl : z6 = true := hz6.2 hmem.out; clear hz6)
          | go_in)
        refine ⟨⟨j + 1, ?_, hj, hblA.trans (hb6.mono hszA)⟩, ?_⟩
        · first | exact int_succ j | exact int_wsucc hj2.out
        · first | exact meas_1 hj | exact meas_w hj hj2.out
      · have hji : ¬ (j : Int) < (n1 : Int) := by omega
        clear hj
        by_cases hk0 : k < 0
        · go_wp2
          go_ret
          exact ⟨by first | rfl | simp, hBl.out⟩
        by_cases hk1 : k < (n1 : Int)
        · by_cases h3 : E3 = 0
          · obtain ⟨K, rfl⟩ : ∃ K : Nat, k = K := ⟨k.toNat, by omega⟩
            have hK : K < n1 := by omega
            have hKH : Hid (K < n1) := hK
            have hcn := clone_e (c := c2) hRr.out q1.out (by omega) (Nat.le_trans hn1.out (by omega))
            have hc4 := hc3.out h3 K hK
            have hnk : ¬ (n1 : Int) ≤ (K : Int) := by omega
            have hk3 : (0 : Int) ≤ (K : Int) := by omega
            have hwr : Hid (wrap64 ((K : Int) + 1) = (K : Int) + 1) := by show _ = _; rw [wrap_succ (by have := hn1.out; omega)]; simp
            subst h3
            clear hc3 hK
            have hel : Hid ((L1.eraseIdx K).length = n1 - 1) := by show _ = _; have := q1.out; have := hKH.out; rw [List.length_eraseIdx, if_pos (by omega)]; omega
            go_wp2_with (first
              | (go_at_call 27; refine hcn.mono ?_; rintro e w6 ⟨g6, c6, rfl, hR6, hb6⟩; clear hcn; have hdl := del_e (i := K) hR6 q1.out hKH.out (Nat.le_trans hn1.out (by omega)) hb6.size)
              | (go_at_call 26; rw [hwr.out]; refine hdl.mono ?_; rintro e w7 ⟨rfl, hR7, hb7⟩; clear hdl; have hB7 : Below w.heap.size w w7 := (hBl.out.trans (hb6.mono hBl.out.size)).trans (hb7.mono hBl.out.size); have hc5 := hc4 w7 _ c6 (eds_row hR7 hel.out) (hZb.out w7 hB7))
              | (go_at_call 19; refine hc5.mono ?_; rintro e w8 ⟨p8, c8, m, hm, rfl, hb8⟩; clear hc5; have hB8 : Below w.heap.size w w8 := hB7.trans (hb8.mono hB7.size); have hmi : (m : Int) < (n3 : Int) := by omega)
              | go_in)
            go_ret
            exact ⟨by first | rfl | simp | (simp; omega), hB8⟩
          · have h3b : (E3 == 0) = false := by simpa using h3
            have h3c : (E3 != 0) = true := by simpa using h3
            have hnk : ¬ (n1 : Int) ≤ k := by omega
            go_wp2
            go_ret
            exact ⟨by first | rfl | simp, hBl.out⟩
        · have hnk : (n1 : Int) ≤ k := by omega
          go_wp2
          go_ret
          exact ⟨by first | rfl | simp, hBl.out⟩
  · have h0 := tl_none hte
    rw [h0] at hth
    have hb : (te n l != 0) = true := by simpa using hte
    generalize te n l = E1 at *
    clear hte h0 h hZ hc1
    go_enter Tryd.func5, Tryd.ntmps5
    go_wp2_with (first
      | (go_at_call 24; refine hgs.mono ?_; rintro e w1 ⟨rfl, hB1⟩; clear hgs)
      | (go_at_call 20; refine (hth.out w1 hB1).mono ?_; rintro e w2 ⟨p2, c2, rfl, hR2, hb2⟩; have hB2 : Below w.heap.size w w2 := hB1.trans (hb2.mono hB1.size); clear hth)
      | go_in)
    go_ret
    exact ⟨by first | rfl | simp, hB2⟩
end Go.Proofs.YtncjnmlgkhngaaaDoor
