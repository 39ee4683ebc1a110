/- GraphCloses, walked. -/
import Derived.Test.YtncjnmlgkhngaaaDoorGle
import Derived.Test.YtncjnmlgkhngaaaDoorGte
import Derived.Test.YtncjnmlgkhngaaaDoorGfa
import Derived.Test.YtncjnmlgkhngaaaDoorGtl
namespace Go.Proofs.YtncjnmlgkhngaaaDoor
open Go.RowKit Gm
set_option linter.unusedSectionVars false
set_option linter.unusedVariables false

theorem ce_is {n : Int} {l : List Ed} (h0 : chk n l = 0) : (nE (wB l) 60 ≤ 400 → ce n l = 0 ∧ cl n l = eL (wB l) 60) ∧ (400 < nE (wB l) 60 → ce n l = 2 ∧ cl n l = []) := by
  refine ⟨fun h => ⟨by rw [ce, if_pos h0, if_neg (by omega)], by rw [cl, if_pos ⟨h0, h⟩]⟩, fun h => ⟨by rw [ce, if_pos h0, if_pos h], by rw [cl, if_neg (fun x => absurd x.2 (by omega))]⟩⟩
theorem te_is {n : Int} {l : List Ed} (h0 : chk n l = 0) : ((bl (fun i => wB l i i) 60).length = 0 → te n l = 0 ∧ tl n l = eL (tn l) 60) ∧ (0 < (bl (fun i => wB l i i) 60).length → te n l = 8 ∧ tl n l = []) := by
  have key : bs (fun i => wB l i i) 60 = 0 ↔ (bl (fun i => wB l i i) 60).length = 0 := by
    rw [bs_zero, List.length_eq_zero_iff, bl_nil]
  refine ⟨fun h => ?_, fun h => ?_⟩
  · have := key.2 h
    exact ⟨by rw [te, if_pos h0, if_pos this], by rw [tl, if_pos ⟨h0, this⟩]⟩
  · have : ¬ bs (fun i => wB l i i) 60 = 0 := fun x => by have := key.1 x; omega
    exact ⟨by rw [te, if_pos h0, if_neg this], by rw [tl, if_neg (fun x => this x.2)]⟩

set_option maxHeartbeats 2000000 in
set_option maxRecDepth 100000 in
theorem graphCloses_walk (n : Int) (q : Option Addr) (l : List Ed) (cap : Nat) (w : World) (hZ : TabZ w) (h : Eds w q l) :
    Calls Tryd.prog 4 #[.int .i64 n, .slice q l.length cap] w fun e w' => e = .returned (.bool true) ∧ Below w.heap.size w w' := by
  have hEb : Hid (∀ w1, Below w.heap.size w w1 → Eds w1 q l) := fun w1 hb => h.below hb (Nat.le_refl _)
  have hZb : Hid (∀ w1, Below w.heap.size w w1 → TabZ w1) := fun w1 hb => hZ.below hb (Nat.le_refl _)
  have hfa : Hid (∀ w2, Below w.heap.size w w2 → _) := fun w2 hb => fault_any (cap := cap) n (hEb.out w2 hb)
  have hcl := close_e (n := n) (cap := cap) h hZ
  have hth : Hid (∀ w2, Below w.heap.size w w2 → _) := fun w2 hb => thin_e (n := n) (cap := cap) (hEb.out w2 hb) (hZb.out w2 hb)
  by_cases h0 : chk n l = 0
  · obtain ⟨hn0, hn60, hl4, _⟩ := chk_ok h0
    obtain ⟨N, rfl⟩ : ∃ N : Nat, n = N := ⟨n.toNat, by omega⟩
    have hg : Hid (Gr N l) := by have h3 := chk_gr h0; rw [Int.toNat_natCast] at h3; exact h3
    have hkd : Hid (∀ w2, Below w.heap.size w w2 → _) := fun w2 hb => knotted_any (n := N) (cap := cap) (hEb.out w2 hb) hg.out hl4
    have hcd : Hid (∀ w2, Below w.heap.size w w2 → _) := fun w2 hb => closed_any (n := N) (cap := cap) (hEb.out w2 hb) hg.out hl4
    have hle : Hid (∀ w2, Below w.heap.size w w2 → _) := fun w2 hb => leaned_any (n := N) (cap := cap) (hEb.out w2 hb) hg.out hl4
    have hci := ce_is h0
    have hti := te_is h0
    rw [bl_knot60 hg.out] at hti
    have hlw : Hid ((eL (wB l) 60).length ≤ 4000) := by have := nE_le (wB l) 60; show _ ≤ _; rw [eL_len]; omega
    have hlt : Hid ((eL (tn l) 60).length ≤ 4000) := by have := nE_le (tn l) 60; show _ ≤ _; rw [eL_len]; omega
    rw [← eL_len] at hci
    rw [h0] at hfa
    generalize ce N l = E1 at *
    generalize cl N l = L1 at *
    generalize te N l = E2 at *
    generalize tl N l = L2 at *
    generalize bl (fun i => wB l i i) N = K at *
    generalize eL (wB l) 60 = W at *
    generalize eL (tn l) 60 = T at *
    clear h0 h hZ hZb hEb hn0 hn60 hl4 hg
    by_cases h25 : 25 < N
    · have h25i : (25 : Int) < (N : Int) := by omega
      clear hkd hcd hle hci hti
      go_enter Tryd.func4, Tryd.ntmps4
      go_wp2_with (first
        | (go_at_call 19; refine hcl.mono ?_; rintro e w1 ⟨p1, c1, rfl, hR1, hB1⟩; clear hcl)
        | (go_at_call 20; refine (hth.out w1 hB1).mono ?_; rintro e w2 ⟨p2, c2, rfl, hR2, hb2⟩; have hB2 : Below w.heap.size w w2 := hB1.trans (hb2.mono hB1.size); clear hth)
        | (go_at_call 12; refine (hfa.out w2 hB2).mono ?_; rintro e w3 ⟨rfl, hb3⟩; have hB3 : Below w.heap.size w w3 := hB2.trans (hb3.mono hB2.size); clear hfa)
        | go_in)
      go_ret
      exact ⟨rfl, hB3⟩
    have h25i : ¬ (25 : Int) < (N : Int) := by omega
    obtain ⟨m, hm⟩ : ∃ m, K.length = m := ⟨_, rfl⟩
    obtain ⟨a, ha⟩ : ∃ a, W.length = a := ⟨_, rfl⟩
    obtain ⟨b, hb⟩ : ∃ b, T.length = b := ⟨_, rfl⟩
    have haH : Hid (W.length = a) := ha
    have hbH : Hid (T.length = b) := hb
    rw [hm] at hkd hti
    rw [ha] at hcd hci hlw
    rw [hb] at hle hlt
    clear hm
    by_cases h4 : 400 < a
    · by_cases hm0 : 0 < m
      · obtain ⟨hE1, hL1⟩ := hci.2 h4
        have h4i : (400 : Int) < (a : Int) := by omega
        subst hE1
        subst hL1
        have hz0 : ([] : List Ed).length = 0 := rfl
        rw [hz0] at hcl
        obtain ⟨hE2, hL2⟩ := hti.2 hm0
        have hmi : (0 : Int) < (m : Int) := by omega
        subst hE2
        subst hL2
        have hz1 : ([] : List Ed).length = 0 := rfl
        rw [hz1] at hth
        clear hle
        clear hci hti ha hb
        go_enter Tryd.func4, Tryd.ntmps4
        go_wp2_with (first
          | (go_at_call 19; refine hcl.mono ?_; rintro e w1 ⟨p1, c1, rfl, hR1, hB1⟩; clear hcl)
          | (go_at_call 20; refine (hth.out w1 hB1).mono ?_; rintro e w2 ⟨p2, c2, rfl, hR2, hb2⟩; have hB2 : Below w.heap.size w w2 := hB1.trans (hb2.mono hB1.size); clear hth)
          | (go_at_call 12; refine (hfa.out w2 hB2).mono ?_; rintro e w3 ⟨rfl, hb3⟩; have hB3 : Below w.heap.size w w3 := hB2.trans (hb3.mono hB2.size); clear hfa)
          | (go_at_call 21; refine (hcd.out w3 hB3).mono ?_; rintro e w4 ⟨p4, c4, rfl, hR4, hb4⟩; have hB4 : Below w.heap.size w w4 := hB3.trans (hb4.mono hB3.size); clear hcd)
          | (go_at_call 14; refine (hkd.out w4 hB4).mono ?_; rintro e w6 ⟨p6, c6, rfl, hR6, hb6⟩; have hB6 : Below w.heap.size w w6 := hB4.trans (hb6.mono hB4.size); clear hkd; have hR26 := row_below (row_below (row_below hR2 hb3) hb4) hb6)
          | go_in)
        go_ret
        exact ⟨by first | rfl | simp, hB6⟩
      · obtain ⟨hE1, hL1⟩ := hci.2 h4
        have h4i : (400 : Int) < (a : Int) := by omega
        subst hE1
        subst hL1
        have hz0 : ([] : List Ed).length = 0 := rfl
        rw [hz0] at hcl
        have hmz : m = 0 := by omega
        obtain ⟨hE2, hL2⟩ := hti.1 hmz
        subst hmz
        subst hE2
        subst hL2
        rw [hb] at hth
        clear hci hti ha hb
        go_enter Tryd.func4, Tryd.ntmps4
        go_wp2_with (first
          | (go_at_call 19; refine hcl.mono ?_; rintro e w1 ⟨p1, c1, rfl, hR1, hB1⟩; clear hcl)
          | (go_at_call 20; refine (hth.out w1 hB1).mono ?_; rintro e w2 ⟨p2, c2, rfl, hR2, hb2⟩; have hB2 : Below w.heap.size w w2 := hB1.trans (hb2.mono hB1.size); clear hth)
          | (go_at_call 12; refine (hfa.out w2 hB2).mono ?_; rintro e w3 ⟨rfl, hb3⟩; have hB3 : Below w.heap.size w w3 := hB2.trans (hb3.mono hB2.size); clear hfa)
          | (go_at_call 21; refine (hcd.out w3 hB3).mono ?_; rintro e w4 ⟨p4, c4, rfl, hR4, hb4⟩; have hB4 : Below w.heap.size w w4 := hB3.trans (hb4.mono hB3.size); clear hcd)
          | (go_at_call 14; refine (hkd.out w4 hB4).mono ?_; rintro e w6 ⟨p6, c6, rfl, hR6, hb6⟩; have hB6 : Below w.heap.size w w6 := hB4.trans (hb6.mono hB4.size); clear hkd; have hR26 := row_below (row_below (row_below hR2 hb3) hb4) hb6)
          | (go_at_call 23; refine (hle.out w6 hB6).mono ?_; rintro e w7 ⟨p7, c7, rfl, hR7, hb7⟩; have hB7 : Below w.heap.size w w7 := hB6.trans (hb7.mono hB6.size); clear hle; have heq2 := equal_e hbH.out (row_below hR26 hb7) hR7 hlt.out)
          | (go_at_call 22; refine heq2.mono ?_; rintro e w8 ⟨rfl, hb8⟩; have hB8 : Below w.heap.size w w8 := hB7.trans (hb8.mono hB7.size); clear heq2)
          | go_in)
        go_ret
        exact ⟨by first | rfl | simp, hB8⟩
    · by_cases hm0 : 0 < m
      · obtain ⟨hE1, hL1⟩ := hci.1 (by omega)
        have h4i : ¬ (400 : Int) < (a : Int) := by omega
        subst hE1
        subst hL1
        rw [ha] at hcl
        obtain ⟨hE2, hL2⟩ := hti.2 hm0
        have hmi : (0 : Int) < (m : Int) := by omega
        subst hE2
        subst hL2
        have hz1 : ([] : List Ed).length = 0 := rfl
        rw [hz1] at hth
        clear hle
        clear hci hti ha hb
        go_enter Tryd.func4, Tryd.ntmps4
        go_wp2_with (first
          | (go_at_call 19; refine hcl.mono ?_; rintro e w1 ⟨p1, c1, rfl, hR1, hB1⟩; clear hcl)
          | (go_at_call 20; refine (hth.out w1 hB1).mono ?_; rintro e w2 ⟨p2, c2, rfl, hR2, hb2⟩; have hB2 : Below w.heap.size w w2 := hB1.trans (hb2.mono hB1.size); clear hth)
          | (go_at_call 12; refine (hfa.out w2 hB2).mono ?_; rintro e w3 ⟨rfl, hb3⟩; have hB3 : Below w.heap.size w w3 := hB2.trans (hb3.mono hB2.size); clear hfa)
          | (go_at_call 21; refine (hcd.out w3 hB3).mono ?_; rintro e w4 ⟨p4, c4, rfl, hR4, hb4⟩; have hB4 : Below w.heap.size w w4 := hB3.trans (hb4.mono hB3.size); clear hcd; have heq := equal_e haH.out (row_below (row_below (row_below hR1 hb2) hb3) hb4) hR4 hlw.out)
          | (go_at_call 22; refine heq.mono ?_; rintro e w5 ⟨rfl, hb5⟩; have hB5 : Below w.heap.size w w5 := hB4.trans (hb5.mono hB4.size); clear heq)
          | (go_at_call 14; refine (hkd.out w5 hB5).mono ?_; rintro e w6 ⟨p6, c6, rfl, hR6, hb6⟩; have hB6 : Below w.heap.size w w6 := hB5.trans (hb6.mono hB5.size); clear hkd; have hR26 := row_below (row_below (row_below (row_below hR2 hb3) hb4) hb5) hb6)
          | go_in)
        go_ret
        exact ⟨by first | rfl | simp, hB6⟩
      · obtain ⟨hE1, hL1⟩ := hci.1 (by omega)
        have h4i : ¬ (400 : Int) < (a : Int) := by omega
        subst hE1
        subst hL1
        rw [ha] at hcl
        have hmz : m = 0 := by omega
        obtain ⟨hE2, hL2⟩ := hti.1 hmz
        subst hmz
        subst hE2
        subst hL2
        rw [hb] at hth
        clear hci hti ha hb
        go_enter Tryd.func4, Tryd.ntmps4
        go_wp2_with (first
          | (go_at_call 19; refine hcl.mono ?_; rintro e w1 ⟨p1, c1, rfl, hR1, hB1⟩; clear hcl)
          | (go_at_call 20; refine (hth.out w1 hB1).mono ?_; rintro e w2 ⟨p2, c2, rfl, hR2, hb2⟩; have hB2 : Below w.heap.size w w2 := hB1.trans (hb2.mono hB1.size); clear hth)
          | (go_at_call 12; refine (hfa.out w2 hB2).mono ?_; rintro e w3 ⟨rfl, hb3⟩; have hB3 : Below w.heap.size w w3 := hB2.trans (hb3.mono hB2.size); clear hfa)
          | (go_at_call 21; refine (hcd.out w3 hB3).mono ?_; rintro e w4 ⟨p4, c4, rfl, hR4, hb4⟩; have hB4 : Below w.heap.size w w4 := hB3.trans (hb4.mono hB3.size); clear hcd; have heq := equal_e haH.out (row_below (row_below (row_below hR1 hb2) hb3) hb4) hR4 hlw.out)
          | (go_at_call 22; refine heq.mono ?_; rintro e w5 ⟨rfl, hb5⟩; have hB5 : Below w.heap.size w w5 := hB4.trans (hb5.mono hB4.size); clear heq)
          | (go_at_call 14; refine (hkd.out w5 hB5).mono ?_; rintro e w6 ⟨p6, c6, rfl, hR6, hb6⟩; have hB6 : Below w.heap.size w w6 := hB5.trans (hb6.mono hB5.size); clear hkd; have hR26 := row_below (row_below (row_below (row_below hR2 hb3) hb4) hb5) hb6)
          | (go_at_call 23; refine (hle.out w6 hB6).mono ?_; rintro e w7 ⟨p7, c7, rfl, hR7, hb7⟩; have hB7 : Below w.heap.size w w7 := hB6.trans (hb7.mono hB6.size); clear hle; have heq2 := equal_e hbH.out (row_below hR26 hb7) hR7 hlt.out)
          | (go_at_call 22; refine heq2.mono ?_; rintro e w8 ⟨rfl, hb8⟩; have hB8 : Below w.heap.size w w8 := hB7.trans (hb8.mono hB7.size); clear heq2)
          | go_in)
        go_ret
        exact ⟨by first | rfl | simp, hB8⟩
  · have hcl := close_bad (cap := cap) h h0
    have hth : Hid (∀ w2, Below w.heap.size w w2 → _) := fun w2 hb => thin_bad (cap := cap) (hEb.out w2 hb) h0
    have hc0 : (chk n l == 0) = false := by simpa using h0
    have hc1 : (chk n l != 0) = true := by simpa using h0
    generalize chk n l = x at *
    have hxx : (x == x) = true := by simp
    have hxn : (x != x) = false := by simp
    clear h0 h hZ hZb hEb
    go_enter Tryd.func4, Tryd.ntmps4
    go_wp2_with (first
      | (go_at_call 19; refine hcl.mono ?_; rintro e w1 ⟨rfl, hB1⟩; clear hcl)
      | (go_at_call 20; refine (hth.out w1 hB1).mono ?_; rintro e w2 ⟨rfl, hb2⟩; have hB2 : Below w.heap.size w w2 := hB1.trans (hb2.mono hB1.size); clear hth)
      | (go_at_call 12; refine (hfa.out w2 hB2).mono ?_; rintro e w3 ⟨rfl, hb3⟩; have hB3 : Below w.heap.size w w3 := hB2.trans (hb3.mono hB2.size); clear hfa)
      | go_in)
    go_ret
    exact ⟨by first | rfl | simp, hB3⟩
end Go.Proofs.YtncjnmlgkhngaaaDoor
