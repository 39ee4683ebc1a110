/- GraphTells, walked. -/
import Derived.Test.YtncjnmlgkhngaaaDoorGir
import Derived.Test.YtncjnmlgkhngaaaDoorGfa
namespace Go.Proofs.YtncjnmlgkhngaaaDoor
open Go.RowKit Gm
set_option linter.unusedSectionVars false
set_option linter.unusedVariables false

theorem bl_to60 {n : Nat} {l : List Ed} (hg : Gr n l) (f : Nat) : bl (wB l f) 60 = bl (wB l f) n := bl_skip hg.n60 fun j h1 h2 => by
  cases e : wB l f j
  · rfl
  · have := (rch_lt hg ((wB_iff hg).1 e)).2; omega
theorem bl_knot60 {n : Nat} {l : List Ed} (hg : Gr n l) : bl (fun i => wB l i i) 60 = bl (fun i => wB l i i) n := bl_skip hg.n60 fun j h1 h2 => by
  cases e : wB l j j
  · rfl
  · have := (rch_lt hg ((wB_iff hg).1 e)).2; omega

set_option maxHeartbeats 2000000 in
set_option maxRecDepth 100000 in
theorem graphTells_walk (n : Int) (q : Option Addr) (l : List Ed) (cap : Nat) (k : Int) (w : World) (hZ : TabZ w) (h : Eds w q l) :
    Calls Tryd.prog 3 #[.int .i64 n, .slice q l.length cap, .int .i64 k] w fun e w' => e = .returned (.bool true) ∧ Below w.heap.size w w' := by
  have hEb : Hid (∀ w1, Below w.heap.size w w1 → Eds w1 q l) := fun w1 hb => h.below hb (Nat.le_refl _)
  have hZb : Hid (∀ w1, Below w.heap.size w w1 → TabZ w1) := fun w1 hb => hZ.below hb (Nat.le_refl _)
  have hfa : Hid (∀ w2, Below w.heap.size w w2 → _) := fun w2 hb => fault_any (cap := cap) n (hEb.out w2 hb)
  have hck : Hid (∀ w2, Below w.heap.size w w2 → _) := fun w2 hb => check_any (cap := cap) n (hEb.out w2 hb)
  by_cases h0 : chk n l = 0
  · obtain ⟨hn0, hn60, hl4, _⟩ := chk_ok h0
    obtain ⟨N, rfl⟩ : ∃ N : Nat, n = N := ⟨n.toNat, by omega⟩
    have hg : Hid (Gr N l) := by have h3 := chk_gr h0; rw [Int.toNat_natCast] at h3; exact h3
    have hl4H : Hid (l.length ≤ 400) := hl4
    have hN60 : Hid (N ≤ 60) := hg.out.n60
    have hkn : Hid (∀ w2, Below w.heap.size w w2 → _) := fun w2 hb => knot_ok (cap := cap) (hEb.out w2 hb) (hZb.out w2 hb) h0
    rw [bl_knot60 hg.out] at hkn
    have hre : Hid (∀ w2, Below w.heap.size w w2 → _) := fun w2 hb => reach_e (cap := cap) (n := (N : Int)) (i := k) (hEb.out w2 hb) (hZb.out w2 hb)
    have hkd : Hid (∀ w2, Below w.heap.size w w2 → _) := fun w2 hb => knotted_any (n := N) (cap := cap) (hEb.out w2 hb) hg.out hl4
    have hbe : Hid (∀ w2 fr, Below w.heap.size w w2 → fr < N → _) := fun w2 fr hb hf => behind_e (n := N) (fr := fr) (cap := cap) (hEb.out w2 hb) hg.out hl4 hf
    have hacc : Hid ((¬ ∃ i, Rch (eB l) i i) → ∀ w2, Below w.heap.size w w2 → _) := fun hcy w2 hb => inrow_any (n := N) (cap := cap) (hEb.out w2 hb) hg.out hl4 (fun i hi => hcy ⟨i, hi⟩)
    have hkc := knot_cyc h0
    rw [bl_knot60 hg.out] at hkc
    have hlK : Hid ((bl (fun i => wB l i i) N).length ≤ 4000) := by have := bl_len (fun i => wB l i i) N; have := hN60.out; show _ ≤ _; omega
    have hoe := order_e (n := (N : Int)) (cap := cap) h hZ
    have hono := fun hcy => order_no (cap := cap) h hZ h0 hcy
    have hoyes := fun hac => order_yes (cap := cap) h hZ h0 hac
    rw [h0] at hfa hck
    have hre0 : Hid (0 ≤ k ∧ k < N → re N l k = 0 ∧ rl N l k = bl (wB l k.toNat) N) := fun hk => ⟨by rw [re, if_pos h0, if_pos hk], by rw [rl, if_pos ⟨h0, hk⟩, bl_to60 hg.out]⟩
    have hre4 : Hid (¬ (0 ≤ k ∧ k < N) → re N l k = 4 ∧ rl N l k = []) := fun hk => ⟨by rw [re, if_pos h0, if_neg hk], by rw [rl, if_neg (fun x => hk x.2)]⟩
    have hlR : Hid ((rl N l k).length ≤ 4000) := by have := rl_len N l k; show _ ≤ _; omega
    generalize hK : bl (fun i => wB l i i) N = K at *
    generalize re N l k = E3 at *
    generalize hRl : rl N l k = L3 at *
    clear hK hRl h0 h hZ hZb hEb hn0 hn60 hl4 hg
    by_cases h25 : 25 < N
    · have h25i : (25 : Int) < (N : Int) := by omega
      clear hkd hbe hacc hkc hono hoyes hre0 hre4
      generalize oe N l = E1 at *
      go_enter Tryd.func3, Tryd.ntmps3
      go_wp2_with (first
        | (go_at_call 9; refine hoe.mono ?_; rintro e w1 ⟨p1, k1, c1, rfl, hB1⟩; clear hoe)
        | (go_at_call 10; refine (hkn.out w1 hB1).mono ?_; rintro e w2 ⟨p2, c2, rfl, hR2, hb2⟩; have hB2 : Below w.heap.size w w2 := hB1.trans (hb2.mono hB1.size); clear hkn)
        | (go_at_call 11; refine (hre.out w2 hB2).mono ?_; rintro e w3 ⟨p3, c3, rfl, hR3, hb3⟩; have hB3 : Below w.heap.size w w3 := hB2.trans (hb3.mono hB2.size); clear hre)
        | (go_at_call 12; refine (hfa.out w3 hB3).mono ?_; rintro e w4 ⟨rfl, hb4⟩; have hB4 : Below w.heap.size w w4 := hB3.trans (hb4.mono hB3.size); clear hfa)
        | (go_at_call 13; refine (hck.out w4 hB4).mono ?_; rintro e w5 ⟨rfl, hb5⟩; have hB5 : Below w.heap.size w w5 := hB4.trans (hb5.mono hB4.size); clear hck)
        | go_in)
      go_ret
      exact ⟨rfl, hB5⟩
    have h25i : ¬ (25 : Int) < (N : Int) := by omega
    obtain ⟨m, hm⟩ : ∃ m, K.length = m := ⟨_, rfl⟩
    have hmH : Hid (K.length = m) := hm
    rw [hm] at hkn hkd hkc hlK
    clear hm hoe
    by_cases hcy : ∃ i, Rch (eB l) i i
    · by_cases hk : 0 ≤ k ∧ k < N
      · have hord := hono hcy
        have hm0 : (0 : Int) < (m : Int) := by have := hkc.1 hcy; omega
        clear hkc hono hoyes hacc hcy
        obtain ⟨I, rfl⟩ : ∃ I : Nat, k = I := ⟨k.toNat, by omega⟩
        obtain ⟨hE3, hL3⟩ := hre0.out hk
        rw [Int.toNat_natCast] at hL3
        have hIN : Hid (I < N) := by show _ < _; omega
        have hk1 : ¬ (I : Int) < 0 := by omega
        have hk2 : ¬ (N : Int) ≤ (I : Int) := by omega
        have hbh := fun w2 hb => hbe.out w2 I hb hIN.out
        subst hE3
        subst hL3
        clear hre0 hre4 hk
        clear hbe
        go_enter Tryd.func3, Tryd.ntmps3
        go_wp2_with (first
          | (go_at_call 9; refine hord.mono ?_; rintro e w1 ⟨rfl, hB1⟩; clear hord)
          | (go_at_call 10; refine (hkn.out w1 hB1).mono ?_; rintro e w2 ⟨p2, c2, rfl, hR2, hb2⟩; have hB2 : Below w.heap.size w w2 := hB1.trans (hb2.mono hB1.size); clear hkn)
          | (go_at_call 11; refine (hre.out w2 hB2).mono ?_; rintro e w3 ⟨p3, c3, rfl, hR3, hb3⟩; have hB3 : Below w.heap.size w w3 := hB2.trans (hb3.mono hB2.size); clear hre)
          | (go_at_call 12; refine (hfa.out w3 hB3).mono ?_; rintro e w4 ⟨rfl, hb4⟩; have hB4 : Below w.heap.size w w4 := hB3.trans (hb4.mono hB3.size); clear hfa)
          | (go_at_call 13; refine (hck.out w4 hB4).mono ?_; rintro e w5 ⟨rfl, hb5⟩; have hB5 : Below w.heap.size w w5 := hB4.trans (hb5.mono hB4.size); clear hck)
          | (go_at_call 14; refine (hkd.out w5 hB5).mono ?_; rintro e w6 ⟨p6, c6, rfl, hR6, hb6⟩; have hB6 : Below w.heap.size w w6 := hB5.trans (hb6.mono hB5.size); clear hkd; have heq := equal_i hmH.out (row_below (row_below (row_below (row_below hR2 hb3) hb4) hb5) hb6) hR6 hlK.out)
          | (go_at_call 15; refine heq.mono ?_; rintro e w7 ⟨rfl, hb7⟩; have hB7 : Below w.heap.size w w7 := hB6.trans (hb7.mono hB6.size); clear heq hR2 hR6; have hR37 := row_below (row_below (row_below (row_below hR3 hb4) hb5) hb6) hb7; clear hR3)
          | (go_at_call 18; refine (hbh w7 hB7).mono ?_; rintro e w10 ⟨rfl, hR10, hb10⟩; clear hbh; have hB10 : Below w.heap.size w w10 := hB7.trans (hb10.mono hB7.size); have hwh := which_any hR10 hN60.out)
          | (go_at_call 17; refine hwh.mono ?_; rintro e w11 ⟨p11, c11, rfl, hR11, hb11⟩; clear hwh; have hB11 : Below w.heap.size w w11 := hB10.trans (hb11.mono hB10.size); have heq3 := equal_i rfl (row_below (row_below hR37 hb10) hb11) hR11 hlR.out)
          | (go_at_call 15; refine heq3.mono ?_; rintro e w12 ⟨rfl, hb12⟩; have hB12 : Below w.heap.size w w12 := hB11.trans (hb12.mono hB11.size); clear heq3)
          | go_in)
        go_ret
        exact ⟨by first | rfl | simp, hB12⟩
      · by_cases hk1 : k < 0
        · have hord := hono hcy
          have hm0 : (0 : Int) < (m : Int) := by have := hkc.1 hcy; omega
          clear hkc hono hoyes hacc hcy
          obtain ⟨hE3, hL3⟩ := hre4.out hk
          subst hE3
          subst hL3
          have hz0 : ([] : List Nat).length = 0 := rfl
          rw [hz0] at hre
          clear hbe hz0
          clear hre0 hre4 hk
          go_enter Tryd.func3, Tryd.ntmps3
          go_wp2_with (first
            | (go_at_call 9; refine hord.mono ?_; rintro e w1 ⟨rfl, hB1⟩; clear hord)
            | (go_at_call 10; refine (hkn.out w1 hB1).mono ?_; rintro e w2 ⟨p2, c2, rfl, hR2, hb2⟩; have hB2 : Below w.heap.size w w2 := hB1.trans (hb2.mono hB1.size); clear hkn)
            | (go_at_call 11; refine (hre.out w2 hB2).mono ?_; rintro e w3 ⟨p3, c3, rfl, hR3, hb3⟩; have hB3 : Below w.heap.size w w3 := hB2.trans (hb3.mono hB2.size); clear hre)
            | (go_at_call 12; refine (hfa.out w3 hB3).mono ?_; rintro e w4 ⟨rfl, hb4⟩; have hB4 : Below w.heap.size w w4 := hB3.trans (hb4.mono hB3.size); clear hfa)
            | (go_at_call 13; refine (hck.out w4 hB4).mono ?_; rintro e w5 ⟨rfl, hb5⟩; have hB5 : Below w.heap.size w w5 := hB4.trans (hb5.mono hB4.size); clear hck)
            | (go_at_call 14; refine (hkd.out w5 hB5).mono ?_; rintro e w6 ⟨p6, c6, rfl, hR6, hb6⟩; have hB6 : Below w.heap.size w w6 := hB5.trans (hb6.mono hB5.size); clear hkd; have heq := equal_i hmH.out (row_below (row_below (row_below (row_below hR2 hb3) hb4) hb5) hb6) hR6 hlK.out)
            | (go_at_call 15; refine heq.mono ?_; rintro e w7 ⟨rfl, hb7⟩; have hB7 : Below w.heap.size w w7 := hB6.trans (hb7.mono hB6.size); clear heq hR2 hR6; have hR37 := row_below (row_below (row_below (row_below hR3 hb4) hb5) hb6) hb7; clear hR3)
            | go_in)
          go_ret
          exact ⟨by first | rfl | simp, hB7⟩
        · have hk2 : (N : Int) ≤ k := by omega
          have hord := hono hcy
          have hm0 : (0 : Int) < (m : Int) := by have := hkc.1 hcy; omega
          clear hkc hono hoyes hacc hcy
          obtain ⟨hE3, hL3⟩ := hre4.out hk
          subst hE3
          subst hL3
          have hz0 : ([] : List Nat).length = 0 := rfl
          rw [hz0] at hre
          clear hbe hz0
          clear hre0 hre4 hk
          go_enter Tryd.func3, Tryd.ntmps3
          go_wp2_with (first
            | (go_at_call 9; refine hord.mono ?_; rintro e w1 ⟨rfl, hB1⟩; clear hord)
            | (go_at_call 10; refine (hkn.out w1 hB1).mono ?_; rintro e w2 ⟨p2, c2, rfl, hR2, hb2⟩; have hB2 : Below w.heap.size w w2 := hB1.trans (hb2.mono hB1.size); clear hkn)
            | (go_at_call 11; refine (hre.out w2 hB2).mono ?_; rintro e w3 ⟨p3, c3, rfl, hR3, hb3⟩; have hB3 : Below w.heap.size w w3 := hB2.trans (hb3.mono hB2.size); clear hre)
            | (go_at_call 12; refine (hfa.out w3 hB3).mono ?_; rintro e w4 ⟨rfl, hb4⟩; have hB4 : Below w.heap.size w w4 := hB3.trans (hb4.mono hB3.size); clear hfa)
            | (go_at_call 13; refine (hck.out w4 hB4).mono ?_; rintro e w5 ⟨rfl, hb5⟩; have hB5 : Below w.heap.size w w5 := hB4.trans (hb5.mono hB4.size); clear hck)
            | (go_at_call 14; refine (hkd.out w5 hB5).mono ?_; rintro e w6 ⟨p6, c6, rfl, hR6, hb6⟩; have hB6 : Below w.heap.size w w6 := hB5.trans (hb6.mono hB5.size); clear hkd; have heq := equal_i hmH.out (row_below (row_below (row_below (row_below hR2 hb3) hb4) hb5) hb6) hR6 hlK.out)
            | (go_at_call 15; refine heq.mono ?_; rintro e w7 ⟨rfl, hb7⟩; have hB7 : Below w.heap.size w w7 := hB6.trans (hb7.mono hB6.size); clear heq hR2 hR6; have hR37 := row_below (row_below (row_below (row_below hR3 hb4) hb5) hb6) hb7; clear hR3)
            | go_in)
          go_ret
          exact ⟨by first | rfl | simp, hB7⟩
    · by_cases hk : 0 ≤ k ∧ k < N
      · have hord := hoyes (fun i hi => hcy ⟨i, hi⟩)
        have hin := hacc.out hcy
        have hm00 : m = 0 := by have : ¬ 0 < m := fun x => hcy (hkc.2 x); omega
        have hm0 : ¬ (0 : Int) < ((0 : Nat) : Int) := by omega
        subst hm00
        clear hkc hono hoyes hacc hcy hm0
        obtain ⟨I, rfl⟩ : ∃ I : Nat, k = I := ⟨k.toNat, by omega⟩
        obtain ⟨hE3, hL3⟩ := hre0.out hk
        rw [Int.toNat_natCast] at hL3
        have hIN : Hid (I < N) := by show _ < _; omega
        have hk1 : ¬ (I : Int) < 0 := by omega
        have hk2 : ¬ (N : Int) ≤ (I : Int) := by omega
        have hbh := fun w2 hb => hbe.out w2 I hb hIN.out
        subst hE3
        subst hL3
        clear hre0 hre4 hk
        clear hbe
        go_enter Tryd.func3, Tryd.ntmps3
        go_wp2_with (first
          | (go_at_call 9; refine hord.mono ?_; rintro e w1 ⟨R, p1, c1, rfl, ⟨hR1, hRN, hGr, hall1⟩, hB1⟩; clear hord hall1; have hR1H : Hid (World.ownsRow w1 w.heap.size 3 1 (.slice p1 N c1) N (ints R)) := hR1; have hRNH : Hid (R.length = N ∧ Grd (eB l) N R) := ⟨hRN, hGr⟩; clear hR1 hRN hGr)
          | (go_at_call 10; refine (hkn.out w1 hB1).mono ?_; rintro e w2 ⟨p2, c2, rfl, hR2, hb2⟩; have hB2 : Below w.heap.size w w2 := hB1.trans (hb2.mono hB1.size); clear hkn)
          | (go_at_call 11; refine (hre.out w2 hB2).mono ?_; rintro e w3 ⟨p3, c3, rfl, hR3, hb3⟩; have hB3 : Below w.heap.size w w3 := hB2.trans (hb3.mono hB2.size); clear hre)
          | (go_at_call 12; refine (hfa.out w3 hB3).mono ?_; rintro e w4 ⟨rfl, hb4⟩; have hB4 : Below w.heap.size w w4 := hB3.trans (hb4.mono hB3.size); clear hfa)
          | (go_at_call 13; refine (hck.out w4 hB4).mono ?_; rintro e w5 ⟨rfl, hb5⟩; have hB5 : Below w.heap.size w w5 := hB4.trans (hb5.mono hB4.size); clear hck)
          | (go_at_call 14; refine (hkd.out w5 hB5).mono ?_; rintro e w6 ⟨p6, c6, rfl, hR6, hb6⟩; have hB6 : Below w.heap.size w w6 := hB5.trans (hb6.mono hB5.size); clear hkd; have heq := equal_i hmH.out (row_below (row_below (row_below (row_below hR2 hb3) hb4) hb5) hb6) hR6 hlK.out)
          | (go_at_call 15; refine heq.mono ?_; rintro e w7 ⟨rfl, hb7⟩; have hB7 : Below w.heap.size w w7 := hB6.trans (hb7.mono hB6.size); clear heq hR2 hR6; have hR37 := row_below (row_below (row_below (row_below hR3 hb4) hb5) hb6) hb7; clear hR3)
          | (go_at_call 16; refine (hin w7 hB7).mono ?_; rintro e w8 ⟨R8, p8, c8, rfl, ⟨hR8, hR8N, hGr8⟩, hb8⟩; clear hin; have hB8 : Below w.heap.size w w8 := hB7.trans (hb8.mono hB7.size); obtain rfl : R = R8 := hRNH.out.2.det hGr8 (hRNH.out.1.trans hR8N.symm); have heq2 := equal_i hRNH.out.1 (row_below (row_below (row_below (row_below (row_below (row_below (row_below hR1H.out hb2) hb3) hb4) hb5) hb6) hb7) hb8) hR8 (Nat.le_trans hN60.out (by omega)); clear hR8N hGr8 hR8)
          | (go_at_call 15; refine heq2.mono ?_; rintro e w9 ⟨rfl, hb9⟩; have hB9 : Below w.heap.size w w9 := hB8.trans (hb9.mono hB8.size); clear heq2; have hR39 := row_below (row_below hR37 hb8) hb9)
          | (go_at_call 18; refine (hbh w9 hB9).mono ?_; rintro e w10 ⟨rfl, hR10, hb10⟩; clear hbh; have hB10 : Below w.heap.size w w10 := hB9.trans (hb10.mono hB9.size); have hwh := which_any hR10 hN60.out)
          | (go_at_call 17; refine hwh.mono ?_; rintro e w11 ⟨p11, c11, rfl, hR11, hb11⟩; clear hwh; have hB11 : Below w.heap.size w w11 := hB10.trans (hb11.mono hB10.size); have heq3 := equal_i rfl (row_below (row_below hR39 hb10) hb11) hR11 hlR.out)
          | (go_at_call 15; refine heq3.mono ?_; rintro e w12 ⟨rfl, hb12⟩; have hB12 : Below w.heap.size w w12 := hB11.trans (hb12.mono hB11.size); clear heq3)
          | go_in)
        go_ret
        exact ⟨by first | rfl | simp, hB12⟩
      · by_cases hk1 : k < 0
        · have hord := hoyes (fun i hi => hcy ⟨i, hi⟩)
          have hin := hacc.out hcy
          have hm00 : m = 0 := by have : ¬ 0 < m := fun x => hcy (hkc.2 x); omega
          have hm0 : ¬ (0 : Int) < ((0 : Nat) : Int) := by omega
          subst hm00
          clear hkc hono hoyes hacc hcy hm0
          obtain ⟨hE3, hL3⟩ := hre4.out hk
          subst hE3
          subst hL3
          have hz0 : ([] : List Nat).length = 0 := rfl
          rw [hz0] at hre
          clear hbe hz0
          clear hre0 hre4 hk
          go_enter Tryd.func3, Tryd.ntmps3
          go_wp2_with (first
            | (go_at_call 9; refine hord.mono ?_; rintro e w1 ⟨R, p1, c1, rfl, ⟨hR1, hRN, hGr, hall1⟩, hB1⟩; clear hord hall1; have hR1H : Hid (World.ownsRow w1 w.heap.size 3 1 (.slice p1 N c1) N (ints R)) := hR1; have hRNH : Hid (R.length = N ∧ Grd (eB l) N R) := ⟨hRN, hGr⟩; clear hR1 hRN hGr)
            | (go_at_call 10; refine (hkn.out w1 hB1).mono ?_; rintro e w2 ⟨p2, c2, rfl, hR2, hb2⟩; have hB2 : Below w.heap.size w w2 := hB1.trans (hb2.mono hB1.size); clear hkn)
            | (go_at_call 11; refine (hre.out w2 hB2).mono ?_; rintro e w3 ⟨p3, c3, rfl, hR3, hb3⟩; have hB3 : Below w.heap.size w w3 := hB2.trans (hb3.mono hB2.size); clear hre)
            | (go_at_call 12; refine (hfa.out w3 hB3).mono ?_; rintro e w4 ⟨rfl, hb4⟩; have hB4 : Below w.heap.size w w4 := hB3.trans (hb4.mono hB3.size); clear hfa)
            | (go_at_call 13; refine (hck.out w4 hB4).mono ?_; rintro e w5 ⟨rfl, hb5⟩; have hB5 : Below w.heap.size w w5 := hB4.trans (hb5.mono hB4.size); clear hck)
            | (go_at_call 14; refine (hkd.out w5 hB5).mono ?_; rintro e w6 ⟨p6, c6, rfl, hR6, hb6⟩; have hB6 : Below w.heap.size w w6 := hB5.trans (hb6.mono hB5.size); clear hkd; have heq := equal_i hmH.out (row_below (row_below (row_below (row_below hR2 hb3) hb4) hb5) hb6) hR6 hlK.out)
            | (go_at_call 15; refine heq.mono ?_; rintro e w7 ⟨rfl, hb7⟩; have hB7 : Below w.heap.size w w7 := hB6.trans (hb7.mono hB6.size); clear heq hR2 hR6; have hR37 := row_below (row_below (row_below (row_below hR3 hb4) hb5) hb6) hb7; clear hR3)
            | (go_at_call 16; refine (hin w7 hB7).mono ?_; rintro e w8 ⟨R8, p8, c8, rfl, ⟨hR8, hR8N, hGr8⟩, hb8⟩; clear hin; have hB8 : Below w.heap.size w w8 := hB7.trans (hb8.mono hB7.size); obtain rfl : R = R8 := hRNH.out.2.det hGr8 (hRNH.out.1.trans hR8N.symm); have heq2 := equal_i hRNH.out.1 (row_below (row_below (row_below (row_below (row_below (row_below (row_below hR1H.out hb2) hb3) hb4) hb5) hb6) hb7) hb8) hR8 (Nat.le_trans hN60.out (by omega)); clear hR8N hGr8 hR8)
            | (go_at_call 15; refine heq2.mono ?_; rintro e w9 ⟨rfl, hb9⟩; have hB9 : Below w.heap.size w w9 := hB8.trans (hb9.mono hB8.size); clear heq2; have hR39 := row_below (row_below hR37 hb8) hb9)
            | go_in)
          go_ret
          exact ⟨by first | rfl | simp, hB9⟩
        · have hk2 : (N : Int) ≤ k := by omega
          have hord := hoyes (fun i hi => hcy ⟨i, hi⟩)
          have hin := hacc.out hcy
          have hm00 : m = 0 := by have : ¬ 0 < m := fun x => hcy (hkc.2 x); omega
          have hm0 : ¬ (0 : Int) < ((0 : Nat) : Int) := by omega
          subst hm00
          clear hkc hono hoyes hacc hcy hm0
          obtain ⟨hE3, hL3⟩ := hre4.out hk
          subst hE3
          subst hL3
          have hz0 : ([] : List Nat).length = 0 := rfl
          rw [hz0] at hre
          clear hbe hz0
          clear hre0 hre4 hk
          go_enter Tryd.func3, Tryd.ntmps3
          go_wp2_with (first
            | (go_at_call 9; refine hord.mono ?_; rintro e w1 ⟨R, p1, c1, rfl, ⟨hR1, hRN, hGr, hall1⟩, hB1⟩; clear hord hall1; have hR1H : Hid (World.ownsRow w1 w.heap.size 3 1 (.slice p1 N c1) N (ints R)) := hR1; have hRNH : Hid (R.length = N ∧ Grd (eB l) N R) := ⟨hRN, hGr⟩; clear hR1 hRN hGr)
            | (go_at_call 10; refine (hkn.out w1 hB1).mono ?_; rintro e w2 ⟨p2, c2, rfl, hR2, hb2⟩; have hB2 : Below w.heap.size w w2 := hB1.trans (hb2.mono hB1.size); clear hkn)
            | (go_at_call 11; refine (hre.out w2 hB2).mono ?_; rintro e w3 ⟨p3, c3, rfl, hR3, hb3⟩; have hB3 : Below w.heap.size w w3 := hB2.trans (hb3.mono hB2.size); clear hre)
            | (go_at_call 12; refine (hfa.out w3 hB3).mono ?_; rintro e w4 ⟨rfl, hb4⟩; have hB4 : Below w.heap.size w w4 := hB3.trans (hb4.mono hB3.size); clear hfa)
            | (go_at_call 13; refine (hck.out w4 hB4).mono ?_; rintro e w5 ⟨rfl, hb5⟩; have hB5 : Below w.heap.size w w5 := hB4.trans (hb5.mono hB4.size); clear hck)
            | (go_at_call 14; refine (hkd.out w5 hB5).mono ?_; rintro e w6 ⟨p6, c6, rfl, hR6, hb6⟩; have hB6 : Below w.heap.size w w6 := hB5.trans (hb6.mono hB5.size); clear hkd; have heq := equal_i hmH.out (row_below (row_below (row_below (row_below hR2 hb3) hb4) hb5) hb6) hR6 hlK.out)
            | (go_at_call 15; refine heq.mono ?_; rintro e w7 ⟨rfl, hb7⟩; have hB7 : Below w.heap.size w w7 := hB6.trans (hb7.mono hB6.size); clear heq hR2 hR6; have hR37 := row_below (row_below (row_below (row_below hR3 hb4) hb5) hb6) hb7; clear hR3)
            | (go_at_call 16; refine (hin w7 hB7).mono ?_; rintro e w8 ⟨R8, p8, c8, rfl, ⟨hR8, hR8N, hGr8⟩, hb8⟩; clear hin; have hB8 : Below w.heap.size w w8 := hB7.trans (hb8.mono hB7.size); obtain rfl : R = R8 := hRNH.out.2.det hGr8 (hRNH.out.1.trans hR8N.symm); have heq2 := equal_i hRNH.out.1 (row_below (row_below (row_below (row_below (row_below (row_below (row_below hR1H.out hb2) hb3) hb4) hb5) hb6) hb7) hb8) hR8 (Nat.le_trans hN60.out (by omega)); clear hR8N hGr8 hR8)
            | (go_at_call 15; refine heq2.mono ?_; rintro e w9 ⟨rfl, hb9⟩; have hB9 : Below w.heap.size w w9 := hB8.trans (hb9.mono hB8.size); clear heq2; have hR39 := row_below (row_below hR37 hb8) hb9)
            | go_in)
          go_ret
          exact ⟨by first | rfl | simp, hB9⟩
  · have hord := order_bad (cap := cap) h h0
    have hkn : Hid (∀ w2, Below w.heap.size w w2 → _) := fun w2 hb => knot_bad (cap := cap) (hEb.out w2 hb) h0
    have hre : Hid (∀ w2, Below w.heap.size w w2 → _) := fun w2 hb => reach_bad (cap := cap) (from_ := k) (hEb.out w2 hb) h0
    have hc0 : (chk n l == 0) = false := by simpa using h0
    have hc1 : (chk n l != 0) = true := by simpa using h0
    generalize chk n l = x at *
    have hxx : (x == x) = true := by simp
    have hxn : (x != x) = false := by simp
    clear h0 h hZ hZb hEb
    go_enter Tryd.func3, Tryd.ntmps3
    go_wp2_with (first
      | (go_at_call 9; refine hord.mono ?_; rintro e w1 ⟨rfl, hB1⟩; clear hord)
      | (go_at_call 10; refine (hkn.out w1 hB1).mono ?_; rintro e w2 ⟨rfl, hb2⟩; have hB2 : Below w.heap.size w w2 := hB1.trans (hb2.mono hB1.size); clear hkn)
      | (go_at_call 11; refine (hre.out w2 hB2).mono ?_; rintro e w3 ⟨rfl, hb3⟩; have hB3 : Below w.heap.size w w3 := hB2.trans (hb3.mono hB2.size); clear hre)
      | (go_at_call 12; refine (hfa.out w3 hB3).mono ?_; rintro e w4 ⟨rfl, hb4⟩; have hB4 : Below w.heap.size w w4 := hB3.trans (hb4.mono hB3.size); clear hfa)
      | (go_at_call 13; refine (hck.out w4 hB4).mono ?_; rintro e w5 ⟨rfl, hb5⟩; have hB5 : Below w.heap.size w w5 := hB4.trans (hb5.mono hB4.size); clear hck)
      | go_in)
    go_ret
    exact ⟨rfl, hB5⟩
end Go.Proofs.YtncjnmlgkhngaaaDoor
