/- GraphTurn, walked. -/
import Derived.Test.YtgcdifpkfpgafaaDoorGtm
namespace Go.Proofs.YtgcdifpkfpgafaaDoor
open Go.RowKit Gm
set_option linter.unusedSectionVars false

theorem wrap_succB {i : Nat} (h : i ≤ 10000000000000) : wrap64 ((i : Int) + 1) = ((i + 1 : Nat) : Int) := by unfold wrap64; omega
theorem meas_wB {n i : Nat} (hi : i < n) (h : i ≤ 10000000000000) : n - (intOf (.int .i64 (wrap64 ((i : Int) + 1)))).toNat < n - (intOf (.int .i64 (i : Int))).toNat := by
  rw [wrap_succB h]
  simp [intOf]
  omega
theorem int_wsuccB {i : Nat} (h : i ≤ 10000000000000) : Value.int .i64 (wrap64 ((i : Int) + 1)) = .int .i64 ((i + 1 : Nat) : Int) := by rw [wrap_succB h]
theorem owns_base {w : World} {B B' : Nat} {e : TypeId} {k : Nat} {v : Value} {n : Nat} {xs : List Value} (h : w.ownsRow B e k v n xs) (hB : B' ≤ B) : w.ownsRow B' e k v n xs :=
  ⟨h.1, h.2.imp id fun ⟨g, cap, cur, hv, hb, r⟩ => ⟨g, cap, cur, hv, Nat.le_trans hB hb, r⟩⟩

set_option maxHeartbeats 2000000 in
set_option maxRecDepth 100000 in
theorem graphTurn_walk (n : Int) (q : Option Addr) (l : List Ed) (cap : Nat) (i k : Int) (w : World) (hZ : TabZ w) (h : Eds w q l) (hlen : l.length ≤ 8796093022000) :
    Calls Tryd.prog 8 #[.int .i64 n, .slice q l.length cap, .int .i64 i, .int .i64 k] w fun e w' => e = .returned (.bool true) ∧ Below w.heap.size w w' := by
  have hE : Hid (∀ w1, Below w.heap.size w w1 → Eds w1 q l) := fun w1 hb => h.below hb (Nat.le_refl _)
  have hZb : Hid (∀ w1, Below w.heap.size w w1 → TabZ w1) := fun w1 hb => hZ.below hb (Nat.le_refl _)
  have hgs := graphs_any w hZ
  have hlH : Hid (l.length ≤ 8796093022000) := hlen
  clear h hZ hlen
  go_enter Tryd.func8, Tryd.ntmps8
  go_wp2_with (first
    | (go_at_call 24; refine hgs.mono ?_; rintro e w1 ⟨rfl, hb1⟩; clear hgs)
    | go_in)
  have hb1H : Hid (Below w.heap.size w w1) := hb1
  clear hb1
  go_loopw [9, 24] (fun mv iv wr => ∃ (j : Nat) (p : Option Addr) (c : Nat), mv = .slice p j c ∧ iv = .int .i64 j ∧ j ≤ l.length ∧ wr.ownsRow w1.heap.size 41 2 (.slice p j c) j (flatE ((trn l).take j)) ∧ Below w1.heap.size w1 wr)
    (fun _ iv _ => l.length - (intOf iv).toNat)
  case atStart => exact ⟨0, _, _, rfl, rfl, Nat.zero_le _, World.ownsRow_nil _ _ _ _, Below.refl _ _⟩
  case round =>
    obtain ⟨j, p, c, rfl, rfl, hjl, hown, hbl⟩ := hrel
    have hBl : Below w.heap.size w wr := hb1H.out.trans (hbl.mono hb1H.out.size)
    by_cases hj : j < l.length
    · rcases hE.out wr hBl with hh0 | ⟨b, o, rfl, hAr⟩
      · omega
      have z0 := hAr.cf j hj
      have z1 := hAr.ct j hj
      have hsn : Hid (flatE ((trn l).take (j + 1)) = flatE ((trn l).take j) ++ [.int .i64 (ed l j).t, .int .i64 (ed l j).f]) := by
        show _ = _
        rw [take_snoc (by rw [trn_len]; exact hj), flatE_snoc, trn_get hj]
      have hji : (j : Int) < (l.length : Int) := by omega
      have hj2 : Hid (j < 8796093022000) := Nat.lt_of_lt_of_le hj hlH.out
      have hszw := hbl.size
      generalize (ed l j).f = F at *
      generalize (ed l j).t = T at *
      have hownA := hown.alloc (.cells #[.int .i64 F, .int .i64 T] 41)
      have hblA : Below w1.heap.size w1 (wr.alloc (.cells #[.int .i64 F, .int .i64 T] 41)) := hbl.alloc hbl.size _
      have hn := heap_alloc_new wr (.cells #[.int .i64 F, .int .i64 T] 41)
      have hszA : w1.heap.size ≤ (wr.alloc (.cells #[.int .i64 F, .int .i64 T] 41)).heap.size := hblA.size
      clear hAr hE hBl hown hbl
      go_wp2_with (first
        | (at_builtin; (obtain ⟨i0, hi, hz0, hz1, hz2⟩ := info_parts info_edge; refine wpList_append_own _ rfl _ _ 22 rfl w1.heap.size 41 i0 (.agg #[.int .i64 0, .int .i64 0]) 2 16 Tryd.underlying22 hi hz0 hz1 hz2 rfl (by decide) _ _ _ rfl (hownA.alloc _) ⟨wr.heap.size + 1, 0, none⟩ 1 1 [.int .i64 T, .int .i64 F] rfl rfl (by have := cells_new (wr.alloc (.cells #[.int .i64 F, .int .i64 T] 41)) [.int .i64 T, .int .i64 F] 41; rw [World.size_alloc] at this; exact this) (fun v hv => by simp at hv; rcases hv with rfl | rfl <;> rfl) (by unfold maxLen; have := hj2.out; omega) (by have := hj2.out; omega) (by simp; omega) ?_; intro v' w5 hown5 hgrow5 hnil5; clear hi hz0 hz1 hz2 hnil5; obtain ⟨g5, cap5, rfl⟩ := form_succ hown5))
        | go_in)
      have hgA : ((wr.alloc (.cells #[.int .i64 F, .int .i64 T] 41)).alloc (.cells #[.int .i64 T, .int .i64 F] 41)).grownBy w5 (Value.ownBlock (.slice p j c)) := hgrow5
      refine ⟨⟨j + 1, _, cap5, rfl, ?_, hj, ?_, ?_⟩, ?_⟩
      · have := hj2.out
        first | exact int_succ j | exact int_wsuccB (by omega)
      · rw [hsn.out]; exact hown5
      · exact below_app hblA hownA hgA (Nat.le_refl _) hszA
      · have := hj2.out
        first | exact meas_1 hj | exact meas_wB hj (by omega)
    · have hji : ¬ (j : Int) < (l.length : Int) := by omega
      have e : j = l.length := by omega
      subst e
      rw [List.take_of_length_le (by rw [trn_len]; exact Nat.le_refl _)] at hown
      have hT : Hid (∀ w2, Below wr.heap.size wr w2 → Eds w2 p (trn l)) := fun w2 hb => (eds_row hown (trn_len l)).below hb (Nat.le_refl _)
      have hBlH : Hid (Below w.heap.size w wr) := hBl
      have hEr : Hid (∀ w2, Below wr.heap.size wr w2 → Eds w2 q l) := fun w2 hb => hE.out w2 (hBlH.out.trans (hb.mono hBlH.out.size))
      have hZr : Hid (∀ w2, Below wr.heap.size wr w2 → TabZ w2) := fun w2 hb => hZb.out w2 (hBlH.out.trans (hb.mono hBlH.out.size))
      have ho1 : Hid (∀ w2, Below wr.heap.size wr w2 → _) := fun w2 hb => order_e (n := n) (cap := cap) (hEr.out w2 hb) (hZr.out w2 hb)
      have ho2 : Hid (∀ w2, Below wr.heap.size wr w2 → _) := fun w2 hb => order_e (n := n) (cap := c) (hT.out w2 hb) (hZr.out w2 hb)
      have hr1 : Hid (∀ w2, Below wr.heap.size wr w2 → _) := fun w2 hb => reach_e (n := n) (i := i) (cap := cap) (hEr.out w2 hb) (hZr.out w2 hb)
      have hr2 : Hid (∀ w2, Below wr.heap.size wr w2 → _) := fun w2 hb => reach_e (n := n) (i := k) (cap := c) (hT.out w2 hb) (hZr.out w2 hb)
      rw [oe_trn, trn_len] at ho2
      rw [trn_len] at hr2
      have hA : Hid (re n l i = 0 → re n (trn l) k = 0 → ((∃ j ∈ rl n l i, (j : Int) = k) ↔ ∃ j ∈ rl n (trn l) k, (j : Int) = i)) := rl_trn
      have hl1 : Hid ((rl n l i).length ≤ 60) := rl_len _ _ _
      have hl2 : Hid ((rl n (trn l) k).length ≤ 60) := rl_len _ _ _
      clear hE hZb hT hEr hZr hown hbl hBl hlH hb1H
      generalize oe n l = E0 at *
      generalize re n l i = E1 at *
      generalize re n (trn l) k = E2 at *
      generalize rl n l i = L1 at *
      generalize rl n (trn l) k = L2 at *
      have hLe1 : Hid (∃ n1, L1.length = n1) := ⟨_, rfl⟩
      have hLe2 : Hid (∃ n1, L2.length = n1) := ⟨_, rfl⟩
      obtain ⟨n1, hn1⟩ := hLe1.out
      obtain ⟨n2, hn2⟩ := hLe2.out
      rw [hn1] at hr1 hl1
      rw [hn2] at hr2 hl2
      have hn1H : Hid (L1.length = n1) := hn1
      have hn2H : Hid (L2.length = n2) := hn2
      clear hn1 hn2 hLe1 hLe2
      have hBo : Below wr.heap.size wr wr := Below.refl _ _
      by_cases hgd : E1 = 0 ∧ E2 = 0
      all_goals
        have hgood : Hid (∀ w5 : World, Calls Tryd.prog 25 #[.slice (some ⟨w5.heap.size, 0, none⟩) 2 2] (w5.alloc (.cells #[.int .i64 E1, .int .i64 E2] 24)) fun e w' => e = .returned (.bool (decide (E1 = 0 ∧ E2 = 0))) ∧ w' = w5.alloc (.cells #[.int .i64 E1, .int .i64 E2] 24)) := fun w5 => good2 _ E1 E2 _ ((cell_of_row _ _ 0 _ _ _ (heap_alloc_new w5 _)).trans rfl) ((cell_of_row _ _ 1 _ _ _ (heap_alloc_new w5 _)).trans rfl)
      · rw [decide_eq_true hgd] at hgood
        have hAA : Hid ((∃ j ∈ L1, (j : Int) = k) ↔ ∃ j ∈ L2, (j : Int) = i) := hA.out hgd.1 hgd.2
        obtain ⟨rfl, rfl⟩ := hgd
        clear hA
        go_wp2_with (first
          | (go_at_call 9; refine (ho1.out _ hBo).mono ?_; rintro e w2 ⟨p2, k2, c2, rfl, hb2⟩; clear ho1)
          | (go_at_call 9; refine (ho2.out w2 hb2).mono ?_; rintro e w3 ⟨p3, k3, c3, rfl, hb3⟩; have hB3 : Below wr.heap.size wr w3 := hb2.trans (hb3.mono hb2.size); clear ho2)
          | (go_at_call 11; refine (hr1.out w3 hB3).mono ?_; rintro e w4 ⟨p4, c4, rfl, hR4, hb4⟩; have hB4 : Below wr.heap.size wr w4 := hB3.trans (hb4.mono hB3.size); have hR4H : Hid (w4.ownsRow w3.heap.size 3 1 (.slice p4 n1 c4) n1 (ints L1)) := hR4; clear hr1 hR4)
          | (go_at_call 11; refine (hr2.out w4 hB4).mono ?_; rintro e w5 ⟨p5, c5, rfl, hR5, hb5⟩; have hB5 : Below wr.heap.size wr w5 := hB4.trans (hb5.mono hB4.size); have hR5H : Hid (w5.ownsRow w4.heap.size 3 1 (.slice p5 n2 c5) n2 (ints L2)) := hR5; clear hr2 hR5)
          | (go_at_call 25; refine (hgood.out w5).mono ?_; rintro e w' ⟨rfl, rfl⟩; clear hgood; have hBa : Below wr.heap.size wr (w5.alloc (.cells #[.int .i64 0, .int .i64 0] 24)) := hB5.alloc hB5.size _; have hc1 := contains_i k hn1H.out (Nat.le_trans hl1.out (by omega)) ((row_below hR4H.out hb5).alloc (.cells #[.int .i64 0, .int .i64 0] 24)); have hc2 := contains_i i hn2H.out (Nat.le_trans hl2.out (by omega)) (hR5H.out.alloc (.cells #[.int .i64 0, .int .i64 0] 24)); generalize w5.alloc (.cells #[.int .i64 0, .int .i64 0] 24) = wa at *)
          | (go_at_call 26; refine hc1.mono ?_; rintro e w' ⟨⟨z1, rfl, hz1⟩, hw'⟩; have hw'' := hw'.symm; subst hw''; clear hc1; have hz1H : Hid (z1 = true ↔ ∃ j ∈ L1, (j : Int) = k) := hz1; clear hz1)
          | (go_at_call 26; refine hc2.mono ?_; rintro e w' ⟨⟨z2, rfl, hz2⟩, hw'⟩; have hw'' := hw'.symm; subst hw''; clear hc2; obtain rfl : z2 = z1 := Bool.eq_iff_iff.2 (hz2.trans (hAA.out.symm.trans hz1H.out.symm)); clear hz2)
          | go_in)
        go_ret
        exact ⟨by simp, hBlH.out.trans (hBa.mono hBlH.out.size)⟩
      · rw [decide_eq_false hgd] at hgood
        go_wp2_with (first
          | (go_at_call 9; refine (ho1.out _ hBo).mono ?_; rintro e w2 ⟨p2, k2, c2, rfl, hb2⟩; clear ho1)
          | (go_at_call 9; refine (ho2.out w2 hb2).mono ?_; rintro e w3 ⟨p3, k3, c3, rfl, hb3⟩; have hB3 : Below wr.heap.size wr w3 := hb2.trans (hb3.mono hb2.size); clear ho2)
          | (go_at_call 11; refine (hr1.out w3 hB3).mono ?_; rintro e w4 ⟨p4, c4, rfl, hR4, hb4⟩; have hB4 : Below wr.heap.size wr w4 := hB3.trans (hb4.mono hB3.size); have hR4H : Hid (w4.ownsRow w3.heap.size 3 1 (.slice p4 n1 c4) n1 (ints L1)) := hR4; clear hr1 hR4)
          | (go_at_call 11; refine (hr2.out w4 hB4).mono ?_; rintro e w5 ⟨p5, c5, rfl, hR5, hb5⟩; have hB5 : Below wr.heap.size wr w5 := hB4.trans (hb5.mono hB4.size); have hR5H : Hid (w5.ownsRow w4.heap.size 3 1 (.slice p5 n2 c5) n2 (ints L2)) := hR5; clear hr2 hR5)
          | (go_at_call 25; refine (hgood.out w5).mono ?_; rintro e w' ⟨rfl, rfl⟩; clear hgood)
          | go_in)
        go_ret
        exact ⟨rfl, hBlH.out.trans ((hB5.alloc hB5.size _).mono hBlH.out.size)⟩
end Go.Proofs.YtgcdifpkfpgafaaDoor
