/- The reference's TimesFault, SameNumbers, SamePlan. -/
import Derived.Test.YtknhbpnbbnjioaaDoorPal
import Derived.Test.YtknhbpnbbnjioaaDoorGfa
import Derived.Test.YtknhbpnbbnjioaaDoorGwk
namespace Go.Proofs.YtknhbpnbbnjioaaDoor
open Go.RowKit Gm Pm
set_option linter.unusedSectionVars false
set_option linter.unusedVariables false

set_option maxHeartbeats 2000000 in
set_option maxRecDepth 100000 in
theorem timesFault_any {n : Int} {w : World} {q pd : Option Addr} {l : List Ed} {d : List Int} {cap cd : Nat} (h : Eds w q l) (hd : Nums w pd d) :
    Calls Tryd.prog 7 #[.int .i64 n, .slice q l.length cap, .slice pd d.length cd] w fun e w' => e = .returned (.int .i64 (pe n l d)) ∧ Below w.heap.size w w' := by
  have hfa := fault_any (cap := cap) n h
  by_cases h0 : chk n l = 0
  · obtain ⟨hn0, hn60, hl4, _⟩ := chk_ok h0
    obtain ⟨N, rfl⟩ : ∃ N : Nat, n = N := ⟨n.toNat, by omega⟩
    have hgr : Gr N l := by have h3 := chk_gr h0; rwa [Int.toNat_natCast] at h3
    rw [h0] at hfa
    by_cases h1 : (d.length : Int) = N
    · have hdN : d.length = N := by omega
      have hdNH : Hid (d.length = N) := hdN
      have hdb : Hid (∀ w1, Below w.heap.size w w1 → Nums w1 pd d) := fun w1 hb => hd.below hb (Nat.le_refl _)
      have hkd : Hid (∀ w1, Below w.heap.size w w1 → _) := fun w1 hb => knotted_any (n := N) (cap := cap) (h.below hb (Nat.le_refl _)) hgr hl4
      have hk60 : bl (fun i => wB l i i) 60 = bl (fun i => wB l i i) N := bl_skip hgr.n60 fun j h1 h2 => by
        cases e : wB l j j
        · rfl
        · have := (rch_lt hgr ((wB_iff hgr).1 e)).2; omega
      have hpe : Hid (pe N l d = if durB d = true then (if 0 < (bl (fun i => wB l i i) N).length then 8 else 0) else 1) := by
        show _ = _
        unfold pe
        rw [if_pos h0, hk60]
        by_cases hdu : durB d = true
        · rw [if_pos ⟨h1, hdu⟩, if_pos hdu]
        · rw [if_neg (fun x => hdu x.2), if_neg hdu]
      have hnH : Hid (N ≤ 60) := hgr.n60
      rw [hdN]
      have hNN : ((N : Int) != (N : Int)) = false := by simp
      generalize hK : (bl (fun i => wB l i i) N) = K at *
      clear h hd h0 h1 hdN hgr hk60 hl4 hn0 hn60 hK
      go_enter Tryd.func7, Tryd.ntmps7
      go_wp2_with (first
        | (go_at_call 22; refine hfa.mono ?_; rintro e w1 ⟨rfl, hB1⟩; clear hfa)
        | go_in)
      go_loopw [23] (fun iv wr => ∃ j : Nat, iv = .int .i64 j ∧ j ≤ N ∧ Hid (durB (d.take j) = true) ∧ wr = w1)
        (fun iv _ => N - (intOf iv).toNat)
      case atStart => exact ⟨0, rfl, Nat.zero_le _, rfl, rfl⟩
      case round =>
        obtain ⟨j, rfl, hjN, hall, rfl⟩ := hrel
        by_cases hj : j < N
        · have hjd : j < d.length := by have := hdNH.out; omega
          have hji : (j : Int) < (N : Int) := by omega
          have hj2 : Hid (j ≤ 100000) := by have := hnH.out; show _ ≤ _; omega
          obtain ⟨b, o, rfl, z0⟩ : ∃ b o, pd = some ⟨b, o, none⟩ ∧ wr.cell? ⟨b, o + j, none⟩ = some (.int .i64 (nm d j)) := by
            rcases hdb.out wr hB1 with h0 | ⟨b, o, e, hA⟩
            · omega
            · exact ⟨b, o, e, hA.c j hjd⟩
          have hyes : Hid (spB (nm d j) = true → durB (d.take (j + 1)) = true) := fun h2 => by
            show List.all _ _ = true
            rw [take_nm hjd, List.all_append, show List.all (d.take j) spB = true from hall.out]
            simp [h2]
          have hno : Hid (spB (nm d j) = false → durB d = false) := fun h2 => by
            show List.all _ _ = false
            rw [List.all_eq_false]
            exact ⟨_, nm_mem hjd, by simp [h2]⟩
          have hB1H : Hid (Below w.heap.size w wr) := hB1
          clear hall hB1 hkd hdb
          have hspd : Hid (∀ x, spB x = decide (0 ≤ x ∧ x ≤ 1000000000)) := fun x => rfl
          generalize nm d j = x at *
          by_cases c1 : x < 0
          · have hdf : Hid (durB d = false) := hno.out (by rw [hspd.out]; simp; omega)
            have he : Hid (pe N l d = 1) := by show _ = _; rw [hpe.out, hdf.out]; rfl
            clear hyes hno hpe
            go_wp2
            go_ret
            rw [he.out]
            exact ⟨rfl, hB1H.out⟩
          by_cases c2 : 1000000000 < x
          · have hdf : Hid (durB d = false) := hno.out (by rw [hspd.out]; simp; omega)
            have he : Hid (pe N l d = 1) := by show _ = _; rw [hpe.out, hdf.out]; rfl
            clear hyes hno hpe
            go_wp2
            go_ret
            rw [he.out]
            exact ⟨rfl, hB1H.out⟩
          have hy2 : Hid (durB (d.take (j + 1)) = true) := hyes.out (by rw [hspd.out]; simp; omega)
          clear hyes hno hpe
          go_wp2
          refine ⟨⟨j + 1, ?_, hj, hy2, by first | rfl | trivial⟩, ?_⟩
          · first | exact int_succ j | exact int_wsucc hj2.out
          · first | exact meas_1 hj | exact meas_w hj hj2.out
        · have hji : ¬ (j : Int) < (N : Int) := by omega
          have hdu : durB d = true := by have := hall.out; rwa [List.take_of_length_le (by have := hdNH.out; omega)] at this
          rw [hdu] at hpe
          have hkr := hkd.out wr hB1
          clear hall hdb hdu
          obtain ⟨m, hm⟩ : ∃ m, K.length = m := ⟨_, rfl⟩
          rw [hm] at hkr hpe
          clear hm
          by_cases hm0 : 0 < m
          · have hmi : (0 : Int) < (m : Int) := by omega
            have he : Hid (pe N l d = 8) := by show _ = _; rw [hpe.out, if_pos rfl, if_pos hm0]
            clear hpe hm0 hkd
            go_wp2_with (first
              | (go_at_call 23; refine hkr.mono ?_; rintro e w3 ⟨p3, c3, rfl, _, hb3⟩; clear hkr)
              | go_in)
            go_ret
            rw [he.out]
            exact ⟨rfl, hB1.trans (hb3.mono hB1.size)⟩
          · have hmi : ¬ (0 : Int) < (m : Int) := by omega
            have he : Hid (pe N l d = 0) := by show _ = _; rw [hpe.out, if_pos rfl, if_neg hm0]
            clear hpe hm0 hkd
            go_wp2_with (first
              | (go_at_call 23; refine hkr.mono ?_; rintro e w3 ⟨p3, c3, rfl, _, hb3⟩; clear hkr)
              | go_in)
            go_ret
            rw [he.out]
            exact ⟨rfl, hB1.trans (hb3.mono hB1.size)⟩
    · have e1 : pe N l d = 1 := by unfold pe; rw [if_pos h0, if_neg (fun x => h1 x.1)]
      have hNN : ((d.length : Int) != (N : Int)) = true := by simpa using h1
      rw [e1]
      clear h hd h0 h1 e1 hgr
      go_enter Tryd.func7, Tryd.ntmps7
      go_wp2_with (first
        | (go_at_call 22; refine hfa.mono ?_; rintro e w1 ⟨rfl, hB1⟩; clear hfa)
        | go_in)
      go_ret
      exact ⟨rfl, hB1⟩
  · have e1 : pe n l d = chk n l := by unfold pe; rw [if_neg h0]
    have hNN : (chk n l != 0) = true := by simpa using h0
    rw [e1]
    clear h hd h0 e1
    generalize chk n l = y at *
    go_enter Tryd.func7, Tryd.ntmps7
    go_wp2_with (first
      | (go_at_call 22; refine hfa.mono ?_; rintro e w1 ⟨rfl, hB1⟩; clear hfa)
      | go_in)
    go_ret
    exact ⟨rfl, hB1⟩

set_option maxHeartbeats 1000000 in
set_option maxRecDepth 100000 in
theorem sameNumbers_yes {w : World} {E : Nat → Int} {n : Nat} {p1 p2 : Option Addr} {c1 c2 B1 B2 : Nat} (h1 : w.ownsRow B1 2 1 (.slice p1 n c1) n (numf E n)) (h2 : w.ownsRow B2 2 1 (.slice p2 n c2) n (numf E n)) (hlen : n ≤ 4000) :
    Calls Tryd.prog 24 #[.slice p1 n c1, .slice p2 n c2] w fun e w' => e = .returned (.bool true) ∧ Below w.heap.size w w' := by
  have hlen' : Hid (n ≤ 4000) := hlen
  clear hlen
  go_enter Tryd.func24, Tryd.ntmps24
  go_wp2
  go_loopw [13] (fun iv wr => ∃ j : Nat, iv = .int .i64 j ∧ j ≤ n ∧ Below w.heap.size w wr)
    (fun iv _ => n - (intOf iv).toNat)
  case atStart => exact ⟨0, rfl, Nat.zero_le _, Below.refl _ _⟩
  case round =>
    obtain ⟨j, rfl, hjl, hbl⟩ := hrel
    have r1 := row_below h1 hbl
    have r2 := row_below h2 hbl
    by_cases hj : j < n
    · obtain ⟨g, rfl, z0, _⟩ := row_num r1 hj
      obtain ⟨g2, rfl, y0, _⟩ := row_num r2 hj
      clear r1 r2 h1 h2
      generalize E j = x at *
      have hji : (j : Int) < (n : Int) := by omega
      have hxx : (x != x) = false := by simp
      go_wp2
      go_quiet (fail)
      go_wp2
      have hj2 : j ≤ 100000 := Nat.le_trans hjl (Nat.le_trans hlen'.out (by decide))
      refine ⟨⟨j + 1, ?_, hj, drewN_below hbl nq⟩, ?_⟩
      · first | exact int_wsucc hj2 | exact int_succ j
      · first | exact meas_w hj hj2 | exact meas_1 hj
    · have hji : ¬ (j : Int) < (n : Int) := by omega
      clear r1 r2 h1 h2
      go_wp2
      go_ret
      exact ⟨rfl, hbl⟩

set_option maxHeartbeats 1000000 in
set_option maxRecDepth 100000 in
theorem samePlan_yes {w : World} {E L : Nat → Int} {n : Nat} {S : Int} {p1 p2 p3 p4 : Option Addr} {c1 c2 c3 c4 B1 B2 B3 B4 : Nat} (h1 : w.ownsRow B1 2 1 (.slice p1 n c1) n (numf E n)) (h2 : w.ownsRow B2 2 1 (.slice p2 n c2) n (numf L n)) (h3 : w.ownsRow B3 2 1 (.slice p3 n c3) n (numf E n)) (h4 : w.ownsRow B4 2 1 (.slice p4 n c4) n (numf L n)) (hlen : n ≤ 4000) :
    Calls Tryd.prog 8 #[.agg #[.slice p1 n c1, .slice p2 n c2, .int .i64 S], .agg #[.slice p3 n c3, .slice p4 n c4, .int .i64 S]] w fun e w' => e = .returned (.bool true) ∧ Below w.heap.size w w' := by
  have hn1 := heap_alloc_new w (.cells #[.slice p1 n c1, .slice p2 n c2, .int .i64 S] 25)
  have hn2 := heap_alloc_new (w.alloc (.cells #[.slice p1 n c1, .slice p2 n c2, .int .i64 S] 25)) (.cells #[.slice p3 n c3, .slice p4 n c4, .int .i64 S] 25)
  have hsz : (w.alloc (.cells #[.slice p1 n c1, .slice p2 n c2, .int .i64 S] 25)).heap.size = w.heap.size + 1 := by simp
  rw [hsz] at hn2
  have hn1' := (Below.heap_alloc (w.alloc (.cells #[.slice p1 n c1, .slice p2 n c2, .int .i64 S] 25)) (.cells #[.slice p3 n c3, .slice p4 n c4, .int .i64 S] 25) w.heap.size (by simp)).trans hn1
  have r1 := (h1.alloc (.cells #[.slice p1 n c1, .slice p2 n c2, .int .i64 S] 25)).alloc (.cells #[.slice p3 n c3, .slice p4 n c4, .int .i64 S] 25)
  have r2 := (h2.alloc (.cells #[.slice p1 n c1, .slice p2 n c2, .int .i64 S] 25)).alloc (.cells #[.slice p3 n c3, .slice p4 n c4, .int .i64 S] 25)
  have r3 := (h3.alloc (.cells #[.slice p1 n c1, .slice p2 n c2, .int .i64 S] 25)).alloc (.cells #[.slice p3 n c3, .slice p4 n c4, .int .i64 S] 25)
  have r4 := (h4.alloc (.cells #[.slice p1 n c1, .slice p2 n c2, .int .i64 S] 25)).alloc (.cells #[.slice p3 n c3, .slice p4 n c4, .int .i64 S] 25)
  have hB : Below w.heap.size w ((w.alloc (.cells #[.slice p1 n c1, .slice p2 n c2, .int .i64 S] 25)).alloc (.cells #[.slice p3 n c3, .slice p4 n c4, .int .i64 S] 25)) := ((Below.refl _ _).alloc (Nat.le_refl _) _).alloc (by simp) _
  have a0 := box_cell hn1' 0 rfl
  have a2 := box_cell hn1' 2 rfl
  have b0 := box_cell hn2 0 rfl
  have b2 := box_cell hn2 2 rfl
  have e1 := sameNumbers_yes r1 r3 hlen
  have hz1 : Hid (((w.alloc (.cells #[.slice p1 n c1, .slice p2 n c2, .int .i64 S] 25)).alloc (.cells #[.slice p3 n c3, .slice p4 n c4, .int .i64 S] 25)).heap[w.heap.size]? = some (.cells #[.slice p1 n c1, .slice p2 n c2, .int .i64 S] 25 (0, 0))) := hn1'
  have hz2 : Hid (((w.alloc (.cells #[.slice p1 n c1, .slice p2 n c2, .int .i64 S] 25)).alloc (.cells #[.slice p3 n c3, .slice p4 n c4, .int .i64 S] 25)).heap[w.heap.size + 1]? = some (.cells #[.slice p3 n c3, .slice p4 n c4, .int .i64 S] 25 (0, 0))) := hn2
  have hlH : Hid (n ≤ 4000) := hlen
  have hSS : (S == S) = true := by simp
  clear hn1 hn2 hn1' h1 h2 h3 h4 r1 r3 hlen hsz
  go_enter Tryd.func8, Tryd.ntmps8
  go_wp2_with (first
    | (go_at_call 24; refine e1.mono ?_; rintro e w3 ⟨rfl, hb3⟩; clear e1; have hB3 : Below w.heap.size w w3 := hB.trans (hb3.mono hB.size); have y1 := box_cell ((hb3.block w.heap.size (Array.getElem?_eq_some_iff.1 hz1.out).1).trans hz1.out) 1 rfl; have y2 := box_cell ((hb3.block (w.heap.size + 1) (Array.getElem?_eq_some_iff.1 hz2.out).1).trans hz2.out) 1 rfl; have e2 := sameNumbers_yes (row_below r2 hb3) (row_below r4 hb3) hlH.out; clear a0 a2 b0 b2 r2 r4)
    | (go_at_call 24; refine e2.mono ?_; rintro e w4 ⟨rfl, hb4⟩; clear e2; have hB4 : Below w.heap.size w w4 := hB3.trans (hb4.mono hB3.size))
    | go_in)
  go_ret
  exact ⟨by first | rfl | simp, hB4⟩
end Go.Proofs.YtknhbpnbbnjioaaDoor
