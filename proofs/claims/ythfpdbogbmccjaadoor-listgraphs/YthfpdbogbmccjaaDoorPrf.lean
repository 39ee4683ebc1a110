/- The reference's TimesFault, SameNumbers, SamePlan. -/
import Derived.Test.YthfpdbogbmccjaaDoorPal
import Derived.Test.YthfpdbogbmccjaaDoorGfa
import Derived.Test.YthfpdbogbmccjaaDoorGwk
namespace Go.Proofs.YthfpdbogbmccjaaDoor
open Go.RowKit Gm Pm
set_option linter.unusedSectionVars false
set_option linter.unusedVariables false

set_option maxHeartbeats 2000000 in
set_option maxRecDepth 100000 in
theorem timesFault_any {n : Int} {w : World} {q pd : Option Addr} {l : List Ed} {d : List Int} {cap cd : Nat} (h : Eds w q l) (hd : Nums w pd d) :
    Calls Tryd.prog 6 #[.int .i64 n, .slice q l.length cap, .slice pd d.length cd] w fun e w' => e = .returned (.int .i64 (pe n l d)) ∧ Below w.heap.size w w' := by
  have hfa := fault_any (cap := cap) n h
  by_cases h0 : chk n l = 0
  · obtain ⟨hn0, hn60, hl4, _⟩ := chk_ok h0
    obtain ⟨N, rfl⟩ : ∃ N : Nat, n = N := ⟨n.toNat, by omega⟩
    have hgr : Gr N l := by have h3 := chk_gr h0; rwa [Int.toNat_natCast] at h3
    rw [h0] at hfa
    by_cases h1 : (d.length : Int) = N
    · have hdN : d.length = N := by omega
      have hdNH : Hid (d.length = N) := hdN
      have hdb : Hid (∀ w1, Below w.heap.size w w1 → Nums w1 pd d) := fun w1 hb => hd.below hb (Nat.le_refl _)
      have hkd : Hid (∀ w1, Below w.heap.size w w1 → _) := fun w1 hb => knotted_any (n := N) (cap := cap) (h.below hb (Nat.le_refl _)) hgr hl4
      have hk60 : bl (fun i => wB l i i) 60 = bl (fun i => wB l i i) N := bl_skip hgr.n60 fun j h1 h2 => by
        cases e : wB l j j
        · rfl
        · have := (rch_lt hgr ((wB_iff hgr).1 e)).2; omega
      have hpe : Hid (pe N l d = if durB d = true then (if 0 < (bl (fun i => wB l i i) N).length then 8 else 0) else 1) := by
        show _ = _
        unfold pe
        rw [if_pos h0, hk60]
        by_cases hdu : durB d = true
        · rw [if_pos ⟨h1, hdu⟩, if_pos hdu]
        · rw [if_neg (fun x => hdu x.2), if_neg hdu]
      have hnH : Hid (N ≤ 60) := hgr.n60
      rw [hdN]
      have hNN : ((N : Int) != (N : Int)) = false := by simp
      generalize hK : (bl (fun i => wB l i i) N) = K at *
      clear h hd h0 h1 hdN hgr hk60 hl4 hn0 hn60 hK
      go_enter Tryd.func6, Tryd.ntmps6
      go_wp2_with (first
        | (go_at_call 15; refine hfa.mono ?_; rintro e w1 ⟨rfl, hB1⟩; clear hfa)
        | go_in)
      go_loopw [23] (fun iv wr => ∃ j : Nat, iv = .int .i64 j ∧ j ≤ N ∧ Hid (durB (d.take j) = true) ∧ wr = w1)
        (fun iv _ => N - (intOf iv).toNat)
      case atStart => exact ⟨0, rfl, Nat.zero_le _, rfl, rfl⟩
      case round =>
        obtain ⟨j, rfl, hjN, hall, rfl⟩ := hrel
        by_cases hj : j < N
        · have hjd : j < d.length := by have := hdNH.out; omega
          have hji : (j : Int) < (N : Int) := by omega
          have hj2 : Hid (j ≤ 100000) := by have := hnH.out; show _ ≤ _; omega
          obtain ⟨b, o, rfl, z0⟩ : ∃ b o, pd = some ⟨b, o, none⟩ ∧ wr.cell? ⟨b, o + j, none⟩ = some (.int .i64 (nm d j)) := by
            rcases hdb.out wr hB1 with h0 | ⟨b, o, e, hA⟩
            · omega
            · exact ⟨b, o, e, hA.c j hjd⟩
          have hyes : Hid (spB (nm d j) = true → durB (d.take (j + 1)) = true) := fun h2 => by
            show List.all _ _ = true
            rw [take_nm hjd, List.all_append, show List.all (d.take j) spB = true from hall.out]
            simp [h2]
          have hno : Hid (spB (nm d j) = false → durB d = false) := fun h2 => by
            show List.all _ _ = false
            rw [List.all_eq_false]
            exact ⟨_, nm_mem hjd, by simp [h2]⟩
          have hB1H : Hid (Below w.heap.size w wr) := hB1
          clear hall hB1 hkd hdb
          have hspd : Hid (∀ x, spB x = decide (0 ≤ x ∧ x ≤ 1000000000)) := fun x => rfl
          generalize nm d j = x at *
          by_cases c1 : x < 0
          · have hdf : Hid (durB d = false) := hno.out (by rw [hspd.out]; simp; omega)
            have he : Hid (pe N l d = 1) := by show _ = _; rw [hpe.out, hdf.out]; rfl
            clear hyes hno hpe
            go_wp2
            go_ret
            rw [he.out]
            exact ⟨rfl, hB1H.out⟩
          by_cases c2 : 1000000000 < x
          · have hdf : Hid (durB d = false) := hno.out (by rw [hspd.out]; simp; omega)
            have he : Hid (pe N l d = 1) := by show _ = _; rw [hpe.out, hdf.out]; rfl
            clear hyes hno hpe
            go_wp2
            go_ret
            rw [he.out]
            exact ⟨rfl, hB1H.out⟩
          have hy2 : Hid (durB (d.take (j + 1)) = true) := hyes.out (by rw [hspd.out]; simp; omega)
          clear hyes hno hpe
          go_wp2
          refine ⟨⟨j + 1, ?_, hj, hy2, by first | rfl | trivial⟩, ?_⟩
          · first | exact int_succ j | exact int_wsucc hj2.out
          · first | exact meas_1 hj | exact meas_w hj hj2.out
        · have hji : ¬ (j : Int) < (N : Int) := by omega
          have hdu : durB d = true := by have := hall.out; rwa [List.take_of_length_le (by have := hdNH.out; omega)] at this
          rw [hdu] at hpe
          have hkr := hkd.out wr hB1
          clear hall hdb hdu
          obtain ⟨m, hm⟩ : ∃ m, K.length = m := ⟨_, rfl⟩
          rw [hm] at hkr hpe
          clear hm
          by_cases hm0 : 0 < m
          · have hmi : (0 : Int) < (m : Int) := by omega
            have he : Hid (pe N l d = 8) := by show _ = _; rw [hpe.out, if_pos rfl, if_pos hm0]
            clear hpe hm0 hkd
            go_wp2_with (first
              | (go_at_call 16; refine hkr.mono ?_; rintro e w3 ⟨p3, c3, rfl, _, hb3⟩; clear hkr)
              | go_in)
            go_ret
            rw [he.out]
            exact ⟨rfl, hB1.trans (hb3.mono hB1.size)⟩
          · have hmi : ¬ (0 : Int) < (m : Int) := by omega
            have he : Hid (pe N l d = 0) := by show _ = _; rw [hpe.out, if_pos rfl, if_neg hm0]
            clear hpe hm0 hkd
            go_wp2_with (first
              | (go_at_call 16; refine hkr.mono ?_; rintro e w3 ⟨p3, c3, rfl, _, hb3⟩; clear hkr)
              | go_in)
            go_ret
            rw [he.out]
            exact ⟨rfl, hB1.trans (hb3.mono hB1.size)⟩
    · have e1 : pe N l d = 1 := by unfold pe; rw [if_pos h0, if_neg (fun x => h1 x.1)]
      have hNN : ((d.length : Int) != (N : Int)) = true := by simpa using h1
      rw [e1]
      clear h hd h0 h1 e1 hgr
      go_enter Tryd.func6, Tryd.ntmps6
      go_wp2_with (first
        | (go_at_call 15; refine hfa.mono ?_; rintro e w1 ⟨rfl, hB1⟩; clear hfa)
        | go_in)
      go_ret
      exact ⟨rfl, hB1⟩
  · have e1 : pe n l d = chk n l := by unfold pe; rw [if_neg h0]
    have hNN : (chk n l != 0) = true := by simpa using h0
    rw [e1]
    clear h hd h0 e1
    generalize chk n l = y at *
    go_enter Tryd.func6, Tryd.ntmps6
    go_wp2_with (first
      | (go_at_call 15; refine hfa.mono ?_; rintro e w1 ⟨rfl, hB1⟩; clear hfa)
      | go_in)
    go_ret
    exact ⟨rfl, hB1⟩

end Go.Proofs.YthfpdbogbmccjaaDoor
