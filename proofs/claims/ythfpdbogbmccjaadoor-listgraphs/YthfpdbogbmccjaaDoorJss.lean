/- ListGraphs, walked. -/
import Derived.Test.YthfpdbogbmccjaaDoorJrg
import Derived.Test.YthfpdbogbmccjaaDoorPrf
namespace Go.Proofs.YthfpdbogbmccjaaDoor
open Go.RowKit Gm Pm
set_option linter.unusedSectionVars false
set_option linter.unusedVariables false

set_option maxHeartbeats 1000000 in
set_option maxRecDepth 100000 in
theorem sameTurns_yes {w : World} {g1 g2 n : Nat} {A H : Nat → Int} (h1 : ∀ i, i < n → w.cell? ⟨g1, i * 2, none⟩ = some (.int .i64 (A i)) ∧ w.cell? ⟨g1, i * 2 + 1, none⟩ = some (.int .i64 (H i))) (h2 : ∀ i, i < n → w.cell? ⟨g2, i * 2, none⟩ = some (.int .i64 (A i)) ∧ w.cell? ⟨g2, i * 2 + 1, none⟩ = some (.int .i64 (H i))) (hn : n ≤ 60) :
    Calls Tryd.prog 8 #[.slice (some ⟨g1, 0, none⟩) n n, .slice (some ⟨g2, 0, none⟩) n n] w fun e w' => e = .returned (.bool true) ∧ Below w.heap.size w w' := by
  have hnH : Hid (n ≤ 60) := hn
  have h1H : Hid (∀ i, i < n → w.cell? ⟨g1, i * 2, none⟩ = some (.int .i64 (A i)) ∧ w.cell? ⟨g1, i * 2 + 1, none⟩ = some (.int .i64 (H i))) := h1
  have h2H : Hid (∀ i, i < n → w.cell? ⟨g2, i * 2, none⟩ = some (.int .i64 (A i)) ∧ w.cell? ⟨g2, i * 2 + 1, none⟩ = some (.int .i64 (H i))) := h2
  clear hn h1 h2
  have hNN : ((n : Int) != (n : Int)) = false := by simp
  go_enter Tryd.func8, Tryd.ntmps8
  go_wp2
  go_loopg [13] n (fun gz iv wr => ∃ i nq : Nat, iv = .int .i64 i ∧ n - i ≤ gz ∧ Hid (i ≤ n) ∧ Hid (wr = w.drewN nq))
  case atStart => exact ⟨0, 0, rfl, by omega, Nat.zero_le _, rfl⟩
  case round =>
    rename World => wr
    obtain ⟨i, nq0, rfl, hgz, hin, hwr⟩ := hrel
    by_cases hi : i < n
    · have hiH : Hid (i < n) := hi
      have hi2 : Hid (i ≤ 100000) := by have := hnH.out; show _ ≤ _; omega
      have hiz : (i : Int) < (n : Int) := by omega
      have hiz0 : ¬ (i : Int) < 0 := by omega
      have hizg : ¬ (n : Int) ≤ (i : Int) := by omega
      have z0 : wr.cell? ⟨g1, i * 2, none⟩ = some (.int .i64 (A i)) := by rw [hwr.out]; exact (h1H.out i hi).1
      have z1 : wr.cell? ⟨g1, i * 2 + 1, none⟩ = some (.int .i64 (H i)) := by rw [hwr.out]; exact (h1H.out i hi).2
      have y0 : wr.cell? ⟨g2, i * 2, none⟩ = some (.int .i64 (A i)) := by rw [hwr.out]; exact (h2H.out i hi).1
      have y1 : wr.cell? ⟨g2, i * 2 + 1, none⟩ = some (.int .i64 (H i)) := by rw [hwr.out]; exact (h2H.out i hi).2
      have hwr2 : Hid (∀ x, wr.drewN x = w.drewN (nq0 + x)) := fun x => by rw [hwr.out, World.drewN_drewN]
      clear hi
      go_wp2
      go_quiet (fail)
      clear z0 z1 y0 y1
      go_wp2
      go_roundg (n - (i + 1))
      case measure => have := hiH.out; omega
      case rel => exact ⟨i + 1, nq0 + nq, by first | exact int_wsucc hi2.out | exact int_succ i, Nat.le_refl _, hiH.out, hwr2.out _⟩
    · have hiz : ¬ (i : Int) < (n : Int) := by omega
      have hb : Hid (Below w.heap.size w wr) := by show Below _ _ _; rw [hwr.out]; exact drewN_below (Below.refl _ _) nq0
      clear hwr hgz
      go_wp2
      go_ret
      exact ⟨by first | rfl | simp, hb.out⟩

set_option maxHeartbeats 4000000 in
set_option maxRecDepth 100000 in
theorem listGraphs_walk (m n : Int) (q : Option Addr) (l : List Ed) (cap : Nat) (pd : Option Addr) (d : List Int) (cd : Nat) (w : World) (hZ : TabZ w) (h : Eds w q l) (hd : Nums w pd d) :
    Calls Tryd.prog 3 #[.int .i64 m, .int .i64 n, .slice q l.length cap, .slice pd d.length cd] w fun e w' => e = .returned (.bool true) ∧ Below w.heap.size w w' := by
  have hEb : Hid (∀ w1, Below w.heap.size w w1 → Eds w1 q l) := fun w1 hb => h.below hb (Nat.le_refl _)
  have hdb : Hid (∀ w1, Below w.heap.size w w1 → Nums w1 pd d) := fun w1 hb => hd.below hb (Nat.le_refl _)
  have hfa : Hid (∀ w1, Below w.heap.size w w1 → Calls Tryd.prog 6 #[.int .i64 n, .slice q l.length cap, .slice pd d.length cd] w1 fun e w' => e = .returned (.int .i64 (pe n l d)) ∧ Below w1.heap.size w1 w') := fun w1 hb => timesFault_any (hEb.out w1 hb) (hdb.out w1 hb)
  by_cases h0 : gc m n l d = 0
  · obtain ⟨hmc, hpe⟩ := gc_zero h0
    have hgo := graph_ok (cap := cap) (cd := cd) h hZ hd h0
    obtain ⟨hc0, hdn, hdu, hac⟩ := pe_zero hpe
    obtain ⟨hn0, hn60, hl4, _⟩ := chk_ok hc0
    obtain ⟨N, rfl⟩ : ∃ N : Nat, n = N := ⟨n.toNat, by omega⟩
    obtain ⟨M, rfl⟩ : ∃ M : Nat, m = M := ⟨m.toNat, by omega⟩
    have hdN : d.length = N := by omega
    have hgr : Gr N l := by have h3 := chk_gr hc0; rwa [Int.toNat_natCast] at h3
    have hD : ∀ i, i < N → 0 ≤ nm d i ∧ nm d i ≤ 1000000000 := dur_nm hdN hdu
    have hru : Hid (∀ w1, Below w.heap.size w w1 → _) := fun w1 hb => graphRun_any (cap := cap) (cd := cd) (m := M) (hEb.out w1 hb) hgr hl4 (hdb.out w1 hb) hdN (by omega) hD hac
    have hn6 : Hid (N ≤ 60) := hgr.n60
    rw [Int.toNat_natCast, hdN] at hgo
    rw [hpe, hdN] at hfa
    rw [hdN]
    have m1 : decide ((M : Int) < 1) = false := decide_eq_false (by omega)
    have m2 : decide ((20 : Int) < (M : Int)) = false := decide_eq_false (by omega)
    clear h hd hZ h0 hmc hpe hc0 hdn hdu hac hl4 hdN hn0 hn60 hgr hD hEb hdb
    by_cases hbig : (20 : Int) < (N : Int)
    · clear hru
      go_enter Tryd.func3, Tryd.ntmps3
      go_wp2_with (first
        | (go_at_call 5; refine hgo.mono ?_; rintro e w2 ⟨⟨t, s, gT, rfl, hG⟩, hb2⟩; clear hgo hG)
        | (go_at_call 6; refine (hfa.out w2 hb2).mono ?_; rintro e w3 ⟨rfl, hb3⟩; clear hfa; have hB3 : Below w.heap.size w w3 := hb2.trans (hb3.mono hb2.size))
        | go_in)
      go_ret
      exact ⟨by first | rfl | simp, hB3⟩
    · go_enter Tryd.func3, Tryd.ntmps3
      go_wp2_with (first
        | (go_at_call 5; refine hgo.mono ?_; rintro e w2 ⟨⟨t, s, gT, rfl, hG⟩, hb2⟩; clear hgo)
        | (go_at_call 6; refine (hfa.out w2 hb2).mono ?_; rintro e w3 ⟨rfl, hb3⟩; clear hfa; have hB3 : Below w.heap.size w w3 := hb2.trans (hb3.mono hb2.size))
        | (go_at_call 7; refine (hru.out w3 hB3).mono ?_; rintro e w4 ⟨⟨t2, s2, gR, rfl, hr2, hst2, hnx2, hR⟩, hb4⟩; clear hru; obtain ⟨rfl, rfl⟩ := Run.uniq hG.run hG.stk hG.nx hr2 hst2 hnx2; have hB4 : Below w.heap.size w w4 := hB3.trans (hb4.mono hB3.size); have hst := sameTurns_yes (w := w4) (g1 := gT) (g2 := gR) (n := N) (A := s.A) (H := s.H) (fun i hi => ⟨(hb4.cell (p := ⟨gT, i * 2, none⟩) (Nat.lt_of_lt_of_le hG.lt hb3.size)).trans ((hb3.cell (p := ⟨gT, i * 2, none⟩) hG.lt).trans (hG.c i hi).1), (hb4.cell (p := ⟨gT, i * 2 + 1, none⟩) (Nat.lt_of_lt_of_le hG.lt hb3.size)).trans ((hb3.cell (p := ⟨gT, i * 2 + 1, none⟩) hG.lt).trans (hG.c i hi).2)⟩) (fun i hi => ⟨(hR.c i hi).1, (hR.c i hi).2.1⟩) hn6.out; clear hR hr2 hst2 hnx2 hG)
        | (go_at_call 8; refine hst.mono ?_; rintro e w5 ⟨rfl, hb5⟩; clear hst; have hB5 : Below w.heap.size w w5 := hB4.trans (hb5.mono hB4.size))
        | go_in)
      go_ret
      exact ⟨by first | rfl | simp, hB5⟩
  · have hgo := graph_bad (cap := cap) (cd := cd) h hZ hd h0
    by_cases hmc : 1 ≤ m ∧ m ≤ 20
    · have e1 : gc m n l d = pe n l d := by unfold gc; rw [if_pos hmc]
      rw [e1] at hgo h0
      have m1 : decide (m < 1) = false := decide_eq_false (by omega)
      have m2 : decide ((20 : Int) < m) = false := decide_eq_false (by omega)
      have hc1 : (pe n l d != 0) = true := by simpa using h0
      generalize pe n l d = y at *
      clear h0 h hd hZ hEb hdb hmc e1
      go_enter Tryd.func3, Tryd.ntmps3
      go_wp2_with (first
        | (go_at_call 5; refine hgo.mono ?_; rintro e w2 ⟨rfl, hb2⟩; clear hgo)
        | (go_at_call 6; refine (hfa.out w2 hb2).mono ?_; rintro e w3 ⟨rfl, hb3⟩; clear hfa; have hB3 : Below w.heap.size w w3 := hb2.trans (hb3.mono hb2.size))
        | go_in)
      go_ret
      exact ⟨by first | rfl | simp, hB3⟩
    · have e1 : gc m n l d = 1 := by unfold gc; rw [if_neg hmc]
      rw [e1] at hgo
      generalize pe n l d = y at *
      clear h0 h hd hZ hEb hdb e1
      by_cases hm1 : m < 1
      · have m1 : decide (m < 1) = true := decide_eq_true hm1
        clear hmc
        go_enter Tryd.func3, Tryd.ntmps3
        go_wp2_with (first
          | (go_at_call 5; refine hgo.mono ?_; rintro e w2 ⟨rfl, hb2⟩; clear hgo)
          | (go_at_call 6; refine (hfa.out w2 hb2).mono ?_; rintro e w3 ⟨rfl, hb3⟩; clear hfa; have hB3 : Below w.heap.size w w3 := hb2.trans (hb3.mono hb2.size))
          | go_in)
        go_ret
        exact ⟨by first | rfl | simp, hB3⟩
      · have m1 : decide (m < 1) = false := decide_eq_false hm1
        have m2 : decide ((20 : Int) < m) = true := decide_eq_true (by omega)
        clear hmc
        go_enter Tryd.func3, Tryd.ntmps3
        go_wp2_with (first
          | (go_at_call 5; refine hgo.mono ?_; rintro e w2 ⟨rfl, hb2⟩; clear hgo)
          | (go_at_call 6; refine (hfa.out w2 hb2).mono ?_; rintro e w3 ⟨rfl, hb3⟩; clear hfa; have hB3 : Below w.heap.size w w3 := hb2.trans (hb3.mono hb2.size))
          | go_in)
        go_ret
        exact ⟨by first | rfl | simp, hB3⟩
end Go.Proofs.YthfpdbogbmccjaaDoor
