/- The reference's Which and Knotted, and slices.Equal at rows of ints of one's own. -/
import Derived.Test.YthfpdbogbmccjaaDoorGbh
namespace Go.Proofs.YthfpdbogbmccjaaDoor
open Go.RowKit Gm
set_option linter.unusedSectionVars false
set_option linter.unusedVariables false

set_option maxHeartbeats 1000000 in
set_option maxRecDepth 100000 in
theorem knotted_any {n : Nat} {w : World} {q : Option Addr} {l : List Ed} {cap : Nat} (h : Eds w q l) (hg : Gr n l) (hl : l.length ≤ 400) :
    Calls Tryd.prog 16 #[.int .i64 (n : Int), .slice q l.length cap] w fun e w' => ∃ (p : Option Addr) (c : Nat), e = .returned (.slice p (bl (fun i => wB l i i) n).length c) ∧ w'.ownsRow w.heap.size 3 1 (.slice p (bl (fun i => wB l i i) n).length c) (bl (fun i => wB l i i) n).length (ints (bl (fun i => wB l i i) n)) ∧ Below w.heap.size w w' := by
  have hnH : Hid (n ≤ 60) := hg.n60
  have hbe : Hid (∀ w1 fr, Below w.heap.size w w1 → fr < n → _) := fun w1 fr hb hf => behind_e (n := n) (fr := fr) (cap := cap) (h.below hb (Nat.le_refl _)) hg hl hf
  clear h hg hl
  generalize hS : (fun i => wB l i i) = S
  have hSH : Hid (∀ i, wB l i i = S i) := fun i => congrFun hS i
  clear hS
  go_enter Tryd.func16, Tryd.ntmps16
  go_wp2
  go_loopw [5, 8] (fun ov iv wr => ∃ (i : Nat) (q : Option Addr) (c : Nat), iv = .int .i64 i ∧ ov = .slice q (bl S i).length c ∧ i ≤ n ∧ wr.ownsRow w.heap.size 3 1 (.slice q (bl S i).length c) (bl S i).length (ints (bl S i)) ∧ Below w.heap.size w wr)
    (fun _ iv _ => n - (intOf iv).toNat)
  case atStart => exact ⟨0, none, 0, rfl, rfl, Nat.zero_le _, World.ownsRow_nil _ _ _ _, Below.refl _ _⟩
  case round =>
    obtain ⟨i, q1, c, rfl, rfl, hin, hown, hbl⟩ := hrel
    by_cases hi : i < n
    · have hbh := hbe.out wr i hbl hi
      have hsn := bl_succ S i
      have hii : (i : Int) < (n : Int) := by omega
      have hi0 : ¬ (i : Int) < 0 := by omega
      have hni : ¬ (n : Int) ≤ (i : Int) := by omega
      have hi2 : Hid (i ≤ 100000) := by have := hnH.out; show _ ≤ _; omega
      have hlen : Hid ((bl S i).length ≤ 60) := by have := bl_len S i; have := hnH.out; show _ ≤ _; omega
      have hblH : Hid (Below w.heap.size w wr) := hbl
      have hownH : Hid (World.ownsRow wr w.heap.size 3 1 (.slice q1 (bl S i).length c) (bl S i).length (ints (bl S i))) := hown
      have hiH : Hid (i < n) := hi
      clear hbl hown
      cases hs : S i with
      | true =>
        rw [hs] at hsn
        have hw : Hid (wB l i i = true) := by show _ = _; rw [hSH.out, hs]
        have hsnH : Hid (bl S (i + 1) = bl S i ++ [i]) := hsn
        clear hsn hs
        go_wp2_with (first
          | (go_at_call 28; refine hbh.mono ?_; rintro e w4 ⟨rfl, hR4, hb4⟩; clear hbh; have y0 : w4.cell? ⟨wr.heap.size, i, none⟩ = some (.bool true) := (by rw [hR4.cellAt i (by have := hiH.out; omega), bls_get hiH.out, hw.out]); have hown4 := row_below hownH.out hb4; have hB4 : Below w.heap.size w w4 := hblH.out.trans (hb4.mono hblH.out.size); have hs4 := hB4.size)
          | (at_builtin; obtain ⟨i0, hi9, hz0, hz1, hz2⟩ := info_parts info_int; refine wpList_append_own _ rfl _ _ 47 rfl w.heap.size 3 i0 (.int .i64 0) 1 8 Tryd.underlying47 hi9 hz0 hz1 hz2 rfl (by decide) _ _ _ rfl (hown4.alloc _) ⟨w4.heap.size, 0, none⟩ 1 1 [.int .i64 (i : Int)] rfl rfl (cells_new _ _ _) (fun v hv => by simp at hv; subst hv; rfl) (by unfold maxLen; have := hlen.out; omega) (by have := hlen.out; omega) (by simp; omega) ?_; intro v' w5 hown5 hgrow5 hnil5; clear hi9 hz0 hz1 hz2 hnil5; obtain ⟨g5, cap5, rfl⟩ := form_succ hown5)
          | go_in)
        have hgA : (w4.alloc (.cells #[.int .i64 (i : Int)] 3)).grownBy w5 (Value.ownBlock (.slice q1 (bl S i).length c)) := hgrow5
        have hl1 : (bl S (i + 1)).length = (bl S i).length + 1 := by rw [hsnH.out]; simp
        refine ⟨⟨i + 1, some ⟨g5, 0, none⟩, cap5, ?_, by rw [hl1], hi, ?_, below_app hB4 hown4 hgA (Nat.le_refl _) hs4⟩, ?_⟩
        · first | exact int_succ i | exact int_wsucc hi2.out
        · rw [hl1, hsnH.out]
          simp only [ints, List.map_append, List.map_cons, List.map_nil]
          exact hown5
        · first | exact meas_1 hi | exact meas_w hi hi2.out
      | false =>
        rw [hs] at hsn
        have hw : Hid (wB l i i = false) := by show _ = _; rw [hSH.out, hs]
        have hsnH : Hid (bl S (i + 1) = bl S i) := by show _ = _; rw [hsn]; simp
        clear hsn hs
        go_wp2_with (first
          | (go_at_call 28; refine hbh.mono ?_; rintro e w4 ⟨rfl, hR4, hb4⟩; clear hbh; have y0 : w4.cell? ⟨wr.heap.size, i, none⟩ = some (.bool false) := (by rw [hR4.cellAt i (by have := hiH.out; omega), bls_get hiH.out, hw.out]); have hown4 := row_below hownH.out hb4; have hB4 : Below w.heap.size w w4 := hblH.out.trans (hb4.mono hblH.out.size); have hs4 := hB4.size)
          | go_in)
        refine ⟨⟨i + 1, q1, c, ?_, by rw [hsnH.out], hi, by rw [hsnH.out]; exact hown4, hB4⟩, ?_⟩
        · first | exact int_succ i | exact int_wsucc hi2.out
        · first | exact meas_1 hi | exact meas_w hi hi2.out
    · have hii : ¬ (i : Int) < (n : Int) := by omega
      have e : i = n := by omega
      subst e
      clear hbe
      go_wp2
      go_ret
      exact ⟨q1, c, rfl, hown, hbl⟩
end Go.Proofs.YthfpdbogbmccjaaDoor
