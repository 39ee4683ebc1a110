/- Thin by one contract; slices.Contains at edges that lie somewhere. -/
import Derived.Test.YtknhbpnbbnjioaaDoorGtx
namespace Go.Proofs.YtknhbpnbbnjioaaDoor
open Go.RowKit Gm
set_option linter.unusedSectionVars false

set_option maxHeartbeats 1000000 in
set_option maxRecDepth 100000 in
theorem index_d {w : World} {L : List Ed} {n : Nat} {p : Option Addr} {c : Nat} (x y : Int) (hL : L.length = n) (h : Eds w p L) (hlen : n ≤ 4000) :
    Calls Tryd.prog 25 #[.slice p n c, .agg #[.int .i64 x, .int .i64 y]] w fun e w' => (∃ z : Int, e = .returned (.int .i64 z) ∧ (0 ≤ z ↔ (⟨x, y⟩ : Ed) ∈ L)) ∧ Below w.heap.size w w' := by
  have hLH : Hid (L.length = n) := hL
  have hlen' : Hid (n ≤ 4000) := hlen
  have heq := eqlE
  have hn := heap_alloc_new w (.cells #[.int .i64 x, .int .i64 y] 38)
  have hb0 : Hid (Below w.heap.size w (w.alloc (.cells #[.int .i64 x, .int .i64 y] 38))) := (Below.refl _ _).alloc (Nat.le_refl _) _
  have hsw : Hid (w.heap.size < (w.alloc (.cells #[.int .i64 x, .int .i64 y] 38)).heap.size) := by show _ < _; simp
  have hA := h.below ((Below.refl _ _).alloc (Nat.le_refl _) (.cells #[.int .i64 x, .int .i64 y] 38)) (Nat.le_refl _)
  clear hL hlen h
  go_enter Tryd.func25, Tryd.ntmps25
  go_wp2
  generalize w.alloc (.cells #[.int .i64 x, .int .i64 y] 38) = wa at *
  generalize hbx : w.heap.size = bx at *
  have hbxH : Hid (w.heap.size = bx) := hbx
  clear hbx
  go_loopw [8] (fun iv wr => ∃ k : Nat, iv = .int .i64 k ∧ k ≤ n ∧ (∀ j, j < k → ed L j ≠ ⟨x, y⟩) ∧ Below wa.heap.size wa wr)
    (fun iv _ => n - (intOf iv).toNat)
  case atStart => exact ⟨0, rfl, Nat.zero_le _, fun j hj => absurd hj (by omega), Below.refl _ _⟩
  case round =>
    obtain ⟨k, rfl, hkn, hno, hbl⟩ := hrel
    have hnoH : Hid (∀ j, j < k → ed L j ≠ ⟨x, y⟩) := hno
    have hblH : Hid (Below wa.heap.size wa wr) := hbl
    have hnr : wr.heap[bx]? = some (.cells #[.int .i64 x, .int .i64 y] 38 (0, 0)) := (hbl.block _ hsw.out).trans hn
    have x0 : wr.cell? ⟨bx, 0, none⟩ = some (.int .i64 x) := (cell_of_row _ _ 0 _ _ _ hnr).trans rfl
    have x1 : wr.cell? ⟨bx, 1, none⟩ = some (.int .i64 y) := (cell_of_row _ _ 1 _ _ _ hnr).trans rfl
    have r1 := hA.below hbl (Nat.le_refl _)
    clear hno hbl hnr
    by_cases hk : k < n
    · rcases r1 with hh0 | ⟨g, o, rfl, hAr⟩
      · have := hLH.out; omega
      have z0 := hAr.cf k (by have := hLH.out; omega)
      have z1 := hAr.ct k (by have := hLH.out; omega)
      have hki : (k : Int) < (n : Int) := by omega
      have hk2 : Hid (k ≤ 100000) := by have := hlen'.out; show _ ≤ _; omega
      have hmem : Hid (ed L k ∈ L) := ed_mem (by have := hLH.out; omega)
      generalize hu : ed L k = u at *
      have huH : Hid (ed L k = u) := hu
      clear hu hAr hA hn
      by_cases hv : x = u.f ∧ y = u.t
      · obtain ⟨rfl, rfl⟩ := hv
        go_wp2
        go_quiet (fail)
        go_wp2
        go_ret
        exact ⟨⟨_, rfl, fun _ => hmem.out, fun _ => by omega⟩, by rw [hbxH.out]; exact drewN_below (hb0.out.trans (hblH.out.mono (Nat.le_of_lt hsw.out))) nq⟩
      · have hd : (decide (x = u.f) && decide (y = u.t)) = false := by
          rw [← Bool.decide_and]
          exact decide_eq_false hv
        have hvH : Hid (¬ (x = u.f ∧ y = u.t)) := hv
        clear hv
        go_wp2
        go_quiet (fail)
        go_wp2
        refine ⟨⟨k + 1, ?_, hk, fun j hj => ?_, drewN_below hblH.out nq⟩, ?_⟩
        · first | exact int_succ k | exact int_wsucc hk2.out
        · by_cases e : j = k
          · subst e; rw [huH.out]; intro e; rw [e] at hvH; exact hvH.out ⟨rfl, rfl⟩
          · exact hnoH.out j (by omega)
        · first | exact meas_1 hk | exact meas_w hk hk2.out
    · have hki : ¬ (k : Int) < (n : Int) := by omega
      clear r1 hA hn x0 x1
      go_wp2
      go_ret
      refine ⟨⟨_, rfl, fun h => absurd h (by omega), ?_⟩, by rw [hbxH.out]; exact hb0.out.trans (hblH.out.mono (Nat.le_of_lt hsw.out))⟩
      intro hj
      obtain ⟨a, ha, ea⟩ := List.getElem_of_mem hj
      have := hnoH.out a (by have := hLH.out; omega)
      rw [ed_get ha, ea] at this
      exact absurd rfl this

set_option maxRecDepth 100000 in
theorem contains_d {w : World} {L : List Ed} {n : Nat} {p : Option Addr} {c : Nat} (x y : Int) (hL : L.length = n) (h : Eds w p L) (hlen : n ≤ 4000) :
    Calls Tryd.prog 11 #[.slice p n c, .agg #[.int .i64 x, .int .i64 y]] w fun e w' => (∃ z : Bool, e = .returned (.bool z) ∧ (z = true ↔ (⟨x, y⟩ : Ed) ∈ L)) ∧ Below w.heap.size w w' := by
  have hb0 : Hid (Below w.heap.size w (w.alloc (.cells #[.int .i64 x, .int .i64 y] 38))) := (Below.refl _ _).alloc (Nat.le_refl _) _
  have hi := index_d (c := c) x y hL (h.below ((Below.refl _ _).alloc (Nat.le_refl _) (.cells #[.int .i64 x, .int .i64 y] 38)) (Nat.le_refl _)) hlen
  clear h hL hlen
  go_enter Tryd.func11, Tryd.ntmps11
  go_wp2_with (first | (go_at_call 25; refine hi.mono ?_; rintro e w2 ⟨⟨z, rfl, hz⟩, hb2⟩; have hzH : Hid (0 ≤ z ↔ (⟨x, y⟩ : Ed) ∈ L) := hz; clear hz) | go_in)
  go_ret
  exact ⟨⟨_, rfl, by rw [← hzH.out]; simp⟩, hb0.out.trans (hb2.mono hb0.out.size)⟩
end Go.Proofs.YtknhbpnbbnjioaaDoor
