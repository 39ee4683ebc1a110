/- Close, walked; slices.Equal, Index, Contains at rows of edges. -/
import Derived.Test.YtknhbpnbbnjioaaDoorGct
namespace Go.Proofs.YtknhbpnbbnjioaaDoor
open Go.RowKit Gm
set_option linter.unusedSectionVars false

def ce (n : Int) (l : List Ed) : Int := if chk n l = 0 then (if 400 < nE (wB l) 60 then 2 else 0) else chk n l
def cl (n : Int) (l : List Ed) : List Ed := if chk n l = 0 ∧ nE (wB l) 60 ≤ 400 then eL (wB l) 60 else []

theorem eqlE (a i b j : Int) (w : World) : (binOp .eql 38 (.agg #[.int .i64 a, .int .i64 i]) (.agg #[.int .i64 b, .int .i64 j])).run Tryd.prog w = .ok (.bool (decide (a = b) && decide (i = j))) w := by
  have u3 := Tryd.underlying3
  have a3 := Tryd.isAgg3
  have z3 := Tryd.sizeOf3
  have hS : Tryd.prog.underlying 38 = some (.struct (Tryd.prog.fieldsOf 38)) := by kernel_rfl
  have hp : Tryd.prog.stoodInHeld 38 = false := by kernel_rfl
  rw [run_eql_struct, show (10000 : Nat) = 9999 + 1 from rfl, run_equalIn_agg w 9999 38 _ _ hS hp]
  simp only [Program.fieldsOf, Tryd.underlying38]
  by_cases h1 : a = b <;> by_cases h2 : i = j <;> simp only [h1, h2] <;> go_simp
theorem neqE (a i : Int) (w : World) : (binOp .neq 38 (.agg #[.int .i64 a, .int .i64 i]) (.agg #[.int .i64 a, .int .i64 i])).run Tryd.prog w = .ok (.bool false) w := by
  have u3 := Tryd.underlying3
  have a3 := Tryd.isAgg3
  have z3 := Tryd.sizeOf3
  have hS : Tryd.prog.underlying 38 = some (.struct (Tryd.prog.fieldsOf 38)) := by kernel_rfl
  have hp : Tryd.prog.stoodInHeld 38 = false := by kernel_rfl
  rw [run_neq_struct, show (10000 : Nat) = 9999 + 1 from rfl, run_equalIn_agg w 9999 38 _ _ hS hp]
  simp only [Program.fieldsOf, Tryd.underlying38]
  go_simp
theorem drewN_below {B : Nat} {w wz : World} (h : Below B w wz) (q : Nat) : Below B w (wz.drewN q) := ⟨h.os, h.tape, h.output, h.size, h.block⟩
theorem row_ed {w : World} {B : Nat} {p : Option Addr} {L : List Ed} {n c : Nat} (h : w.ownsRow B 38 2 (.slice p n c) n (flatE L)) (hn : L.length = n) {k : Nat} (hk : k < n) : ∃ g, p = some ⟨g, 0, none⟩ ∧ w.cell? ⟨g, k * 2, none⟩ = some (.int .i64 (ed L k).f) ∧ w.cell? ⟨g, k * 2 + 1, none⟩ = some (.int .i64 (ed L k).t) := by
  rcases h.2 with ⟨_, h0⟩ | ⟨g, cap, cur, hv, hB, _⟩
  · omega
  · obtain ⟨rfl, rfl⟩ : p = some ⟨g, 0, none⟩ ∧ c = cap := by simpa using hv
    have hk' : k < L.length := by omega
    exact ⟨g, rfl, by rw [h.cellAt (k * 2) (by omega), (flatE_get hk').1], by rw [h.cellAt (k * 2 + 1) (by omega), (flatE_get hk').2]⟩

set_option maxHeartbeats 1000000 in
set_option maxRecDepth 100000 in
theorem index_e {w : World} {L : List Ed} {n : Nat} {p : Option Addr} {c B : Nat} (x y : Int) (hL : L.length = n) (h : w.ownsRow B 38 2 (.slice p n c) n (flatE L)) (hlen : n ≤ 4000) :
    Calls Tryd.prog 25 #[.slice p n c, .agg #[.int .i64 x, .int .i64 y]] w fun e w' => (∃ z : Int, e = .returned (.int .i64 z) ∧ (0 ≤ z ↔ (⟨x, y⟩ : Ed) ∈ L)) ∧ Below w.heap.size w w' := by
  have hLH : Hid (L.length = n) := hL
  have hlen' : Hid (n ≤ 4000) := hlen
  have heq := eqlE
  have hn := heap_alloc_new w (.cells #[.int .i64 x, .int .i64 y] 38)
  have hb0 : Hid (Below w.heap.size w (w.alloc (.cells #[.int .i64 x, .int .i64 y] 38))) := (Below.refl _ _).alloc (Nat.le_refl _) _
  have hsw : Hid (w.heap.size < (w.alloc (.cells #[.int .i64 x, .int .i64 y] 38)).heap.size) := by show _ < _; simp
  have hA := h.alloc (.cells #[.int .i64 x, .int .i64 y] 38)
  clear hL hlen h
  go_enter Tryd.func25, Tryd.ntmps25
  go_wp2
  generalize w.alloc (.cells #[.int .i64 x, .int .i64 y] 38) = wa at *
  generalize hbx : w.heap.size = bx at *
  have hbxH : Hid (w.heap.size = bx) := hbx
  clear hbx
  go_loopw [8] (fun iv wr => ∃ k : Nat, iv = .int .i64 k ∧ k ≤ n ∧ (∀ j, j < k → ed L j ≠ ⟨x, y⟩) ∧ Below wa.heap.size wa wr)
    (fun iv _ => n - (intOf iv).toNat)
  case atStart => exact ⟨0, rfl, Nat.zero_le _, fun j hj => absurd hj (by omega), Below.refl _ _⟩
  case round =>
    obtain ⟨k, rfl, hkn, hno, hbl⟩ := hrel
    have hnoH : Hid (∀ j, j < k → ed L j ≠ ⟨x, y⟩) := hno
    have hblH : Hid (Below wa.heap.size wa wr) := hbl
    have hnr : wr.heap[bx]? = some (.cells #[.int .i64 x, .int .i64 y] 38 (0, 0)) := (hbl.block _ hsw.out).trans hn
    have x0 : wr.cell? ⟨bx, 0, none⟩ = some (.int .i64 x) := (cell_of_row _ _ 0 _ _ _ hnr).trans rfl
    have x1 : wr.cell? ⟨bx, 1, none⟩ = some (.int .i64 y) := (cell_of_row _ _ 1 _ _ _ hnr).trans rfl
    have r1 := row_below hA hbl
    clear hno hbl hnr
    by_cases hk : k < n
    · obtain ⟨g, rfl, z0, z1⟩ := row_ed r1 hLH.out hk
      have hki : (k : Int) < (n : Int) := by omega
      have hk2 : Hid (k ≤ 100000) := by have := hlen'.out; show _ ≤ _; omega
      have hmem : Hid (ed L k ∈ L) := ed_mem (by have := hLH.out; omega)
      generalize hu : ed L k = u at *
      have huH : Hid (ed L k = u) := hu
      clear hu r1 hA hn
      by_cases hv : x = u.f ∧ y = u.t
      · obtain ⟨rfl, rfl⟩ := hv
        go_wp2
        go_quiet (fail)
        go_wp2
        go_ret
        exact ⟨⟨_, rfl, fun _ => hmem.out, fun _ => by omega⟩, by rw [hbxH.out]; exact drewN_below (hb0.out.trans (hblH.out.mono (Nat.le_of_lt hsw.out))) nq⟩
      · have hd : (decide (x = u.f) && decide (y = u.t)) = false := by
          rw [← Bool.decide_and]
          exact decide_eq_false hv
        have hvH : Hid (¬ (x = u.f ∧ y = u.t)) := hv
        clear hv
        go_wp2
        go_quiet (fail)
        go_wp2
        refine ⟨⟨k + 1, ?_, hk, fun j hj => ?_, drewN_below hblH.out nq⟩, ?_⟩
        · first | exact int_succ k | exact int_wsucc hk2.out
        · by_cases e : j = k
          · subst e; rw [huH.out]; intro e; rw [e] at hvH; exact hvH.out ⟨rfl, rfl⟩
          · exact hnoH.out j (by omega)
        · first | exact meas_1 hk | exact meas_w hk hk2.out
    · have hki : ¬ (k : Int) < (n : Int) := by omega
      clear r1 hA hn x0 x1
      go_wp2
      go_ret
      refine ⟨⟨_, rfl, fun h => absurd h (by omega), ?_⟩, by rw [hbxH.out]; exact hb0.out.trans (hblH.out.mono (Nat.le_of_lt hsw.out))⟩
      intro hj
      obtain ⟨a, ha, ea⟩ := List.getElem_of_mem hj
      have := hnoH.out a (by have := hLH.out; omega)
      rw [ed_get ha, ea] at this
      exact absurd rfl this

set_option maxRecDepth 100000 in
theorem contains_e {w : World} {L : List Ed} {n : Nat} {p : Option Addr} {c B : Nat} (x y : Int) (hL : L.length = n) (h : w.ownsRow B 38 2 (.slice p n c) n (flatE L)) (hlen : n ≤ 4000) :
    Calls Tryd.prog 11 #[.slice p n c, .agg #[.int .i64 x, .int .i64 y]] w fun e w' => (∃ z : Bool, e = .returned (.bool z) ∧ (z = true ↔ (⟨x, y⟩ : Ed) ∈ L)) ∧ Below w.heap.size w w' := by
  have hb0 : Hid (Below w.heap.size w (w.alloc (.cells #[.int .i64 x, .int .i64 y] 38))) := (Below.refl _ _).alloc (Nat.le_refl _) _
  have hi := index_e x y hL (h.alloc (.cells #[.int .i64 x, .int .i64 y] 38)) hlen
  clear h hL hlen
  go_enter Tryd.func11, Tryd.ntmps11
  go_wp2_with (first | (go_at_call 25; refine hi.mono ?_; rintro e w2 ⟨⟨z, rfl, hz⟩, hb2⟩; have hzH : Hid (0 ≤ z ↔ (⟨x, y⟩ : Ed) ∈ L) := hz; clear hz) | go_in)
  go_ret
  exact ⟨⟨_, rfl, by rw [← hzH.out]; simp⟩, hb0.out.trans (hb2.mono hb0.out.size)⟩
end Go.Proofs.YtknhbpnbbnjioaaDoor
