/- The reference's queue, walked: at, Put. -/
import Derived.Test.YthkhlgannimebaaQr0
namespace Go.Proofs.Ythkhlgannimebaa
open Go.RowKit Go.Maps Go.Sort Qum
set_option linter.unusedSectionVars false

/-- The reference's queue lies in the block mb: its row of items, in the order in which they came. -/
structure Rfq (w : World) (mb : Nat) (v : Value) (L : List Th) : Prop where
  blk : w.heap[mb]? = some (.cells #[v] 28 (0, 0))
  row : Rrow w v L.length (flatI L)

theorem Rfq.slot {w : World} {mb : Nat} {v : Value} {L : List Th} (h : Rfq w mb v L) : w.cell? ⟨mb, 0, none⟩ = some v := (cell_of_row w mb 0 _ _ _ h.blk).trans rfl
theorem Rfq.lt {w : World} {mb : Nat} {v : Value} {L : List Th} (h : Rfq w mb v L) : mb < w.heap.size := World.block_lt_of_cell? w ⟨mb, 0, none⟩ h.slot
theorem Rfq.frz {w : World} {mb : Nat} {v : Value} {L : List Th} (h : Rfq w mb v L) : w.frozen? ⟨mb, 0, none⟩ = false := by simp [World.frozen?, h.blk]
theorem Rfq.form {w : World} {mb : Nat} {v : Value} {L : List Th} (h : Rfq w mb v L) : ∃ p cap, v = .slice p L.length cap := by
  rcases h.row.2 with ⟨rfl, h0⟩ | ⟨g, cap, cur, rfl, _⟩
  · exact ⟨none, 0, by rw [h0]⟩
  · exact ⟨_, cap, rfl⟩
theorem Rfq.below {w w' : World} {mb : Nat} {v : Value} {L : List Th} (h : Rfq w mb v L) (hb : Below w.heap.size w w') : Rfq w' mb v L := ⟨(hb.block mb h.lt).trans h.blk, h.row.below hb⟩
theorem Rfq.at_ {w : World} {mb cap : Nat} {p : Option Addr} {L : List Th} (h : Rfq w mb (.slice p L.length cap) L) (h0 : 0 < L.length) : ∃ g, p = some ⟨g, 0, none⟩ := by
  rcases h.row.2 with ⟨_, h1⟩ | ⟨g, cap', cur, hv, _⟩
  · omega
  · exact ⟨g, by simpa using (by simpa using hv : p = some ⟨g, 0, none⟩ ∧ cap = cap').1⟩
theorem Rfq.cells {w : World} {mb cap g : Nat} {L : List Th} (h : Rfq w mb (.slice (some ⟨g, 0, none⟩) L.length cap) L) {j : Nat} (hj : j < L.length) : w.cell? ⟨g, j * 2, none⟩ = some (.int .i64 (th L j).p) ∧ w.cell? ⟨g, j * 2 + 1, none⟩ = some (.int .i64 (th L j).i) :=
  ⟨(h.row.cells (by omega)).trans (flatI_get hj).1, (h.row.cells (by omega)).trans (flatI_get hj).2⟩

/-- The place of a name; -1, if there is none. -/
def atI (L : List Th) (id : Int) (n : Int) : Prop := (n = -1 ∧ hasId L id = false) ∨ ∃ k : Nat, n = k ∧ k < L.length ∧ (th L k).i = id ∧ ∀ j, j < k → (th L j).i ≠ id

set_option maxHeartbeats 1000000 in
set_option maxRecDepth 100000 in
theorem rat_any {w : World} {mb cap : Nat} {p : Option Addr} {L : List Th} {id : Int} (h : Rfq w mb (.slice p L.length cap) L) (hlen : L.length ≤ 200) :
    Calls Try.prog 26 #[.pointer (some ⟨mb, 0, none⟩), .int .i64 id] w fun e w' => ∃ n : Int, e = .returned (.int .i64 n) ∧ atI L id n ∧ Below w.heap.size w w' := by
  have c0 := h.slot
  have hlen' : Hid (L.length ≤ 200) := hlen
  clear hlen
  go_enter Try.func26, Try.ntmps26
  go_wp2
  clear c0
  go_loopw [12] (fun iv wr => ∃ j : Nat, iv = .int .i64 j ∧ j ≤ L.length ∧ Hid (∀ t, t < j → (th L t).i ≠ id) ∧ Below w.heap.size w wr)
    (fun iv _ => L.length - (intOf iv).toNat)
  case atStart => exact ⟨0, rfl, Nat.zero_le _, fun t ht => by omega, Below.refl _ _⟩
  case round =>
    obtain ⟨j, rfl, hjl, hF, hbl⟩ := hrel
    by_cases hj : j < L.length
    · obtain ⟨g, rfl⟩ := h.at_ (by omega)
      have hr := h.below hbl
      obtain ⟨z0, z1⟩ := hr.cells hj
      have hji : (j : Int) < (L.length : Int) := by omega
      have hj2 : Hid (j ≤ 100000) := Nat.le_trans hjl (Nat.le_trans hlen'.out (by decide))
      have hA : Hid ((th L j).i = id → atI L id j) := fun e => Or.inr ⟨j, rfl, hj, e, hF.out⟩
      have hs : Hid ((th L j).i ≠ id → ∀ t, t < j + 1 → (th L t).i ≠ id) := fun hne t ht => by
        by_cases e : t = j
        · subst e; exact hne
        · exact hF.out t (by omega)
      generalize th L j = x at *
      clear hr
      by_cases hid : x.i = id
      · have hA' : Hid (atI L id j) := hA.out hid
        clear hA hs hF
        subst hid
        go_wp2
        go_ret
        exact ⟨j, rfl, hA'.out, hbl.alloc hbl.size _⟩
      · have hs' : Hid (∀ t, t < j + 1 → (th L t).i ≠ id) := hs.out hid
        clear hA hs hF
        go_wp2
        refine ⟨⟨j + 1, ?_, hj, hs'.out, hbl.alloc hbl.size _⟩, ?_⟩
        · first | exact int_succ j | exact int_wsucc hj2.out
        · first | exact meas_1 hj | exact meas_w hj hj2.out
    · have hji : ¬ (j : Int) < (L.length : Int) := by omega
      have hno : Hid (hasId L id = false) := by
        show _ = _
        cases e : hasId L id
        · rfl
        · obtain ⟨y, hy, ey⟩ := hasId_true e
          obtain ⟨k, hk, ek⟩ := List.getElem_of_mem hy
          exact absurd (by rw [th_get hk, ek, ey]) (hF.out k (by omega))
      go_wp2
      go_ret
      exact ⟨-1, rfl, Or.inl ⟨rfl, hno.out⟩, hbl⟩

theorem at_neg {L : List Th} {id n : Int} (h : atI L id n) : n < 0 ↔ hasId L id = false := by
  rcases h with ⟨rfl, h⟩ | ⟨k, rfl, hk, e, _⟩
  · simp [h]
  · constructor
    · intro h; omega
    · intro h
      exact absurd e (hasId_false h _ (th_mem hk))
end Go.Proofs.Ythkhlgannimebaa
