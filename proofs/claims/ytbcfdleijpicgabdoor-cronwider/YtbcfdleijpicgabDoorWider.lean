/- CronWider: where more months, hours and minutes are told, the next time is not later: the walk. -/
import Derived.Test.YtbcfdleijpicgabDoorSom
import Derived.BigRegion
namespace Go.Proofs.YtbcfdleijpicgabDoor
open Go.RowKit Cal Crn

theorem block_set {w : World} {g i : Nat} {cs : Array Value} {t : TypeId} {fr : Nat × Nat} (h : w.heap[g]? = some (.cells cs t fr)) (v : Value) : (w.setCell ⟨g, i, none⟩ v).heap[g]? = some (.cells (cs.setIfInBounds i v) t fr) := by
  simp [World.setCell, Array.getElem?_modify, h]
theorem three_set (w1 : World) (T : TypeId) (x0 x1 x2 x3 x4 y0 y1 y3 : Value) :
    ((((w1.alloc (.cells #[x0, x1, x2, x3, x4] T)).setCell ⟨w1.heap.size, 0, none⟩ y0).setCell ⟨w1.heap.size, 1, none⟩ y1).setCell ⟨w1.heap.size, 3, none⟩ y3).heap[w1.heap.size]? = some (.cells #[y0, y1, x2, y3, x4] T (0, 0)) := by
  have h0 : (w1.alloc (.cells #[x0, x1, x2, x3, x4] T)).heap[w1.heap.size]? = some (.cells #[x0, x1, x2, x3, x4] T (0, 0))   := by
    show (w1.heap.push _)[w1.heap.size]? = _
    simp
  exact block_set (block_set (block_set h0 y0) y1) y3
theorem cell_of {w : World} {g : Nat} {cs : Array Value} {t : TypeId} {fr : Nat × Nat} (h : w.heap[g]? = some (.cells cs t fr)) (i : Nat) : w.cell? ⟨g, i, none⟩ = cs[i]? := by simp [World.cell?, h]
/-- The wider cron. -/
def wid (c d : Cr) : Cr := ⟨c.mi ||| d.mi, c.ho ||| d.ho, c.dm, c.mo ||| d.mo, c.dw⟩
theorem or_lt {a b : Nat} (h : a < 18446744073709551616) (h' : b < 18446744073709551616) : a ||| b < 18446744073709551616 := Nat.or_lt_two_pow (n := 64) h h'
theorem wid_in {c d : Cr} (h : In5 c) (h' : In5 d) : In5 (wid c d) := ⟨or_lt h.a h'.a, or_lt h.b h'.b, h.d, or_lt h.e h'.e, h.f⟩
theorem has_or {a b : Nat} {n : Int} (h : hasB a n = true) : hasB (a ||| b) n = true := by
  unfold hasB at *
  rw [Nat.testBit_or, h]
  rfl
theorem wid_mat {c : Cr} (d : Cr) {t : Int} (h : matB c t = true) : matB (wid c d) t = true := by
  rw [mat_eq] at *
  simp only [Bool.and_eq_true] at *
  obtain ⟨⟨a, b⟩, e⟩ := h
  unfold dmB at *
  simp only [Bool.and_eq_true] at *
  exact ⟨⟨has_or a, has_or b⟩, has_or e.1, e.2⟩
theorem wid_next {c : Cr} (d : Cr) {t n : Int} (h : NextIs c t n) : ∃ m, NextIs (wid c d) t m ∧ m ≤ n := by
  obtain ⟨a1, a2, a3, _⟩ := h
  have hm := wid_mat d a3
  rcases next_or (wid c d) (t := t) (by omega) with ⟨m, hm'⟩ | e
  · refine ⟨m, hm', ?_⟩
    rcases Int.lt_or_le n m with l | l
    · have := hm'.2.2.2 n a1 l
      rw [hm] at this
      cases this
    · exact l
  · have := e n a1 a2
    rw [hm] at this
    cases this
theorem Next_err (c : Cr) (h5 : In5 c) (t : Int) (w : World) (hT : Tb w) (h : okB c = false ∨ (okB c = true ∧ ((t < -1 ∨ 5258964959 < t) ∨ (-1 ≤ t ∧ t ≤ 5258964959 ∧ NoNext c t)))) :
    Calls Tryd.prog 9 #[.agg #[.int .u64 c.mi, .int .u64 c.ho, .int .u64 c.dm, .int .u64 c.mo, .int .u64 c.dw], .int .i64 t] w fun e w' => ∃ k : Int, e = .returned (.tuple #[.int .i64 0, .int .i64 k]) ∧ 0 < k ∧ Below w.heap.size w w' := by
  rcases h with hc | ⟨hc, ht | ⟨h1, h2, hn⟩⟩
  · refine (Next_bad c h5 hc t w hT).mono ?_
    rintro e w' ⟨rfl, hb⟩
    exact ⟨_, rfl, by omega, hb⟩
  · refine (Next_range c hc t w hT ht).mono ?_
    rintro e w' ⟨rfl, hb⟩
    exact ⟨_, rfl, by omega, hb⟩
  · refine (Next_none c hc t w hT h1 h2 hn).mono ?_
    rintro e w' ⟨rfl, hb⟩
    exact ⟨_, rfl, by omega, hb⟩
theorem Next_some (c : Cr) (h5 : In5 c) (t : Int) (w : World) (hT : Tb w) :
    Calls Tryd.prog 9 #[.agg #[.int .u64 c.mi, .int .u64 c.ho, .int .u64 c.dm, .int .u64 c.mo, .int .u64 c.dw], .int .i64 t] w fun e w' => ∃ n k : Int, e = .returned (.tuple #[.int .i64 n, .int .i64 k]) ∧ Below w.heap.size w w' := by
  by_cases hc : okB c = true
  · by_cases ht : t < -1 ∨ 5258964959 < t
    · refine (Next_range c hc t w hT ht).mono ?_
      rintro e w' ⟨rfl, hb⟩
      exact ⟨_, _, rfl, hb⟩
    · refine (Next_any c hc t w hT (by omega) (by omega)).mono ?_
      rintro e w' ⟨⟨n, rfl, _⟩ | ⟨rfl, _⟩, hb⟩
      · exact ⟨_, _, rfl, hb⟩
      · exact ⟨_, _, rfl, hb⟩
  · refine (Next_bad c h5 (by simpa using hc) t w hT).mono ?_
    rintro e w' ⟨rfl, hb⟩
    exact ⟨_, _, rfl, hb⟩

set_option maxHeartbeats 4000000 in
theorem wider_err (c d : Cr) (h5 : In5 c) (k5 : In5 d) (t : Int) (w : World) (hT : Tb w) (h : okB c = false ∨ (okB c = true ∧ ((t < -1 ∨ 5258964959 < t) ∨ (-1 ≤ t ∧ t ≤ 5258964959 ∧ NoNext c t)))) :
    Calls Tryd.prog 4 #[.agg #[.int .u64 c.mi, .int .u64 c.ho, .int .u64 c.dm, .int .u64 c.mo, .int .u64 c.dw], .agg #[.int .u64 d.mi, .int .u64 d.ho, .int .u64 d.dm, .int .u64 d.mo, .int .u64 d.dw], .int .i64 t] w fun e w' => e = .returned (.bool true) ∧ Below w.heap.size w w' := by
  go_enter Tryd.func4, Tryd.ntmps4
  go_wp2_with fail
  refine (crons_any _ ((hT.alloc _).alloc _)).mono ?_
  rintro e w1 ⟨rfl, hb⟩
  have hb0 : Below (w.heap.size + 2) ((w.alloc (.cells #[.int .u64 c.mi, .int .u64 c.ho, .int .u64 c.dm, .int .u64 c.mo, .int .u64 c.dw] 24)).alloc (.cells #[.int .u64 d.mi, .int .u64 d.ho, .int .u64 d.dm, .int .u64 d.mo, .int .u64 d.dw] 24)) w1 := hb.mono (by simp)
  clear hb
  obtain ⟨hcl, hfz⟩ := bcell hb0
  have hz : w.heap.size + 1 < w1.heap.size := by have := hb0.size; simp at this; omega
  go_wp2_with fail
  generalize hwq : w1.alloc _ = wq
  have a0 : wq.cell? ⟨w.heap.size, 0, none⟩ = some (.int .u64 c.mi) := by rw [← hwq, (below_box w1 _).cell (p := ⟨w.heap.size, 0, none⟩) (by simp; omega), hcl _ _ (by omega)]; simp
  have a1 : wq.cell? ⟨w.heap.size, 1, none⟩ = some (.int .u64 c.ho) := by rw [← hwq, (below_box w1 _).cell (p := ⟨w.heap.size, 1, none⟩) (by simp; omega), hcl _ _ (by omega)]; simp
  have a3 : wq.cell? ⟨w.heap.size, 3, none⟩ = some (.int .u64 c.mo) := by rw [← hwq, (below_box w1 _).cell (p := ⟨w.heap.size, 3, none⟩) (by simp; omega), hcl _ _ (by omega)]; simp
  have b0 : wq.cell? ⟨w.heap.size + 1, 0, none⟩ = some (.int .u64 d.mi) := by rw [← hwq, (below_box w1 _).cell (p := ⟨w.heap.size + 1, 0, none⟩) (by simp; omega), hcl _ _ (by omega)]; simp
  have b1 : wq.cell? ⟨w.heap.size + 1, 1, none⟩ = some (.int .u64 d.ho) := by rw [← hwq, (below_box w1 _).cell (p := ⟨w.heap.size + 1, 1, none⟩) (by simp; omega), hcl _ _ (by omega)]; simp
  have b3 : wq.cell? ⟨w.heap.size + 1, 3, none⟩ = some (.int .u64 d.mo) := by rw [← hwq, (below_box w1 _).cell (p := ⟨w.heap.size + 1, 3, none⟩) (by simp; omega), hcl _ _ (by omega)]; simp
  have e0 : wq.cell? ⟨w1.heap.size, 0, none⟩ = some (.int .u64 c.mi) := by rw [← hwq]; simp
  have f0 : wq.frozen? ⟨w1.heap.size, 0, none⟩ = false := by rw [← hwq]; simp
  have e1 : wq.cell? ⟨w1.heap.size, 1, none⟩ = some (.int .u64 c.ho) := by rw [← hwq]; simp
  have f1 : wq.frozen? ⟨w1.heap.size, 1, none⟩ = false := by rw [← hwq]; simp
  have e3 : wq.cell? ⟨w1.heap.size, 3, none⟩ = some (.int .u64 c.mo) := by rw [← hwq]; simp
  have f3 : wq.frozen? ⟨w1.heap.size, 3, none⟩ = false := by rw [← hwq]; simp
  go_region
  generalize hw2 : World.drew _ = w2
  have hB2 : Below (w.heap.size + 2) ((w.alloc (.cells #[.int .u64 c.mi, .int .u64 c.ho, .int .u64 c.dm, .int .u64 c.mo, .int .u64 c.dw] 24)).alloc (.cells #[.int .u64 d.mi, .int .u64 d.ho, .int .u64 d.dm, .int .u64 d.mo, .int .u64 d.dw] 24)) w2 := by
    rw [← hw2, ← hwq]
    exact ((((hb0.alloc (by omega) _).setCell (by simp; omega) _).setCell (by simp; omega) _).setCell (by simp; omega) _).drew
  have hT2 : Tb w2 := ((hT.alloc _).alloc _).below hB2 (by simp)
  have hs2 : w1.heap.size < w2.heap.size := by rw [← hw2, ← hwq]; simp
  have hblk : w2.heap[w1.heap.size]? = some (.cells #[.int .u64 (bits .or .u64 c.mi d.mi), .int .u64 (bits .or .u64 c.ho d.ho), .int .u64 c.dm, .int .u64 (bits .or .u64 c.mo d.mo), .int .u64 c.dw] 24 (0, 0)) := by
    rw [← hw2, ← hwq]
    exact three_set _ _ _ _ _ _ _ _ _ _
  rw [bits_or_u64_nat _ _ h5.a k5.a, bits_or_u64_nat _ _ h5.b k5.b, bits_or_u64_nat _ _ h5.e k5.e] at hblk
  have g0 : w2.cell? ⟨w1.heap.size, 0, none⟩ = some (.int .u64 (c.mi ||| d.mi : Nat)) := cell_of hblk 0
  have g1 : w2.cell? ⟨w1.heap.size, 1, none⟩ = some (.int .u64 (c.ho ||| d.ho : Nat)) := cell_of hblk 1
  have g2 : w2.cell? ⟨w1.heap.size, 2, none⟩ = some (.int .u64 c.dm) := cell_of hblk 2
  have g3 : w2.cell? ⟨w1.heap.size, 3, none⟩ = some (.int .u64 (c.mo ||| d.mo : Nat)) := cell_of hblk 3
  have g4 : w2.cell? ⟨w1.heap.size, 4, none⟩ = some (.int .u64 c.dw) := cell_of hblk 4
  clear hblk
  clear a0 a1 a3 b0 b1 b3 e0 e1 e3 f0 f1 f3 hwq hcl hfz
  clear hw2
  obtain ⟨hcl, hfz⟩ := bcell hB2
  go_wp2_with fail
  refine (Next_err c h5 _ _ hT2 h).mono ?_
  rintro e w3 ⟨k, rfl, hk, hb⟩
  have hB3 : Below (w.heap.size + 2) ((w.alloc (.cells #[.int .u64 c.mi, .int .u64 c.ho, .int .u64 c.dm, .int .u64 c.mo, .int .u64 c.dw] 24)).alloc (.cells #[.int .u64 d.mi, .int .u64 d.ho, .int .u64 d.dm, .int .u64 d.mo, .int .u64 d.dw] 24)) w3 := hB2.trans (hb.mono (by have := hB2.size; simp at this; omega))
  have hT3 : Tb w3 := ((hT.alloc _).alloc _).below hB3 (by simp)
  have hs3 : w1.heap.size < w3.heap.size := Nat.lt_of_lt_of_le hs2 hb.size
  have hcb3 : ∀ o, w3.cell? ⟨w1.heap.size, o, none⟩ = w2.cell? ⟨w1.heap.size, o, none⟩ := fun o => hb.cell (p := ⟨w1.heap.size, o, none⟩) hs2
  clear hb
  obtain ⟨hcl3, hfz3⟩ := bcell hB3
  go_wp2_with fail
  refine (Next_some (wid c d) (wid_in h5 k5) _ _ hT3).mono ?_
  rintro e w4 ⟨n2, k2, rfl, hb⟩
  have hB4 : Below (w.heap.size + 2) ((w.alloc (.cells #[.int .u64 c.mi, .int .u64 c.ho, .int .u64 c.dm, .int .u64 c.mo, .int .u64 c.dw] 24)).alloc (.cells #[.int .u64 d.mi, .int .u64 d.ho, .int .u64 d.dm, .int .u64 d.mo, .int .u64 d.dw] 24)) w4 := hB3.trans (hb.mono (by have := hB3.size; simp at this; omega))
  have hT4 : Tb w4 := ((hT.alloc _).alloc _).below hB4 (by simp)
  have hs4 : w1.heap.size < w4.heap.size := Nat.lt_of_lt_of_le hs3 hb.size
  have hcb4 : ∀ o, w4.cell? ⟨w1.heap.size, o, none⟩ = w3.cell? ⟨w1.heap.size, o, none⟩ := fun o => hb.cell (p := ⟨w1.heap.size, o, none⟩) hs3
  clear hb
  obtain ⟨hcl4, hfz4⟩ := bcell hB4
  go_wp2_with fail
  go_ret
  exact ⟨rfl, ((below_box w _).alloc (by simp) _).trans (hB4.mono (by omega))⟩

set_option maxHeartbeats 4000000 in
theorem wider_bad (c d : Cr) (h5 : In5 c) (k5 : In5 d) (t n : Int) (w : World) (hT : Tb w) (hc : okB c = true) (h1 : -1 ≤ t) (h2 : t ≤ 5258964959) (hn : NextIs c t n) (hw : okB (wid c d) = false) :
    Calls Tryd.prog 4 #[.agg #[.int .u64 c.mi, .int .u64 c.ho, .int .u64 c.dm, .int .u64 c.mo, .int .u64 c.dw], .agg #[.int .u64 d.mi, .int .u64 d.ho, .int .u64 d.dm, .int .u64 d.mo, .int .u64 d.dw], .int .i64 t] w fun e w' => e = .returned (.bool true) ∧ Below w.heap.size w w' := by
  go_enter Tryd.func4, Tryd.ntmps4
  go_wp2_with fail
  refine (crons_any _ ((hT.alloc _).alloc _)).mono ?_
  rintro e w1 ⟨rfl, hb⟩
  have hb0 : Below (w.heap.size + 2) ((w.alloc (.cells #[.int .u64 c.mi, .int .u64 c.ho, .int .u64 c.dm, .int .u64 c.mo, .int .u64 c.dw] 24)).alloc (.cells #[.int .u64 d.mi, .int .u64 d.ho, .int .u64 d.dm, .int .u64 d.mo, .int .u64 d.dw] 24)) w1 := hb.mono (by simp)
  clear hb
  obtain ⟨hcl, hfz⟩ := bcell hb0
  have hz : w.heap.size + 1 < w1.heap.size := by have := hb0.size; simp at this; omega
  go_wp2_with fail
  generalize hwq : w1.alloc _ = wq
  have a0 : wq.cell? ⟨w.heap.size, 0, none⟩ = some (.int .u64 c.mi) := by rw [← hwq, (below_box w1 _).cell (p := ⟨w.heap.size, 0, none⟩) (by simp; omega), hcl _ _ (by omega)]; simp
  have a1 : wq.cell? ⟨w.heap.size, 1, none⟩ = some (.int .u64 c.ho) := by rw [← hwq, (below_box w1 _).cell (p := ⟨w.heap.size, 1, none⟩) (by simp; omega), hcl _ _ (by omega)]; simp
  have a3 : wq.cell? ⟨w.heap.size, 3, none⟩ = some (.int .u64 c.mo) := by rw [← hwq, (below_box w1 _).cell (p := ⟨w.heap.size, 3, none⟩) (by simp; omega), hcl _ _ (by omega)]; simp
  have b0 : wq.cell? ⟨w.heap.size + 1, 0, none⟩ = some (.int .u64 d.mi) := by rw [← hwq, (below_box w1 _).cell (p := ⟨w.heap.size + 1, 0, none⟩) (by simp; omega), hcl _ _ (by omega)]; simp
  have b1 : wq.cell? ⟨w.heap.size + 1, 1, none⟩ = some (.int .u64 d.ho) := by rw [← hwq, (below_box w1 _).cell (p := ⟨w.heap.size + 1, 1, none⟩) (by simp; omega), hcl _ _ (by omega)]; simp
  have b3 : wq.cell? ⟨w.heap.size + 1, 3, none⟩ = some (.int .u64 d.mo) := by rw [← hwq, (below_box w1 _).cell (p := ⟨w.heap.size + 1, 3, none⟩) (by simp; omega), hcl _ _ (by omega)]; simp
  have e0 : wq.cell? ⟨w1.heap.size, 0, none⟩ = some (.int .u64 c.mi) := by rw [← hwq]; simp
  have f0 : wq.frozen? ⟨w1.heap.size, 0, none⟩ = false := by rw [← hwq]; simp
  have e1 : wq.cell? ⟨w1.heap.size, 1, none⟩ = some (.int .u64 c.ho) := by rw [← hwq]; simp
  have f1 : wq.frozen? ⟨w1.heap.size, 1, none⟩ = false := by rw [← hwq]; simp
  have e3 : wq.cell? ⟨w1.heap.size, 3, none⟩ = some (.int .u64 c.mo) := by rw [← hwq]; simp
  have f3 : wq.frozen? ⟨w1.heap.size, 3, none⟩ = false := by rw [← hwq]; simp
  go_region
  generalize hw2 : World.drew _ = w2
  have hB2 : Below (w.heap.size + 2) ((w.alloc (.cells #[.int .u64 c.mi, .int .u64 c.ho, .int .u64 c.dm, .int .u64 c.mo, .int .u64 c.dw] 24)).alloc (.cells #[.int .u64 d.mi, .int .u64 d.ho, .int .u64 d.dm, .int .u64 d.mo, .int .u64 d.dw] 24)) w2 := by
    rw [← hw2, ← hwq]
    exact ((((hb0.alloc (by omega) _).setCell (by simp; omega) _).setCell (by simp; omega) _).setCell (by simp; omega) _).drew
  have hT2 : Tb w2 := ((hT.alloc _).alloc _).below hB2 (by simp)
  have hs2 : w1.heap.size < w2.heap.size := by rw [← hw2, ← hwq]; simp
  have hblk : w2.heap[w1.heap.size]? = some (.cells #[.int .u64 (bits .or .u64 c.mi d.mi), .int .u64 (bits .or .u64 c.ho d.ho), .int .u64 c.dm, .int .u64 (bits .or .u64 c.mo d.mo), .int .u64 c.dw] 24 (0, 0)) := by
    rw [← hw2, ← hwq]
    exact three_set _ _ _ _ _ _ _ _ _ _
  rw [bits_or_u64_nat _ _ h5.a k5.a, bits_or_u64_nat _ _ h5.b k5.b, bits_or_u64_nat _ _ h5.e k5.e] at hblk
  have g0 : w2.cell? ⟨w1.heap.size, 0, none⟩ = some (.int .u64 (c.mi ||| d.mi : Nat)) := cell_of hblk 0
  have g1 : w2.cell? ⟨w1.heap.size, 1, none⟩ = some (.int .u64 (c.ho ||| d.ho : Nat)) := cell_of hblk 1
  have g2 : w2.cell? ⟨w1.heap.size, 2, none⟩ = some (.int .u64 c.dm) := cell_of hblk 2
  have g3 : w2.cell? ⟨w1.heap.size, 3, none⟩ = some (.int .u64 (c.mo ||| d.mo : Nat)) := cell_of hblk 3
  have g4 : w2.cell? ⟨w1.heap.size, 4, none⟩ = some (.int .u64 c.dw) := cell_of hblk 4
  clear hblk
  clear a0 a1 a3 b0 b1 b3 e0 e1 e3 f0 f1 f3 hwq hcl hfz
  clear hw2
  obtain ⟨hcl, hfz⟩ := bcell hB2
  go_wp2_with fail
  refine (Next_at c hc _ n _ hT2 h1 h2 hn).mono ?_
  rintro e w3 ⟨rfl, hb⟩
  have hB3 : Below (w.heap.size + 2) ((w.alloc (.cells #[.int .u64 c.mi, .int .u64 c.ho, .int .u64 c.dm, .int .u64 c.mo, .int .u64 c.dw] 24)).alloc (.cells #[.int .u64 d.mi, .int .u64 d.ho, .int .u64 d.dm, .int .u64 d.mo, .int .u64 d.dw] 24)) w3 := hB2.trans (hb.mono (by have := hB2.size; simp at this; omega))
  have hT3 : Tb w3 := ((hT.alloc _).alloc _).below hB3 (by simp)
  have hs3 : w1.heap.size < w3.heap.size := Nat.lt_of_lt_of_le hs2 hb.size
  have hcb3 : ∀ o, w3.cell? ⟨w1.heap.size, o, none⟩ = w2.cell? ⟨w1.heap.size, o, none⟩ := fun o => hb.cell (p := ⟨w1.heap.size, o, none⟩) hs2
  clear hb
  obtain ⟨hcl3, hfz3⟩ := bcell hB3
  go_wp2_with fail
  refine (Next_some (wid c d) (wid_in h5 k5) _ _ hT3).mono ?_
  rintro e w4 ⟨n2, k2, rfl, hb⟩
  have hB4 : Below (w.heap.size + 2) ((w.alloc (.cells #[.int .u64 c.mi, .int .u64 c.ho, .int .u64 c.dm, .int .u64 c.mo, .int .u64 c.dw] 24)).alloc (.cells #[.int .u64 d.mi, .int .u64 d.ho, .int .u64 d.dm, .int .u64 d.mo, .int .u64 d.dw] 24)) w4 := hB3.trans (hb.mono (by have := hB3.size; simp at this; omega))
  have hT4 : Tb w4 := ((hT.alloc _).alloc _).below hB4 (by simp)
  have hs4 : w1.heap.size < w4.heap.size := Nat.lt_of_lt_of_le hs3 hb.size
  have hcb4 : ∀ o, w4.cell? ⟨w1.heap.size, o, none⟩ = w3.cell? ⟨w1.heap.size, o, none⟩ := fun o => hb.cell (p := ⟨w1.heap.size, o, none⟩) hs3
  clear hb
  obtain ⟨hcl4, hfz4⟩ := bcell hB4
  go_wp2_with fail
  refine (Check_no (wid c d) (wid_in h5 k5) hw _ hT4).mono ?_
  rintro e w5 ⟨rfl, hb⟩
  have hB5 : Below (w.heap.size + 2) ((w.alloc (.cells #[.int .u64 c.mi, .int .u64 c.ho, .int .u64 c.dm, .int .u64 c.mo, .int .u64 c.dw] 24)).alloc (.cells #[.int .u64 d.mi, .int .u64 d.ho, .int .u64 d.dm, .int .u64 d.mo, .int .u64 d.dw] 24)) w5 := hB4.trans (hb.mono (by have := hB4.size; simp at this; omega))
  have hT5 : Tb w5 := ((hT.alloc _).alloc _).below hB5 (by simp)
  have hs5 : w1.heap.size < w5.heap.size := Nat.lt_of_lt_of_le hs4 hb.size
  have hcb5 : ∀ o, w5.cell? ⟨w1.heap.size, o, none⟩ = w4.cell? ⟨w1.heap.size, o, none⟩ := fun o => hb.cell (p := ⟨w1.heap.size, o, none⟩) hs4
  clear hb
  obtain ⟨hcl5, hfz5⟩ := bcell hB5
  go_wp2_with fail
  go_ret
  exact ⟨rfl, ((below_box w _).alloc (by simp) _).trans (hB5.mono (by omega))⟩

set_option maxHeartbeats 4000000 in
theorem wider_yes (c d : Cr) (h5 : In5 c) (k5 : In5 d) (t n m : Int) (w : World) (hT : Tb w) (hc : okB c = true) (h1 : -1 ≤ t) (h2 : t ≤ 5258964959) (hn : NextIs c t n) (hw : okB (wid c d) = true) (hm : NextIs (wid c d) t m) (hle : m ≤ n) :
    Calls Tryd.prog 4 #[.agg #[.int .u64 c.mi, .int .u64 c.ho, .int .u64 c.dm, .int .u64 c.mo, .int .u64 c.dw], .agg #[.int .u64 d.mi, .int .u64 d.ho, .int .u64 d.dm, .int .u64 d.mo, .int .u64 d.dw], .int .i64 t] w fun e w' => e = .returned (.bool true) ∧ Below w.heap.size w w' := by
  have hlt : t < m := hm.1
  go_enter Tryd.func4, Tryd.ntmps4
  go_wp2_with fail
  refine (crons_any _ ((hT.alloc _).alloc _)).mono ?_
  rintro e w1 ⟨rfl, hb⟩
  have hb0 : Below (w.heap.size + 2) ((w.alloc (.cells #[.int .u64 c.mi, .int .u64 c.ho, .int .u64 c.dm, .int .u64 c.mo, .int .u64 c.dw] 24)).alloc (.cells #[.int .u64 d.mi, .int .u64 d.ho, .int .u64 d.dm, .int .u64 d.mo, .int .u64 d.dw] 24)) w1 := hb.mono (by simp)
  clear hb
  obtain ⟨hcl, hfz⟩ := bcell hb0
  have hz : w.heap.size + 1 < w1.heap.size := by have := hb0.size; simp at this; omega
  go_wp2_with fail
  generalize hwq : w1.alloc _ = wq
  have a0 : wq.cell? ⟨w.heap.size, 0, none⟩ = some (.int .u64 c.mi) := by rw [← hwq, (below_box w1 _).cell (p := ⟨w.heap.size, 0, none⟩) (by simp; omega), hcl _ _ (by omega)]; simp
  have a1 : wq.cell? ⟨w.heap.size, 1, none⟩ = some (.int .u64 c.ho) := by rw [← hwq, (below_box w1 _).cell (p := ⟨w.heap.size, 1, none⟩) (by simp; omega), hcl _ _ (by omega)]; simp
  have a3 : wq.cell? ⟨w.heap.size, 3, none⟩ = some (.int .u64 c.mo) := by rw [← hwq, (below_box w1 _).cell (p := ⟨w.heap.size, 3, none⟩) (by simp; omega), hcl _ _ (by omega)]; simp
  have b0 : wq.cell? ⟨w.heap.size + 1, 0, none⟩ = some (.int .u64 d.mi) := by rw [← hwq, (below_box w1 _).cell (p := ⟨w.heap.size + 1, 0, none⟩) (by simp; omega), hcl _ _ (by omega)]; simp
  have b1 : wq.cell? ⟨w.heap.size + 1, 1, none⟩ = some (.int .u64 d.ho) := by rw [← hwq, (below_box w1 _).cell (p := ⟨w.heap.size + 1, 1, none⟩) (by simp; omega), hcl _ _ (by omega)]; simp
  have b3 : wq.cell? ⟨w.heap.size + 1, 3, none⟩ = some (.int .u64 d.mo) := by rw [← hwq, (below_box w1 _).cell (p := ⟨w.heap.size + 1, 3, none⟩) (by simp; omega), hcl _ _ (by omega)]; simp
  have e0 : wq.cell? ⟨w1.heap.size, 0, none⟩ = some (.int .u64 c.mi) := by rw [← hwq]; simp
  have f0 : wq.frozen? ⟨w1.heap.size, 0, none⟩ = false := by rw [← hwq]; simp
  have e1 : wq.cell? ⟨w1.heap.size, 1, none⟩ = some (.int .u64 c.ho) := by rw [← hwq]; simp
  have f1 : wq.frozen? ⟨w1.heap.size, 1, none⟩ = false := by rw [← hwq]; simp
  have e3 : wq.cell? ⟨w1.heap.size, 3, none⟩ = some (.int .u64 c.mo) := by rw [← hwq]; simp
  have f3 : wq.frozen? ⟨w1.heap.size, 3, none⟩ = false := by rw [← hwq]; simp
  go_region
  generalize hw2 : World.drew _ = w2
  have hB2 : Below (w.heap.size + 2) ((w.alloc (.cells #[.int .u64 c.mi, .int .u64 c.ho, .int .u64 c.dm, .int .u64 c.mo, .int .u64 c.dw] 24)).alloc (.cells #[.int .u64 d.mi, .int .u64 d.ho, .int .u64 d.dm, .int .u64 d.mo, .int .u64 d.dw] 24)) w2 := by
    rw [← hw2, ← hwq]
    exact ((((hb0.alloc (by omega) _).setCell (by simp; omega) _).setCell (by simp; omega) _).setCell (by simp; omega) _).drew
  have hT2 : Tb w2 := ((hT.alloc _).alloc _).below hB2 (by simp)
  have hs2 : w1.heap.size < w2.heap.size := by rw [← hw2, ← hwq]; simp
  have hblk : w2.heap[w1.heap.size]? = some (.cells #[.int .u64 (bits .or .u64 c.mi d.mi), .int .u64 (bits .or .u64 c.ho d.ho), .int .u64 c.dm, .int .u64 (bits .or .u64 c.mo d.mo), .int .u64 c.dw] 24 (0, 0)) := by
    rw [← hw2, ← hwq]
    exact three_set _ _ _ _ _ _ _ _ _ _
  rw [bits_or_u64_nat _ _ h5.a k5.a, bits_or_u64_nat _ _ h5.b k5.b, bits_or_u64_nat _ _ h5.e k5.e] at hblk
  have g0 : w2.cell? ⟨w1.heap.size, 0, none⟩ = some (.int .u64 (c.mi ||| d.mi : Nat)) := cell_of hblk 0
  have g1 : w2.cell? ⟨w1.heap.size, 1, none⟩ = some (.int .u64 (c.ho ||| d.ho : Nat)) := cell_of hblk 1
  have g2 : w2.cell? ⟨w1.heap.size, 2, none⟩ = some (.int .u64 c.dm) := cell_of hblk 2
  have g3 : w2.cell? ⟨w1.heap.size, 3, none⟩ = some (.int .u64 (c.mo ||| d.mo : Nat)) := cell_of hblk 3
  have g4 : w2.cell? ⟨w1.heap.size, 4, none⟩ = some (.int .u64 c.dw) := cell_of hblk 4
  clear hblk
  clear a0 a1 a3 b0 b1 b3 e0 e1 e3 f0 f1 f3 hwq hcl hfz
  clear hw2
  obtain ⟨hcl, hfz⟩ := bcell hB2
  go_wp2_with fail
  refine (Next_at c hc _ n _ hT2 h1 h2 hn).mono ?_
  rintro e w3 ⟨rfl, hb⟩
  have hB3 : Below (w.heap.size + 2) ((w.alloc (.cells #[.int .u64 c.mi, .int .u64 c.ho, .int .u64 c.dm, .int .u64 c.mo, .int .u64 c.dw] 24)).alloc (.cells #[.int .u64 d.mi, .int .u64 d.ho, .int .u64 d.dm, .int .u64 d.mo, .int .u64 d.dw] 24)) w3 := hB2.trans (hb.mono (by have := hB2.size; simp at this; omega))
  have hT3 : Tb w3 := ((hT.alloc _).alloc _).below hB3 (by simp)
  have hs3 : w1.heap.size < w3.heap.size := Nat.lt_of_lt_of_le hs2 hb.size
  have hcb3 : ∀ o, w3.cell? ⟨w1.heap.size, o, none⟩ = w2.cell? ⟨w1.heap.size, o, none⟩ := fun o => hb.cell (p := ⟨w1.heap.size, o, none⟩) hs2
  clear hb
  obtain ⟨hcl3, hfz3⟩ := bcell hB3
  go_wp2_with fail
  refine (Next_at (wid c d) hw _ m _ hT3 h1 h2 hm).mono ?_
  rintro e w4 ⟨rfl, hb⟩
  have hB4 : Below (w.heap.size + 2) ((w.alloc (.cells #[.int .u64 c.mi, .int .u64 c.ho, .int .u64 c.dm, .int .u64 c.mo, .int .u64 c.dw] 24)).alloc (.cells #[.int .u64 d.mi, .int .u64 d.ho, .int .u64 d.dm, .int .u64 d.mo, .int .u64 d.dw] 24)) w4 := hB3.trans (hb.mono (by have := hB3.size; simp at this; omega))
  have hT4 : Tb w4 := ((hT.alloc _).alloc _).below hB4 (by simp)
  have hs4 : w1.heap.size < w4.heap.size := Nat.lt_of_lt_of_le hs3 hb.size
  have hcb4 : ∀ o, w4.cell? ⟨w1.heap.size, o, none⟩ = w3.cell? ⟨w1.heap.size, o, none⟩ := fun o => hb.cell (p := ⟨w1.heap.size, o, none⟩) hs3
  clear hb
  obtain ⟨hcl4, hfz4⟩ := bcell hB4
  go_wp2_with fail
  refine (Check_yes (wid c d) hw _ hT4).mono ?_
  rintro e w5 ⟨rfl, hb⟩
  have hB5 : Below (w.heap.size + 2) ((w.alloc (.cells #[.int .u64 c.mi, .int .u64 c.ho, .int .u64 c.dm, .int .u64 c.mo, .int .u64 c.dw] 24)).alloc (.cells #[.int .u64 d.mi, .int .u64 d.ho, .int .u64 d.dm, .int .u64 d.mo, .int .u64 d.dw] 24)) w5 := hB4.trans (hb.mono (by have := hB4.size; simp at this; omega))
  have hT5 : Tb w5 := ((hT.alloc _).alloc _).below hB5 (by simp)
  have hs5 : w1.heap.size < w5.heap.size := Nat.lt_of_lt_of_le hs4 hb.size
  have hcb5 : ∀ o, w5.cell? ⟨w1.heap.size, o, none⟩ = w4.cell? ⟨w1.heap.size, o, none⟩ := fun o => hb.cell (p := ⟨w1.heap.size, o, none⟩) hs4
  clear hb
  obtain ⟨hcl5, hfz5⟩ := bcell hB5
  go_wp2_with fail
  go_ret
  exact ⟨rfl, ((below_box w _).alloc (by simp) _).trans (hB5.mono (by omega))⟩

theorem cronWider_walk (c : Cr) (h5 : In5 c) (d : Cr) (k5 : In5 d) (t : Int) (w : World) (hT : Tb w) :
    Calls Tryd.prog 4 #[.agg #[.int .u64 c.mi, .int .u64 c.ho, .int .u64 c.dm, .int .u64 c.mo, .int .u64 c.dw], .agg #[.int .u64 d.mi, .int .u64 d.ho, .int .u64 d.dm, .int .u64 d.mo, .int .u64 d.dw], .int .i64 t] w fun e w' => e = .returned (.bool true) ∧ Below w.heap.size w w' := by
  by_cases hc : okB c = true
  · by_cases ht : t < -1 ∨ 5258964959 < t
    · exact wider_err c d h5 k5 t w hT (Or.inr ⟨hc, Or.inl ht⟩)
    · rcases next_or c (t := t) (by omega) with ⟨n, hn⟩ | hn
      · by_cases hw : okB (wid c d) = true
        · obtain ⟨m, hm, hle⟩ := wid_next d hn
          exact wider_yes c d h5 k5 t n m w hT hc (by omega) (by omega) hn hw hm hle
        · exact wider_bad c d h5 k5 t n w hT hc (by omega) (by omega) hn (by simpa using hw)
      · exact wider_err c d h5 k5 t w hT (Or.inr ⟨hc, Or.inr ⟨by omega, by omega, hn⟩⟩)
  · exact wider_err c d h5 k5 t w hT (Or.inl (by simpa using hc))
end Go.Proofs.YtbcfdleijpicgabDoor
