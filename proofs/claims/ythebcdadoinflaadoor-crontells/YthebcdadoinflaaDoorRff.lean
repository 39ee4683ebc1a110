/- What the reference's Sets and CronFault answer: contracts, each proved by a walk over its own text. -/
import Derived.Test.YthebcdadoinflaaDoorRfb
namespace Go.Proofs.YthebcdadoinflaaDoor
open Go.RowKit Cal Crn

set_option maxHeartbeats 800000 in
theorem Sets_any (a b c d e : Int) (w : World) :
    Calls Tryd.prog 19 #[.agg #[.int .u64 a, .int .u64 b, .int .u64 c, .int .u64 d, .int .u64 e]] w fun r w' => r = .returned (.tuple #[.agg #[.int .u64 a, .int .u64 b, .int .u64 c, .int .u64 d, .int .u64 e], .agg #[.int .i64 0, .int .i64 0, .int .i64 1, .int .i64 1, .int .i64 0], .agg #[.int .i64 59, .int .i64 23, .int .i64 31, .int .i64 12, .int .i64 6]]) ∧ Below w.heap.size w w' := by
  go_enter Tryd.func19, Tryd.ntmps19
  go_wp2
  exact bodyPost_ret (v := .tuple #[.agg #[.int .u64 a, .int .u64 b, .int .u64 c, .int .u64 d, .int .u64 e], .agg #[.int .i64 0, .int .i64 0, .int .i64 1, .int .i64 1, .int .i64 0], .agg #[.int .i64 59, .int .i64 23, .int .i64 31, .int .i64 12, .int .i64 6]]) (by simp [results, Tryd.results19, go_sem]) rfl ⟨rfl, (((below_box w _).alloc (by simp) _).alloc (by simp; omega) _).alloc (by simp; omega) _⟩

theorem ok_all {c : Cr} (h : In5 c) : okB c = true ↔ ∀ i, i < 5 → fineI c i := ok_fine h.a h.b h.d h.e h.f
theorem not_ok {c : Cr} (h : In5 c) {k : Nat} (hk : k < 5) (hf : ¬ fineI c k) : okB c = false := by
  by_cases e : okB c = true
  · exact absurd ((ok_all h).1 e k hk) hf
  · simpa using e
theorem setI_lt {c : Cr} (h : In5 c) (k : Nat) : setI c k < 18446744073709551616 := by
  unfold setI
  split
  · exact h.a
  · exact h.b
  · exact h.d
  · exact h.e
  · exact h.f
theorem cell_blk {w : World} {g : Nat} {cs : Array Value} {t : TypeId} {fr : Nat × Nat} (h : w.heap[g]? = some (.cells cs t fr)) (i : Nat) : w.cell? ⟨g, i, none⟩ = cs[i]? := by simp [World.cell?, h]
theorem push_at {xs : Array Obj} {o : Obj} {i : Nat} (h : i = xs.size) : (xs.push o)[i]? = some o := by subst h; simp
theorem push_lt {xs : Array Obj} {o : Obj} {i : Nat} (h : i < xs.size) : (xs.push o)[i]? = xs[i]? := by rw [Array.getElem?_push, if_neg (by omega)]
theorem three_new (w : World) (a b d : Obj) : (((w.alloc a).alloc b).alloc d).heap[w.heap.size]? = some a ∧ (((w.alloc a).alloc b).alloc d).heap[w.heap.size + 1]? = some b ∧ (((w.alloc a).alloc b).alloc d).heap[w.heap.size + 1 + 1]? = some d := by
  refine ⟨?_, ?_, ?_⟩
  · show (((w.heap.push a).push b).push d)[w.heap.size]? = _
    rw [push_lt (by simp; omega), push_lt (by simp), push_at rfl]
  · show (((w.heap.push a).push b).push d)[w.heap.size + 1]? = _
    rw [push_lt (by simp), push_at (by simp)]
  · show (((w.heap.push a).push b).push d)[w.heap.size + 1 + 1]? = _
    rw [push_at (by simp)]
theorem lo_lt (k : Nat) : loI k < 64 := by unfold loI; split <;> omega
theorem hi_lt (k : Nat) : hiI k < 64 := by unfold hiI; split <;> omega

set_option maxHeartbeats 4000000 in
theorem CronFault_any (c : Cr) (h5 : In5 c) (w : World) :
    Calls Tryd.prog 9 #[.agg #[.int .u64 c.mi, .int .u64 c.ho, .int .u64 c.dm, .int .u64 c.mo, .int .u64 c.dw]] w fun e w' => ((e = .returned (.int .i64 0) ∧ okB c = true) ∨ (e = .returned (.int .i64 3) ∧ okB c = false)) ∧ Below w.heap.size w w' := by
  go_enter Tryd.func9, Tryd.ntmps9
  go_wp2_with fail
  refine (Sets_any _ _ _ _ _ _).mono ?_
  rintro e w1 ⟨rfl, hb⟩
  have hb1 : Below w.heap.size w w1 := (below_box w _).trans (hb.mono (by simp))
  clear hb
  go_wp2_with fail
  generalize hwq : World.alloc (World.alloc (World.alloc w1 _) _) _ = wq
  have hs : ∀ i, i < 5 → wq.cell? ⟨w1.heap.size, i, none⟩ = some (.int .u64 (setI c i)) := by
    intro i hi
    rw [← hwq, cell_blk (three_new _ _ _ _).1 i]
    rcases (show i = 0 ∨ i = 1 ∨ i = 2 ∨ i = 3 ∨ i = 4 by omega) with e | e | e | e | e <;> subst e <;> rfl
  have hl : ∀ i, i < 5 → wq.cell? ⟨w1.heap.size + 1, i, none⟩ = some (.int .i64 (loI i)) := by
    intro i hi
    rw [← hwq, cell_blk (three_new _ _ _ _).2.1 i]
    rcases (show i = 0 ∨ i = 1 ∨ i = 2 ∨ i = 3 ∨ i = 4 by omega) with e | e | e | e | e <;> subst e <;> rfl
  have hh : ∀ i, i < 5 → wq.cell? ⟨w1.heap.size + 1 + 1, i, none⟩ = some (.int .i64 (hiI i)) := by
    intro i hi
    rw [← hwq, cell_blk (three_new _ _ _ _).2.2 i]
    rcases (show i = 0 ∨ i = 1 ∨ i = 2 ∨ i = 3 ∨ i = 4 by omega) with e | e | e | e | e <;> subst e <;> rfl
  have hbq : Below w.heap.size w wq := by
    rw [← hwq]
    exact ((hb1.alloc hb1.size _).alloc (by have := hb1.size; simp; omega) _).alloc (by have := hb1.size; simp; omega) _
  clear hwq
  go_loop [15] (fun i => ∃ k : Nat, k ≤ 5 ∧ i = .int .i64 k ∧ Hid (∀ j, j < k → fineI c j)) (fun i => 5 - (intOf i).toNat)
  case atStart => exact ⟨0, by omega, rfl, fun j hj => by omega⟩
  case round =>
    obtain ⟨k, hk, rfl, hf⟩ := hrel
    by_cases hk5 : k < 5
    · have hsk := hs k hk5
      have hlk := hl k hk5
      have hhk := hh k hk5
      have hlt := setI_lt h5 k
      have hlo := lo_lt k
      have hhi := hi_lt k
      have HF : Hid (fineI c k ↔ setI c k ≠ 0 ∧ ∀ j, j < 64 → (setI c k).testBit j = true → loI k ≤ j ∧ j ≤ hiI k) := Iff.rfl
      have hnot := fun hf : ¬ fineI c k => not_ok h5 hk5 hf
      generalize setI c k = S at *
      generalize loI k = lo at *
      generalize hiI k = hi at *
      clear hs hl hh
      go_wp2_with fail
      go_loop [7, 18] (fun s i => ∃ (m : Nat) (sb : Bool), m ≤ 64 ∧ i = .int .i64 m ∧ s = .bool sb ∧ Hid (sb = true → S ≠ 0) ∧ Hid (sb = false → ∀ j, j < m → S.testBit j = false) ∧ Hid (∀ j, j < m → S.testBit j = true → lo ≤ j ∧ j ≤ hi)) (fun _ i => 64 - (intOf i).toNat)
      case atStart => exact ⟨0, false, by omega, rfl, rfl, (fun h => by cases h), (fun _ j hj => by omega), (fun j hj => by omega)⟩
      case round =>
        obtain ⟨m, sb, hm, rfl, rfl, g1, g2, g3⟩ := hrel
        by_cases hm64 : m < 64
        · by_cases hbit : S.testBit m = true
          · have hS0 : S ≠ 0 := by intro e; subst e; simp at hbit
            by_cases hlow : m < lo
            · go_wp2_with (go_at_call 21; refine (In_nat _ _ _ (by omega) (by omega)).mono ?_; rintro e w' ⟨rfl, rfl⟩)
              go_ret
              exact ⟨Or.inr ⟨rfl, hnot fun h => by have := (HF.out.1 h).2 m hm64 hbit; omega⟩, hbq⟩
            · by_cases hhig : hi < m
              · go_wp2_with (go_at_call 21; refine (In_nat _ _ _ (by omega) (by omega)).mono ?_; rintro e w' ⟨rfl, rfl⟩)
                go_ret
                exact ⟨Or.inr ⟨rfl, hnot fun h => by have := (HF.out.1 h).2 m hm64 hbit; omega⟩, hbq⟩
              · have HS : Hid (S ≠ 0) := hS0
                clear hS0
                go_wp2_with (go_at_call 21; refine (In_nat _ _ _ (by omega) (by omega)).mono ?_; rintro e w' ⟨rfl, rfl⟩)
                go_round
                case rel =>
                  refine ⟨m + 1, true, by omega, by go_num, rfl, (fun _ => HS.out), (fun h => by cases h), fun j hj hb => ?_⟩
                  rcases (show j < m ∨ j = m by omega) with l | l
                  · exact g3.out j l hb
                  · omega
                case measure => simp [intOf]; omega
          · have hbit' : S.testBit m = false := by simpa using hbit
            clear hbit
            go_wp2_with (go_at_call 21; refine (In_nat _ _ _ (by omega) (by omega)).mono ?_; rintro e w' ⟨rfl, rfl⟩)
            go_round
            case rel =>
              refine ⟨m + 1, sb, by omega, by go_num, rfl, g1, fun h j hj => ?_, fun j hj hb => ?_⟩
              · rcases (show j < m ∨ j = m by omega) with l | l
                · exact g2.out h j l
                · rw [l]; exact hbit'
              · rcases (show j < m ∨ j = m by omega) with l | l
                · exact g3.out j l hb
                · rw [l, hbit'] at hb; cases hb
            case measure => simp [intOf]; omega
        · have hme : m = 64 := by omega
          subst hme
          cases sb with
          | false =>
            go_wp2_with fail
            go_ret
            refine ⟨Or.inr ⟨rfl, hnot fun h => ?_⟩, hbq⟩
            obtain ⟨j, j1, j2⟩ := some_bit hlt (HF.out.1 h).1
            have := g2.out (by trivial) j j1
            rw [j2] at this
            cases this
          | true =>
            go_wp2_with fail
            go_round
            case rel =>
              refine ⟨k + 1, by omega, by go_num, fun j hj => ?_⟩
              rcases (show j < k ∨ j = k by omega) with l | l
              · exact hf.out j l
              · rw [l]; exact HF.out.2 ⟨g1.out (by trivial), g3.out⟩
            case measure => simp [intOf]; omega
    · have hke : k = 5 := by omega
      subst hke
      go_wp2_with fail
      go_ret
      exact ⟨Or.inl ⟨rfl, (ok_all h5).2 hf.out⟩, hbq⟩
theorem CronFault_yes (c : Cr) (hc : okB c = true) (w : World) :
    Calls Tryd.prog 9 #[.agg #[.int .u64 c.mi, .int .u64 c.ho, .int .u64 c.dm, .int .u64 c.mo, .int .u64 c.dw]] w fun e w' => e = .returned (.int .i64 0) ∧ Below w.heap.size w w' := by
  refine (CronFault_any c (in5_ok hc) w).mono ?_
  rintro e w' ⟨⟨rfl, _⟩ | ⟨rfl, h⟩, hb⟩
  · exact ⟨rfl, hb⟩
  · rw [hc] at h; cases h
theorem CronFault_no (c : Cr) (h5 : In5 c) (hc : okB c = false) (w : World) :
    Calls Tryd.prog 9 #[.agg #[.int .u64 c.mi, .int .u64 c.ho, .int .u64 c.dm, .int .u64 c.mo, .int .u64 c.dw]] w fun e w' => e = .returned (.int .i64 3) ∧ Below w.heap.size w w' := by
  refine (CronFault_any c h5 w).mono ?_
  rintro e w' ⟨⟨rfl, h⟩ | ⟨rfl, _⟩, hb⟩
  · rw [hc] at h; cases h
  · exact ⟨rfl, hb⟩
end Go.Proofs.YthebcdadoinflaaDoor
