/- What package cron's Next answers, for every cron and every time: the least time above that matches, or that there is none; a contract, proved by a walk over its own text. -/
import Derived.Test.YthebcdadoinflaaDoorNxt
namespace Go.Proofs.YthebcdadoinflaaDoor
open Go.RowKit Cal Crn

set_option maxHeartbeats 400000 in
theorem Next_bad (c : Cr) (h5 : In5 c) (hc : okB c = false) (t : Int) (w : World) (hT : Tb w) :
    Calls Tryd.prog 24 #[.agg #[.int .u64 c.mi, .int .u64 c.ho, .int .u64 c.dm, .int .u64 c.mo, .int .u64 c.dw], .int .i64 t] w fun e w' => e = .returned (.tuple #[.int .i64 0, .int .i64 3]) ∧ Below w.heap.size w w' := by
  go_enter Tryd.func24, Tryd.ntmps24
  go_wp2_with fail
  refine (Check_no c h5 hc _ (hT.alloc _)).mono ?_
  rintro e w1 ⟨rfl, hb⟩
  go_wp2
  go_ret2
  exact ⟨rfl, (below_box w _).trans (hb.mono (by simp))⟩

set_option maxHeartbeats 400000 in
theorem Next_range (c : Cr) (hc : okB c = true) (t : Int) (w : World) (hT : Tb w) (ht : t < -1 ∨ 5258964959 < t) :
    Calls Tryd.prog 24 #[.agg #[.int .u64 c.mi, .int .u64 c.ho, .int .u64 c.dm, .int .u64 c.mo, .int .u64 c.dw], .int .i64 t] w fun e w' => e = .returned (.tuple #[.int .i64 0, .int .i64 4]) ∧ Below w.heap.size w w' := by
  rcases ht with h | h
  · go_enter Tryd.func24, Tryd.ntmps24
    go_wp2_with fail
    refine (Check_yes c hc _ (hT.alloc _)).mono ?_
    rintro e w1 ⟨rfl, hb⟩
    go_wp2
    go_ret2
    exact ⟨rfl, (below_box w _).trans (hb.mono (by simp))⟩
  · have h' : ¬ t < -1 := by omega
    go_enter Tryd.func24, Tryd.ntmps24
    go_wp2_with fail
    refine (Check_yes c hc _ (hT.alloc _)).mono ?_
    rintro e w1 ⟨rfl, hb⟩
    go_wp2
    go_ret2
    exact ⟨rfl, (below_box w _).trans (hb.mono (by simp))⟩

set_option maxHeartbeats 2000000 in
theorem Next_today (c : Cr) (hc : okB c = true) (t : Int) (w : World) (hT : Tb w) (h1 : -1 ≤ t) (h2 : t ≤ 5258964959) (hd : (t + 1) / 1440 ≤ 3652058) (hm : dmB c ((t + 1) / 1440) = true) :
    Calls Tryd.prog 24 #[.agg #[.int .u64 c.mi, .int .u64 c.ho, .int .u64 c.dm, .int .u64 c.mo, .int .u64 c.dw], .int .i64 t] w fun e w' => ((∃ n, e = .returned (.tuple #[.int .i64 n, .int .i64 0]) ∧ NextIs c t n) ∨ (e = .returned (.tuple #[.int .i64 0, .int .i64 5]) ∧ NoNext c t)) ∧ Below w.heap.size w w' := by
  obtain ⟨o1, o2, o3, o4, _⟩ := ok_open hc
  have l1 := ctz_lt (x := c.mi) (by omega) (by omega)
  have l2 := ctz_lt (x := c.ho) (by omega) (by omega)
  go_enter Tryd.func24, Tryd.ntmps24
  go_wp2_with fail
  refine (Check_yes c hc _ (hT.alloc _)).mono ?_
  rintro e w1 ⟨rfl, hb⟩
  have hB1 : Below (w.heap.size + 1) (w.alloc (.cells #[.int .u64 c.mi, .int .u64 c.ho, .int .u64 c.dm, .int .u64 c.mo, .int .u64 c.dw] 24)) w1 := hb.mono (by simp)
  clear hb
  have hT1 := (hT.alloc _).below hB1 (by simp)
  obtain ⟨hcl1, hfz1⟩ := bcell hB1
  go_wp2_with fail
  refine (dayMatches_any c hc _ _ hT1 (by omega) (by omega)).mono ?_
  rintro e w2 ⟨rfl, hb⟩
  have hB2 : Below (w.heap.size + 1) (w.alloc (.cells #[.int .u64 c.mi, .int .u64 c.ho, .int .u64 c.dm, .int .u64 c.mo, .int .u64 c.dw] 24)) w2 := hB1.trans (hb.mono (by have := hB1.size; simp at this; omega))
  clear hb
  have hT2 := (hT.alloc _).below hB2 (by simp)
  obtain ⟨hcl2, hfz2⟩ := bcell hB2
  go_wp2_with fail
  refine (minuteFrom_any c hc _ _ hT2 (by omega) (by omega)).mono ?_
  rintro e w3 ⟨⟨x, rfl, hx⟩ | ⟨rfl, hx⟩, hb⟩
  · have hx1 : 0 ≤ x ∧ x < 1440 := ⟨by have := hx.1; omega, hx.2.1⟩
    have HX : Hid (LeastM c ((t + 1) % 1440) x) := hx
    clear hx
    go_wp2
    go_ret2
    exact ⟨Or.inl ⟨_, rfl, next_today h1 hd hm HX.out⟩, ((below_box w _).trans (hB2.mono (by omega))).trans (hb.mono (by have := hB2.size; simp at this; omega))⟩
  · have hB3 : Below (w.heap.size + 1) (w.alloc (.cells #[.int .u64 c.mi, .int .u64 c.ho, .int .u64 c.dm, .int .u64 c.mo, .int .u64 c.dw] 24)) w3 := hB2.trans (hb.mono (by have := hB2.size; simp at this; omega))
    clear hb
    have hT3 := (hT.alloc _).below hB3 (by simp)
    obtain ⟨hcl3, hfz3⟩ := bcell hB3
    have hr : Hid (RestNo c t) := rest_min hx
    clear hx
    go_wp2_with fail
    refine (dayFrom_any c hc _ _ hT3 (by omega) (by omega)).mono ?_
    rintro e w4 ⟨⟨y, rfl, hy⟩ | ⟨rfl, hy⟩, hb⟩
    · have hB4 : Below (w.heap.size + 1) (w.alloc (.cells #[.int .u64 c.mi, .int .u64 c.ho, .int .u64 c.dm, .int .u64 c.mo, .int .u64 c.dw] 24)) w4 := hB3.trans (hb.mono (by have := hB3.size; simp at this; omega))
      clear hb
      have hT4 := (hT.alloc _).below hB4 (by simp)
      obtain ⟨hcl4, hfz4⟩ := bcell hB4
      have hy1 : 0 ≤ y ∧ y ≤ 3652058 := ⟨by have := hy.1; omega, hy.2.1⟩
      have HY : Hid (LeastD c ((t + 1) / 1440 + 1) y) := hy
      clear hy
      go_wp2_with fail
      refine (firstMinute_any c hc _ hT4).mono ?_
      rintro e w5 ⟨rfl, hb⟩
      go_wp2
      go_ret2
      exact ⟨Or.inl ⟨_, rfl, next_later hr.out HY.out (least_first hc)⟩, ((below_box w _).trans (hB4.mono (by omega))).trans (hb.mono (by have := hB4.size; simp at this; omega))⟩
    · go_wp2
      go_ret2
      exact ⟨Or.inr ⟨rfl, next_never h1 hr.out hy⟩, ((below_box w _).trans (hB3.mono (by omega))).trans (hb.mono (by have := hB3.size; simp at this; omega))⟩

set_option maxHeartbeats 2000000 in
theorem Next_other (c : Cr) (hc : okB c = true) (t : Int) (w : World) (hT : Tb w) (h1 : -1 ≤ t) (h2 : t ≤ 5258964959) (hd : (t + 1) / 1440 ≤ 3652058) (hm : dmB c ((t + 1) / 1440) = false) :
    Calls Tryd.prog 24 #[.agg #[.int .u64 c.mi, .int .u64 c.ho, .int .u64 c.dm, .int .u64 c.mo, .int .u64 c.dw], .int .i64 t] w fun e w' => ((∃ n, e = .returned (.tuple #[.int .i64 n, .int .i64 0]) ∧ NextIs c t n) ∨ (e = .returned (.tuple #[.int .i64 0, .int .i64 5]) ∧ NoNext c t)) ∧ Below w.heap.size w w' := by
  obtain ⟨o1, o2, o3, o4, _⟩ := ok_open hc
  have l1 := ctz_lt (x := c.mi) (by omega) (by omega)
  have l2 := ctz_lt (x := c.ho) (by omega) (by omega)
  have hr : Hid (RestNo c t) := rest_day hm
  go_enter Tryd.func24, Tryd.ntmps24
  go_wp2_with fail
  refine (Check_yes c hc _ (hT.alloc _)).mono ?_
  rintro e w1 ⟨rfl, hb⟩
  have hB1 : Below (w.heap.size + 1) (w.alloc (.cells #[.int .u64 c.mi, .int .u64 c.ho, .int .u64 c.dm, .int .u64 c.mo, .int .u64 c.dw] 24)) w1 := hb.mono (by simp)
  clear hb
  have hT1 := (hT.alloc _).below hB1 (by simp)
  obtain ⟨hcl1, hfz1⟩ := bcell hB1
  go_wp2_with fail
  refine (dayMatches_any c hc _ _ hT1 (by omega) (by omega)).mono ?_
  rintro e w2 ⟨rfl, hb⟩
  have hB2 : Below (w.heap.size + 1) (w.alloc (.cells #[.int .u64 c.mi, .int .u64 c.ho, .int .u64 c.dm, .int .u64 c.mo, .int .u64 c.dw] 24)) w2 := hB1.trans (hb.mono (by have := hB1.size; simp at this; omega))
  clear hb
  have hT2 := (hT.alloc _).below hB2 (by simp)
  obtain ⟨hcl2, hfz2⟩ := bcell hB2
  go_wp2_with fail
  refine (dayFrom_any c hc _ _ hT2 (by omega) (by omega)).mono ?_
  rintro e w3 ⟨⟨y, rfl, hy⟩ | ⟨rfl, hy⟩, hb⟩
  · have hB3 : Below (w.heap.size + 1) (w.alloc (.cells #[.int .u64 c.mi, .int .u64 c.ho, .int .u64 c.dm, .int .u64 c.mo, .int .u64 c.dw] 24)) w3 := hB2.trans (hb.mono (by have := hB2.size; simp at this; omega))
    clear hb
    have hT3 := (hT.alloc _).below hB3 (by simp)
    obtain ⟨hcl3, hfz3⟩ := bcell hB3
    have hy1 : 0 ≤ y ∧ y ≤ 3652058 := ⟨by have := hy.1; omega, hy.2.1⟩
    have HY : Hid (LeastD c ((t + 1) / 1440 + 1) y) := hy
    clear hy
    go_wp2_with fail
    refine (firstMinute_any c hc _ hT3).mono ?_
    rintro e w4 ⟨rfl, hb⟩
    go_wp2
    go_ret2
    exact ⟨Or.inl ⟨_, rfl, next_later hr.out HY.out (least_first hc)⟩, ((below_box w _).trans (hB3.mono (by omega))).trans (hb.mono (by have := hB3.size; simp at this; omega))⟩
  · go_wp2
    go_ret2
    exact ⟨Or.inr ⟨rfl, next_never h1 hr.out hy⟩, ((below_box w _).trans (hB2.mono (by omega))).trans (hb.mono (by have := hB2.size; simp at this; omega))⟩

set_option maxHeartbeats 2000000 in
theorem Next_last (c : Cr) (hc : okB c = true) (t : Int) (w : World) (hT : Tb w) (h1 : -1 ≤ t) (h2 : t ≤ 5258964959) (hd : ¬ (t + 1) / 1440 ≤ 3652058) :
    Calls Tryd.prog 24 #[.agg #[.int .u64 c.mi, .int .u64 c.ho, .int .u64 c.dm, .int .u64 c.mo, .int .u64 c.dw], .int .i64 t] w fun e w' => ((∃ n, e = .returned (.tuple #[.int .i64 n, .int .i64 0]) ∧ NextIs c t n) ∨ (e = .returned (.tuple #[.int .i64 0, .int .i64 5]) ∧ NoNext c t)) ∧ Below w.heap.size w w' := by
  go_enter Tryd.func24, Tryd.ntmps24
  go_wp2_with fail
  refine (Check_yes c hc _ (hT.alloc _)).mono ?_
  rintro e w1 ⟨rfl, hb⟩
  have hB1 : Below (w.heap.size + 1) (w.alloc (.cells #[.int .u64 c.mi, .int .u64 c.ho, .int .u64 c.dm, .int .u64 c.mo, .int .u64 c.dw] 24)) w1 := hb.mono (by simp)
  clear hb
  have hT1 := (hT.alloc _).below hB1 (by simp)
  obtain ⟨hcl1, hfz1⟩ := bcell hB1
  go_wp2_with fail
  refine (dayFrom_any c hc _ _ hT1 (by omega) (by omega)).mono ?_
  rintro e w2 ⟨⟨y, rfl, hy⟩ | ⟨rfl, _⟩, hb⟩
  · exfalso
    have := hy.1
    have := hy.2.1
    omega
  · go_wp2
    go_ret2
    exact ⟨Or.inr ⟨rfl, fun u k1 k2 => by omega⟩, ((below_box w _).trans (hB1.mono (by omega))).trans (hb.mono (by have := hB1.size; simp at this; omega))⟩

theorem Next_any (c : Cr) (hc : okB c = true) (t : Int) (w : World) (hT : Tb w) (h1 : -1 ≤ t) (h2 : t ≤ 5258964959) :
    Calls Tryd.prog 24 #[.agg #[.int .u64 c.mi, .int .u64 c.ho, .int .u64 c.dm, .int .u64 c.mo, .int .u64 c.dw], .int .i64 t] w fun e w' => ((∃ n, e = .returned (.tuple #[.int .i64 n, .int .i64 0]) ∧ NextIs c t n) ∨ (e = .returned (.tuple #[.int .i64 0, .int .i64 5]) ∧ NoNext c t)) ∧ Below w.heap.size w w' := by
  by_cases hd : (t + 1) / 1440 ≤ 3652058
  · by_cases hm : dmB c ((t + 1) / 1440) = true
    · exact Next_today c hc t w hT h1 h2 hd hm
    · exact Next_other c hc t w hT h1 h2 hd (by simpa using hm)
  · exact Next_last c hc t w hT h1 h2 hd
/-- Where there is a next time. -/
theorem Next_at (c : Cr) (hc : okB c = true) (t n : Int) (w : World) (hT : Tb w) (h1 : -1 ≤ t) (h2 : t ≤ 5258964959) (hn : NextIs c t n) :
    Calls Tryd.prog 24 #[.agg #[.int .u64 c.mi, .int .u64 c.ho, .int .u64 c.dm, .int .u64 c.mo, .int .u64 c.dw], .int .i64 t] w fun e w' => e = .returned (.tuple #[.int .i64 n, .int .i64 0]) ∧ Below w.heap.size w w' := by
  refine (Next_any c hc t w hT h1 h2).mono ?_
  rintro e w' ⟨⟨m, rfl, hm⟩ | ⟨rfl, hm⟩, hb⟩
  · exact ⟨by rw [next_eq hm hn], hb⟩
  · exact (next_no hn hm).elim
/-- Where there is none. -/
theorem Next_none (c : Cr) (hc : okB c = true) (t : Int) (w : World) (hT : Tb w) (h1 : -1 ≤ t) (h2 : t ≤ 5258964959) (hn : NoNext c t) :
    Calls Tryd.prog 24 #[.agg #[.int .u64 c.mi, .int .u64 c.ho, .int .u64 c.dm, .int .u64 c.mo, .int .u64 c.dw], .int .i64 t] w fun e w' => e = .returned (.tuple #[.int .i64 0, .int .i64 5]) ∧ Below w.heap.size w w' := by
  refine (Next_any c hc t w hT h1 h2).mono ?_
  rintro e w' ⟨⟨m, rfl, hm⟩ | ⟨rfl, hm⟩, hb⟩
  · exact (next_no hm hn).elim
  · exact ⟨rfl, hb⟩
end Go.Proofs.YthebcdadoinflaaDoor
