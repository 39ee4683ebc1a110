/- CronNow: whoever asks right ahead of a time that matches is told that time: the walk. -/
import Derived.Test.YtbcfdleijpicgabDoorSom
namespace Go.Proofs.YtbcfdleijpicgabDoor
open Go.RowKit Cal Crn

set_option maxHeartbeats 2000000 in
theorem now_bad (c : Cr) (h5 : In5 c) (t : Int) (w : World) (hT : Tb w) (hc : okB c = false) :
    Calls Tryd.prog 3 #[.agg #[.int .u64 c.mi, .int .u64 c.ho, .int .u64 c.dm, .int .u64 c.mo, .int .u64 c.dw], .int .i64 t] w fun e w' => e = .returned (.bool true) ∧ Below w.heap.size w w' := by
  go_enter Tryd.func3, Tryd.ntmps3
  go_wp2_with fail
  refine (crons_any _ (hT.alloc _)).mono ?_
  rintro e w1 ⟨rfl, hb⟩
  have hB1 : Below (w.heap.size + 1) (w.alloc (.cells #[.int .u64 c.mi, .int .u64 c.ho, .int .u64 c.dm, .int .u64 c.mo, .int .u64 c.dw] 24)) w1 := hb.mono (by simp)
  clear hb
  have hT1 := (hT.alloc _).below hB1 (by simp)
  obtain ⟨hcl1, hfz1⟩ := bcell hB1
  go_wp2_with fail
  refine (Match_bad c h5 hc _ _ hT1).mono ?_
  rintro e w2 ⟨rfl, hb⟩
  have hB2 : Below (w.heap.size + 1) (w.alloc (.cells #[.int .u64 c.mi, .int .u64 c.ho, .int .u64 c.dm, .int .u64 c.mo, .int .u64 c.dw] 24)) w2 := hB1.trans (hb.mono (by have := hB1.size; simp at this; omega))
  clear hb
  have hT2 := (hT.alloc _).below hB2 (by simp)
  obtain ⟨hcl2, hfz2⟩ := bcell hB2
  go_wp2_with fail
  go_ret
  exact ⟨rfl, (below_box w _).trans (hB2.mono (by omega))⟩

set_option maxHeartbeats 2000000 in
theorem now_range (c : Cr) (t : Int) (w : World) (hT : Tb w) (hc : okB c = true) (ht : t < 0 ∨ 5258964959 < t) :
    Calls Tryd.prog 3 #[.agg #[.int .u64 c.mi, .int .u64 c.ho, .int .u64 c.dm, .int .u64 c.mo, .int .u64 c.dw], .int .i64 t] w fun e w' => e = .returned (.bool true) ∧ Below w.heap.size w w' := by
  go_enter Tryd.func3, Tryd.ntmps3
  go_wp2_with fail
  refine (crons_any _ (hT.alloc _)).mono ?_
  rintro e w1 ⟨rfl, hb⟩
  have hB1 : Below (w.heap.size + 1) (w.alloc (.cells #[.int .u64 c.mi, .int .u64 c.ho, .int .u64 c.dm, .int .u64 c.mo, .int .u64 c.dw] 24)) w1 := hb.mono (by simp)
  clear hb
  have hT1 := (hT.alloc _).below hB1 (by simp)
  obtain ⟨hcl1, hfz1⟩ := bcell hB1
  go_wp2_with fail
  refine (Match_range c hc _ _ hT1 ht).mono ?_
  rintro e w2 ⟨rfl, hb⟩
  have hB2 : Below (w.heap.size + 1) (w.alloc (.cells #[.int .u64 c.mi, .int .u64 c.ho, .int .u64 c.dm, .int .u64 c.mo, .int .u64 c.dw] 24)) w2 := hB1.trans (hb.mono (by have := hB1.size; simp at this; omega))
  clear hb
  have hT2 := (hT.alloc _).below hB2 (by simp)
  obtain ⟨hcl2, hfz2⟩ := bcell hB2
  go_wp2_with fail
  go_ret
  exact ⟨rfl, (below_box w _).trans (hB2.mono (by omega))⟩

set_option maxHeartbeats 2000000 in
theorem now_none (c : Cr) (t : Int) (w : World) (hT : Tb w) (hc : okB c = true) (h0 : 0 ≤ t) (h1 : t ≤ 5258964959) (hn : NoNext c (t - 1)) :
    Calls Tryd.prog 3 #[.agg #[.int .u64 c.mi, .int .u64 c.ho, .int .u64 c.dm, .int .u64 c.mo, .int .u64 c.dw], .int .i64 t] w fun e w' => e = .returned (.bool true) ∧ Below w.heap.size w w' := by
  have hm : matB c t = false := hn t (by omega) h1
  go_enter Tryd.func3, Tryd.ntmps3
  go_wp2_with fail
  refine (crons_any _ (hT.alloc _)).mono ?_
  rintro e w1 ⟨rfl, hb⟩
  have hB1 : Below (w.heap.size + 1) (w.alloc (.cells #[.int .u64 c.mi, .int .u64 c.ho, .int .u64 c.dm, .int .u64 c.mo, .int .u64 c.dw] 24)) w1 := hb.mono (by simp)
  clear hb
  have hT1 := (hT.alloc _).below hB1 (by simp)
  obtain ⟨hcl1, hfz1⟩ := bcell hB1
  go_wp2_with fail
  refine (Match_yes c hc _ _ hT1 (by omega) (by omega)).mono ?_
  rintro e w2 ⟨rfl, hb⟩
  have hB2 : Below (w.heap.size + 1) (w.alloc (.cells #[.int .u64 c.mi, .int .u64 c.ho, .int .u64 c.dm, .int .u64 c.mo, .int .u64 c.dw] 24)) w2 := hB1.trans (hb.mono (by have := hB1.size; simp at this; omega))
  clear hb
  have hT2 := (hT.alloc _).below hB2 (by simp)
  obtain ⟨hcl2, hfz2⟩ := bcell hB2
  go_wp2_with fail
  refine (Next_none c hc _ _ hT2 (by omega) (by omega) hn).mono ?_
  rintro e w3 ⟨rfl, hb⟩
  have hB3 : Below (w.heap.size + 1) (w.alloc (.cells #[.int .u64 c.mi, .int .u64 c.ho, .int .u64 c.dm, .int .u64 c.mo, .int .u64 c.dw] 24)) w3 := hB2.trans (hb.mono (by have := hB2.size; simp at this; omega))
  clear hb
  have hT3 := (hT.alloc _).below hB3 (by simp)
  obtain ⟨hcl3, hfz3⟩ := bcell hB3
  go_wp2_with fail
  go_ret
  exact ⟨rfl, (below_box w _).trans (hB3.mono (by omega))⟩

set_option maxHeartbeats 2000000 in
theorem now_here (c : Cr) (t : Int) (w : World) (hT : Tb w) (hc : okB c = true) (h0 : 0 ≤ t) (h1 : t ≤ 5258964959) (hm : matB c t = true) :
    Calls Tryd.prog 3 #[.agg #[.int .u64 c.mi, .int .u64 c.ho, .int .u64 c.dm, .int .u64 c.mo, .int .u64 c.dw], .int .i64 t] w fun e w' => e = .returned (.bool true) ∧ Below w.heap.size w w' := by
  have hn : NextIs c (t - 1) t := ⟨by omega, h1, hm, fun u k1 k2 => by omega⟩
  go_enter Tryd.func3, Tryd.ntmps3
  go_wp2_with fail
  refine (crons_any _ (hT.alloc _)).mono ?_
  rintro e w1 ⟨rfl, hb⟩
  have hB1 : Below (w.heap.size + 1) (w.alloc (.cells #[.int .u64 c.mi, .int .u64 c.ho, .int .u64 c.dm, .int .u64 c.mo, .int .u64 c.dw] 24)) w1 := hb.mono (by simp)
  clear hb
  have hT1 := (hT.alloc _).below hB1 (by simp)
  obtain ⟨hcl1, hfz1⟩ := bcell hB1
  go_wp2_with fail
  refine (Match_yes c hc _ _ hT1 (by omega) (by omega)).mono ?_
  rintro e w2 ⟨rfl, hb⟩
  have hB2 : Below (w.heap.size + 1) (w.alloc (.cells #[.int .u64 c.mi, .int .u64 c.ho, .int .u64 c.dm, .int .u64 c.mo, .int .u64 c.dw] 24)) w2 := hB1.trans (hb.mono (by have := hB1.size; simp at this; omega))
  clear hb
  have hT2 := (hT.alloc _).below hB2 (by simp)
  obtain ⟨hcl2, hfz2⟩ := bcell hB2
  go_wp2_with fail
  refine (Next_at c hc _ _ _ hT2 (by omega) (by omega) hn).mono ?_
  rintro e w3 ⟨rfl, hb⟩
  have hB3 : Below (w.heap.size + 1) (w.alloc (.cells #[.int .u64 c.mi, .int .u64 c.ho, .int .u64 c.dm, .int .u64 c.mo, .int .u64 c.dw] 24)) w3 := hB2.trans (hb.mono (by have := hB2.size; simp at this; omega))
  clear hb
  have hT3 := (hT.alloc _).below hB3 (by simp)
  obtain ⟨hcl3, hfz3⟩ := bcell hB3
  go_wp2_with fail
  go_ret
  exact ⟨rfl, (below_box w _).trans (hB3.mono (by omega))⟩

set_option maxHeartbeats 2000000 in
theorem now_later (c : Cr) (t n : Int) (w : World) (hT : Tb w) (hc : okB c = true) (h0 : 0 ≤ t) (h1 : t ≤ 5258964959) (hm : matB c t = false) (hn : NextIs c (t - 1) n) :
    Calls Tryd.prog 3 #[.agg #[.int .u64 c.mi, .int .u64 c.ho, .int .u64 c.dm, .int .u64 c.mo, .int .u64 c.dw], .int .i64 t] w fun e w' => e = .returned (.bool true) ∧ Below w.heap.size w w' := by
  have hlt : t < n := by
    have a1 := hn.1
    have a2 := hn.2.2.1
    rcases (show t < n ∨ n = t by omega) with l | l
    · exact l
    · rw [l, hm] at a2
      cases a2
  have hbq : (n == t) = false := by simp; omega
  go_enter Tryd.func3, Tryd.ntmps3
  go_wp2_with fail
  refine (crons_any _ (hT.alloc _)).mono ?_
  rintro e w1 ⟨rfl, hb⟩
  have hB1 : Below (w.heap.size + 1) (w.alloc (.cells #[.int .u64 c.mi, .int .u64 c.ho, .int .u64 c.dm, .int .u64 c.mo, .int .u64 c.dw] 24)) w1 := hb.mono (by simp)
  clear hb
  have hT1 := (hT.alloc _).below hB1 (by simp)
  obtain ⟨hcl1, hfz1⟩ := bcell hB1
  go_wp2_with fail
  refine (Match_yes c hc _ _ hT1 (by omega) (by omega)).mono ?_
  rintro e w2 ⟨rfl, hb⟩
  have hB2 : Below (w.heap.size + 1) (w.alloc (.cells #[.int .u64 c.mi, .int .u64 c.ho, .int .u64 c.dm, .int .u64 c.mo, .int .u64 c.dw] 24)) w2 := hB1.trans (hb.mono (by have := hB1.size; simp at this; omega))
  clear hb
  have hT2 := (hT.alloc _).below hB2 (by simp)
  obtain ⟨hcl2, hfz2⟩ := bcell hB2
  go_wp2_with fail
  refine (Next_at c hc _ n _ hT2 (by omega) (by omega) hn).mono ?_
  rintro e w3 ⟨rfl, hb⟩
  have hB3 : Below (w.heap.size + 1) (w.alloc (.cells #[.int .u64 c.mi, .int .u64 c.ho, .int .u64 c.dm, .int .u64 c.mo, .int .u64 c.dw] 24)) w3 := hB2.trans (hb.mono (by have := hB2.size; simp at this; omega))
  clear hb
  have hT3 := (hT.alloc _).below hB3 (by simp)
  obtain ⟨hcl3, hfz3⟩ := bcell hB3
  go_wp2_with fail
  go_ret
  exact ⟨ret_bool (by simp; omega), (below_box w _).trans (hB3.mono (by omega))⟩

theorem cronNow_walk (c : Cr) (h5 : In5 c) (t : Int) (w : World) (hT : Tb w) :
    Calls Tryd.prog 3 #[.agg #[.int .u64 c.mi, .int .u64 c.ho, .int .u64 c.dm, .int .u64 c.mo, .int .u64 c.dw], .int .i64 t] w fun e w' => e = .returned (.bool true) ∧ Below w.heap.size w w' := by
  by_cases hc : okB c = true
  · by_cases ht : t < 0 ∨ 5258964959 < t
    · exact now_range c t w hT hc ht
    · by_cases hm : matB c t = true
      · exact now_here c t w hT hc (by omega) (by omega) hm
      · rcases next_or c (t := t - 1) (by omega) with ⟨n, hn⟩ | hn
        · exact now_later c t n w hT hc (by omega) (by omega) (by simpa using hm) hn
        · exact now_none c t w hT hc (by omega) (by omega) hn
  · exact now_bad c h5 t w hT (by simpa using hc)
end Go.Proofs.YtbcfdleijpicgabDoor
