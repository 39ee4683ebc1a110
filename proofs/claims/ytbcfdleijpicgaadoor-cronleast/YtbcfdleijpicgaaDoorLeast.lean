/- CronLeast: the next time is above, and matches; no time between matches: the walk. -/
import Derived.Test.YtbcfdleijpicgaaDoorSom
namespace Go.Proofs.YtbcfdleijpicgaaDoor
open Go.RowKit Cal Crn

set_option maxHeartbeats 2000000 in
theorem least_bad (c : Cr) (h5 : In5 c) (t u : Int) (w : World) (hT : Tb w) (hc : okB c = false) :
    Calls Tryd.prog 8 #[.agg #[.int .u64 c.mi, .int .u64 c.ho, .int .u64 c.dm, .int .u64 c.mo, .int .u64 c.dw], .int .i64 t, .int .i64 u] w fun e w' => e = .returned (.bool true) ∧ Below w.heap.size w w' := by
  go_enter Tryd.func8, Tryd.ntmps8
  go_wp2_with fail
  refine (crons_any _ (hT.alloc _)).mono ?_
  rintro e w1 ⟨rfl, hb⟩
  have hB1 : Below (w.heap.size + 1) (w.alloc (.cells #[.int .u64 c.mi, .int .u64 c.ho, .int .u64 c.dm, .int .u64 c.mo, .int .u64 c.dw] 33)) w1 := hb.mono (by simp)
  clear hb
  have hT1 := (hT.alloc _).below hB1 (by simp)
  obtain ⟨hcl1, hfz1⟩ := bcell hB1
  go_wp2_with fail
  refine (Next_bad c h5 hc _ _ hT1).mono ?_
  rintro e w2 ⟨rfl, hb⟩
  have hB2 : Below (w.heap.size + 1) (w.alloc (.cells #[.int .u64 c.mi, .int .u64 c.ho, .int .u64 c.dm, .int .u64 c.mo, .int .u64 c.dw] 33)) w2 := hB1.trans (hb.mono (by have := hB1.size; simp at this; omega))
  clear hb
  have hT2 := (hT.alloc _).below hB2 (by simp)
  obtain ⟨hcl2, hfz2⟩ := bcell hB2
  go_wp2_with fail
  refine (Match_bad c h5 hc _ _ hT2).mono ?_
  rintro e w3 ⟨rfl, hb⟩
  have hB3 : Below (w.heap.size + 1) (w.alloc (.cells #[.int .u64 c.mi, .int .u64 c.ho, .int .u64 c.dm, .int .u64 c.mo, .int .u64 c.dw] 33)) w3 := hB2.trans (hb.mono (by have := hB2.size; simp at this; omega))
  clear hb
  have hT3 := (hT.alloc _).below hB3 (by simp)
  obtain ⟨hcl3, hfz3⟩ := bcell hB3
  go_wp2_with fail
  go_ret
  exact ⟨rfl, (below_box w _).trans (hB3.mono (by omega))⟩

set_option maxHeartbeats 2000000 in
theorem least_range (c : Cr) (t u : Int) (w : World) (hT : Tb w) (hc : okB c = true) (ht : t < -1 ∨ 5258964959 < t) :
    Calls Tryd.prog 8 #[.agg #[.int .u64 c.mi, .int .u64 c.ho, .int .u64 c.dm, .int .u64 c.mo, .int .u64 c.dw], .int .i64 t, .int .i64 u] w fun e w' => e = .returned (.bool true) ∧ Below w.heap.size w w' := by
  have h5 := in5_ok hc
  go_enter Tryd.func8, Tryd.ntmps8
  go_wp2_with fail
  refine (crons_any _ (hT.alloc _)).mono ?_
  rintro e w1 ⟨rfl, hb⟩
  have hB1 : Below (w.heap.size + 1) (w.alloc (.cells #[.int .u64 c.mi, .int .u64 c.ho, .int .u64 c.dm, .int .u64 c.mo, .int .u64 c.dw] 33)) w1 := hb.mono (by simp)
  clear hb
  have hT1 := (hT.alloc _).below hB1 (by simp)
  obtain ⟨hcl1, hfz1⟩ := bcell hB1
  go_wp2_with fail
  refine (Next_range c hc _ _ hT1 ht).mono ?_
  rintro e w2 ⟨rfl, hb⟩
  have hB2 : Below (w.heap.size + 1) (w.alloc (.cells #[.int .u64 c.mi, .int .u64 c.ho, .int .u64 c.dm, .int .u64 c.mo, .int .u64 c.dw] 33)) w2 := hB1.trans (hb.mono (by have := hB1.size; simp at this; omega))
  clear hb
  have hT2 := (hT.alloc _).below hB2 (by simp)
  obtain ⟨hcl2, hfz2⟩ := bcell hB2
  go_wp2_with fail
  refine (Match_some c h5 _ _ hT2).mono ?_
  rintro e w3 ⟨a, k, rfl, hb⟩
  have hB3 : Below (w.heap.size + 1) (w.alloc (.cells #[.int .u64 c.mi, .int .u64 c.ho, .int .u64 c.dm, .int .u64 c.mo, .int .u64 c.dw] 33)) w3 := hB2.trans (hb.mono (by have := hB2.size; simp at this; omega))
  clear hb
  have hT3 := (hT.alloc _).below hB3 (by simp)
  obtain ⟨hcl3, hfz3⟩ := bcell hB3
  go_wp2_with fail
  go_ret
  exact ⟨rfl, (below_box w _).trans (hB3.mono (by omega))⟩

set_option maxHeartbeats 2000000 in
theorem least_none_out (c : Cr) (t u : Int) (w : World) (hT : Tb w) (hc : okB c = true) (h1 : -1 ≤ t) (h2 : t ≤ 5258964959) (hn : NoNext c t) (hu : u < 0 ∨ 5258964959 < u) :
    Calls Tryd.prog 8 #[.agg #[.int .u64 c.mi, .int .u64 c.ho, .int .u64 c.dm, .int .u64 c.mo, .int .u64 c.dw], .int .i64 t, .int .i64 u] w fun e w' => e = .returned (.bool true) ∧ Below w.heap.size w w' := by
  go_enter Tryd.func8, Tryd.ntmps8
  go_wp2_with fail
  refine (crons_any _ (hT.alloc _)).mono ?_
  rintro e w1 ⟨rfl, hb⟩
  have hB1 : Below (w.heap.size + 1) (w.alloc (.cells #[.int .u64 c.mi, .int .u64 c.ho, .int .u64 c.dm, .int .u64 c.mo, .int .u64 c.dw] 33)) w1 := hb.mono (by simp)
  clear hb
  have hT1 := (hT.alloc _).below hB1 (by simp)
  obtain ⟨hcl1, hfz1⟩ := bcell hB1
  go_wp2_with fail
  refine (Next_none c hc _ _ hT1 h1 h2 hn).mono ?_
  rintro e w2 ⟨rfl, hb⟩
  have hB2 : Below (w.heap.size + 1) (w.alloc (.cells #[.int .u64 c.mi, .int .u64 c.ho, .int .u64 c.dm, .int .u64 c.mo, .int .u64 c.dw] 33)) w2 := hB1.trans (hb.mono (by have := hB1.size; simp at this; omega))
  clear hb
  have hT2 := (hT.alloc _).below hB2 (by simp)
  obtain ⟨hcl2, hfz2⟩ := bcell hB2
  go_wp2_with fail
  refine (Match_range c hc _ _ hT2 hu).mono ?_
  rintro e w3 ⟨rfl, hb⟩
  have hB3 : Below (w.heap.size + 1) (w.alloc (.cells #[.int .u64 c.mi, .int .u64 c.ho, .int .u64 c.dm, .int .u64 c.mo, .int .u64 c.dw] 33)) w3 := hB2.trans (hb.mono (by have := hB2.size; simp at this; omega))
  clear hb
  have hT3 := (hT.alloc _).below hB3 (by simp)
  obtain ⟨hcl3, hfz3⟩ := bcell hB3
  go_wp2_with fail
  go_ret
  exact ⟨rfl, (below_box w _).trans (hB3.mono (by omega))⟩

set_option maxHeartbeats 2000000 in
theorem least_none_low (c : Cr) (t u : Int) (w : World) (hT : Tb w) (hc : okB c = true) (h1 : -1 ≤ t) (h2 : t ≤ 5258964959) (k1 : 0 ≤ u) (k2 : u ≤ 5258964959) (hn : NoNext c t) (hu : u ≤ t) :
    Calls Tryd.prog 8 #[.agg #[.int .u64 c.mi, .int .u64 c.ho, .int .u64 c.dm, .int .u64 c.mo, .int .u64 c.dw], .int .i64 t, .int .i64 u] w fun e w' => e = .returned (.bool true) ∧ Below w.heap.size w w' := by
  go_enter Tryd.func8, Tryd.ntmps8
  go_wp2_with fail
  refine (crons_any _ (hT.alloc _)).mono ?_
  rintro e w1 ⟨rfl, hb⟩
  have hB1 : Below (w.heap.size + 1) (w.alloc (.cells #[.int .u64 c.mi, .int .u64 c.ho, .int .u64 c.dm, .int .u64 c.mo, .int .u64 c.dw] 33)) w1 := hb.mono (by simp)
  clear hb
  have hT1 := (hT.alloc _).below hB1 (by simp)
  obtain ⟨hcl1, hfz1⟩ := bcell hB1
  go_wp2_with fail
  refine (Next_none c hc _ _ hT1 h1 h2 hn).mono ?_
  rintro e w2 ⟨rfl, hb⟩
  have hB2 : Below (w.heap.size + 1) (w.alloc (.cells #[.int .u64 c.mi, .int .u64 c.ho, .int .u64 c.dm, .int .u64 c.mo, .int .u64 c.dw] 33)) w2 := hB1.trans (hb.mono (by have := hB1.size; simp at this; omega))
  clear hb
  have hT2 := (hT.alloc _).below hB2 (by simp)
  obtain ⟨hcl2, hfz2⟩ := bcell hB2
  go_wp2_with fail
  refine (Match_yes c hc _ _ hT2 k1 k2).mono ?_
  rintro e w3 ⟨rfl, hb⟩
  have hB3 : Below (w.heap.size + 1) (w.alloc (.cells #[.int .u64 c.mi, .int .u64 c.ho, .int .u64 c.dm, .int .u64 c.mo, .int .u64 c.dw] 33)) w3 := hB2.trans (hb.mono (by have := hB2.size; simp at this; omega))
  clear hb
  have hT3 := (hT.alloc _).below hB3 (by simp)
  obtain ⟨hcl3, hfz3⟩ := bcell hB3
  go_wp2_with fail
  go_ret
  exact ⟨rfl, (below_box w _).trans (hB3.mono (by omega))⟩

set_option maxHeartbeats 2000000 in
theorem least_none_in (c : Cr) (t u : Int) (w : World) (hT : Tb w) (hc : okB c = true) (h1 : -1 ≤ t) (h2 : t ≤ 5258964959) (k1 : 0 ≤ u) (k2 : u ≤ 5258964959) (hn : NoNext c t) (hu : ¬ u ≤ t) :
    Calls Tryd.prog 8 #[.agg #[.int .u64 c.mi, .int .u64 c.ho, .int .u64 c.dm, .int .u64 c.mo, .int .u64 c.dw], .int .i64 t, .int .i64 u] w fun e w' => e = .returned (.bool true) ∧ Below w.heap.size w w' := by
  have hm : matB c u = false := hn u (by omega) k2
  go_enter Tryd.func8, Tryd.ntmps8
  go_wp2_with fail
  refine (crons_any _ (hT.alloc _)).mono ?_
  rintro e w1 ⟨rfl, hb⟩
  have hB1 : Below (w.heap.size + 1) (w.alloc (.cells #[.int .u64 c.mi, .int .u64 c.ho, .int .u64 c.dm, .int .u64 c.mo, .int .u64 c.dw] 33)) w1 := hb.mono (by simp)
  clear hb
  have hT1 := (hT.alloc _).below hB1 (by simp)
  obtain ⟨hcl1, hfz1⟩ := bcell hB1
  go_wp2_with fail
  refine (Next_none c hc _ _ hT1 h1 h2 hn).mono ?_
  rintro e w2 ⟨rfl, hb⟩
  have hB2 : Below (w.heap.size + 1) (w.alloc (.cells #[.int .u64 c.mi, .int .u64 c.ho, .int .u64 c.dm, .int .u64 c.mo, .int .u64 c.dw] 33)) w2 := hB1.trans (hb.mono (by have := hB1.size; simp at this; omega))
  clear hb
  have hT2 := (hT.alloc _).below hB2 (by simp)
  obtain ⟨hcl2, hfz2⟩ := bcell hB2
  go_wp2_with fail
  refine (Match_yes c hc _ _ hT2 k1 k2).mono ?_
  rintro e w3 ⟨rfl, hb⟩
  have hB3 : Below (w.heap.size + 1) (w.alloc (.cells #[.int .u64 c.mi, .int .u64 c.ho, .int .u64 c.dm, .int .u64 c.mo, .int .u64 c.dw] 33)) w3 := hB2.trans (hb.mono (by have := hB2.size; simp at this; omega))
  clear hb
  have hT3 := (hT.alloc _).below hB3 (by simp)
  obtain ⟨hcl3, hfz3⟩ := bcell hB3
  go_wp2_with fail
  go_ret
  exact ⟨rfl, (below_box w _).trans (hB3.mono (by omega))⟩

set_option maxHeartbeats 2000000 in
theorem least_at_out (c : Cr) (t u n : Int) (w : World) (hT : Tb w) (hc : okB c = true) (h1 : -1 ≤ t) (h2 : t ≤ 5258964959) (hn : NextIs c t n) (hu : u < 0 ∨ 5258964959 < u) :
    Calls Tryd.prog 8 #[.agg #[.int .u64 c.mi, .int .u64 c.ho, .int .u64 c.dm, .int .u64 c.mo, .int .u64 c.dw], .int .i64 t, .int .i64 u] w fun e w' => e = .returned (.bool true) ∧ Below w.heap.size w w' := by
  have hn1 : t < n := hn.1
  have hn2 : n ≤ 5258964959 := hn.2.1
  have hn3 : matB c n = true := hn.2.2.1
  have hn0 : 0 ≤ n := by omega
  go_enter Tryd.func8, Tryd.ntmps8
  go_wp2_with fail
  refine (crons_any _ (hT.alloc _)).mono ?_
  rintro e w1 ⟨rfl, hb⟩
  have hB1 : Below (w.heap.size + 1) (w.alloc (.cells #[.int .u64 c.mi, .int .u64 c.ho, .int .u64 c.dm, .int .u64 c.mo, .int .u64 c.dw] 33)) w1 := hb.mono (by simp)
  clear hb
  have hT1 := (hT.alloc _).below hB1 (by simp)
  obtain ⟨hcl1, hfz1⟩ := bcell hB1
  go_wp2_with fail
  refine (Next_at c hc _ n _ hT1 h1 h2 hn).mono ?_
  rintro e w2 ⟨rfl, hb⟩
  have hB2 : Below (w.heap.size + 1) (w.alloc (.cells #[.int .u64 c.mi, .int .u64 c.ho, .int .u64 c.dm, .int .u64 c.mo, .int .u64 c.dw] 33)) w2 := hB1.trans (hb.mono (by have := hB1.size; simp at this; omega))
  clear hb
  have hT2 := (hT.alloc _).below hB2 (by simp)
  obtain ⟨hcl2, hfz2⟩ := bcell hB2
  go_wp2_with fail
  refine (Match_range c hc _ _ hT2 hu).mono ?_
  rintro e w3 ⟨rfl, hb⟩
  have hB3 : Below (w.heap.size + 1) (w.alloc (.cells #[.int .u64 c.mi, .int .u64 c.ho, .int .u64 c.dm, .int .u64 c.mo, .int .u64 c.dw] 33)) w3 := hB2.trans (hb.mono (by have := hB2.size; simp at this; omega))
  clear hb
  have hT3 := (hT.alloc _).below hB3 (by simp)
  obtain ⟨hcl3, hfz3⟩ := bcell hB3
  go_wp2_with fail
  refine (Match_yes c hc _ _ hT3 hn0 hn2).mono ?_
  rintro e w4 ⟨rfl, hb⟩
  have hB4 : Below (w.heap.size + 1) (w.alloc (.cells #[.int .u64 c.mi, .int .u64 c.ho, .int .u64 c.dm, .int .u64 c.mo, .int .u64 c.dw] 33)) w4 := hB3.trans (hb.mono (by have := hB3.size; simp at this; omega))
  clear hb
  have hT4 := (hT.alloc _).below hB4 (by simp)
  obtain ⟨hcl4, hfz4⟩ := bcell hB4
  go_wp2_with fail
  go_ret
  exact ⟨rfl, (below_box w _).trans (hB4.mono (by omega))⟩

set_option maxHeartbeats 2000000 in
theorem least_at_no (c : Cr) (t u n : Int) (w : World) (hT : Tb w) (hc : okB c = true) (h1 : -1 ≤ t) (h2 : t ≤ 5258964959) (k1 : 0 ≤ u) (k2 : u ≤ 5258964959) (hn : NextIs c t n) (hm : matB c u = false) :
    Calls Tryd.prog 8 #[.agg #[.int .u64 c.mi, .int .u64 c.ho, .int .u64 c.dm, .int .u64 c.mo, .int .u64 c.dw], .int .i64 t, .int .i64 u] w fun e w' => e = .returned (.bool true) ∧ Below w.heap.size w w' := by
  have hn1 : t < n := hn.1
  have hn2 : n ≤ 5258964959 := hn.2.1
  have hn3 : matB c n = true := hn.2.2.1
  have hn0 : 0 ≤ n := by omega
  go_enter Tryd.func8, Tryd.ntmps8
  go_wp2_with fail
  refine (crons_any _ (hT.alloc _)).mono ?_
  rintro e w1 ⟨rfl, hb⟩
  have hB1 : Below (w.heap.size + 1) (w.alloc (.cells #[.int .u64 c.mi, .int .u64 c.ho, .int .u64 c.dm, .int .u64 c.mo, .int .u64 c.dw] 33)) w1 := hb.mono (by simp)
  clear hb
  have hT1 := (hT.alloc _).below hB1 (by simp)
  obtain ⟨hcl1, hfz1⟩ := bcell hB1
  go_wp2_with fail
  refine (Next_at c hc _ n _ hT1 h1 h2 hn).mono ?_
  rintro e w2 ⟨rfl, hb⟩
  have hB2 : Below (w.heap.size + 1) (w.alloc (.cells #[.int .u64 c.mi, .int .u64 c.ho, .int .u64 c.dm, .int .u64 c.mo, .int .u64 c.dw] 33)) w2 := hB1.trans (hb.mono (by have := hB1.size; simp at this; omega))
  clear hb
  have hT2 := (hT.alloc _).below hB2 (by simp)
  obtain ⟨hcl2, hfz2⟩ := bcell hB2
  go_wp2_with fail
  refine (Match_yes c hc _ _ hT2 k1 k2).mono ?_
  rintro e w3 ⟨rfl, hb⟩
  have hB3 : Below (w.heap.size + 1) (w.alloc (.cells #[.int .u64 c.mi, .int .u64 c.ho, .int .u64 c.dm, .int .u64 c.mo, .int .u64 c.dw] 33)) w3 := hB2.trans (hb.mono (by have := hB2.size; simp at this; omega))
  clear hb
  have hT3 := (hT.alloc _).below hB3 (by simp)
  obtain ⟨hcl3, hfz3⟩ := bcell hB3
  go_wp2_with fail
  refine (Match_yes c hc _ _ hT3 hn0 hn2).mono ?_
  rintro e w4 ⟨rfl, hb⟩
  have hB4 : Below (w.heap.size + 1) (w.alloc (.cells #[.int .u64 c.mi, .int .u64 c.ho, .int .u64 c.dm, .int .u64 c.mo, .int .u64 c.dw] 33)) w4 := hB3.trans (hb.mono (by have := hB3.size; simp at this; omega))
  clear hb
  have hT4 := (hT.alloc _).below hB4 (by simp)
  obtain ⟨hcl4, hfz4⟩ := bcell hB4
  go_wp2_with fail
  go_ret
  exact ⟨rfl, (below_box w _).trans (hB4.mono (by omega))⟩

set_option maxHeartbeats 2000000 in
theorem least_at_low (c : Cr) (t u n : Int) (w : World) (hT : Tb w) (hc : okB c = true) (h1 : -1 ≤ t) (h2 : t ≤ 5258964959) (k1 : 0 ≤ u) (k2 : u ≤ 5258964959) (hn : NextIs c t n) (hm : matB c u = true) (hu : u ≤ t) :
    Calls Tryd.prog 8 #[.agg #[.int .u64 c.mi, .int .u64 c.ho, .int .u64 c.dm, .int .u64 c.mo, .int .u64 c.dw], .int .i64 t, .int .i64 u] w fun e w' => e = .returned (.bool true) ∧ Below w.heap.size w w' := by
  have hn1 : t < n := hn.1
  have hn2 : n ≤ 5258964959 := hn.2.1
  have hn3 : matB c n = true := hn.2.2.1
  have hn0 : 0 ≤ n := by omega
  go_enter Tryd.func8, Tryd.ntmps8
  go_wp2_with fail
  refine (crons_any _ (hT.alloc _)).mono ?_
  rintro e w1 ⟨rfl, hb⟩
  have hB1 : Below (w.heap.size + 1) (w.alloc (.cells #[.int .u64 c.mi, .int .u64 c.ho, .int .u64 c.dm, .int .u64 c.mo, .int .u64 c.dw] 33)) w1 := hb.mono (by simp)
  clear hb
  have hT1 := (hT.alloc _).below hB1 (by simp)
  obtain ⟨hcl1, hfz1⟩ := bcell hB1
  go_wp2_with fail
  refine (Next_at c hc _ n _ hT1 h1 h2 hn).mono ?_
  rintro e w2 ⟨rfl, hb⟩
  have hB2 : Below (w.heap.size + 1) (w.alloc (.cells #[.int .u64 c.mi, .int .u64 c.ho, .int .u64 c.dm, .int .u64 c.mo, .int .u64 c.dw] 33)) w2 := hB1.trans (hb.mono (by have := hB1.size; simp at this; omega))
  clear hb
  have hT2 := (hT.alloc _).below hB2 (by simp)
  obtain ⟨hcl2, hfz2⟩ := bcell hB2
  go_wp2_with fail
  refine (Match_yes c hc _ _ hT2 k1 k2).mono ?_
  rintro e w3 ⟨rfl, hb⟩
  have hB3 : Below (w.heap.size + 1) (w.alloc (.cells #[.int .u64 c.mi, .int .u64 c.ho, .int .u64 c.dm, .int .u64 c.mo, .int .u64 c.dw] 33)) w3 := hB2.trans (hb.mono (by have := hB2.size; simp at this; omega))
  clear hb
  have hT3 := (hT.alloc _).below hB3 (by simp)
  obtain ⟨hcl3, hfz3⟩ := bcell hB3
  go_wp2_with fail
  refine (Match_yes c hc _ _ hT3 hn0 hn2).mono ?_
  rintro e w4 ⟨rfl, hb⟩
  have hB4 : Below (w.heap.size + 1) (w.alloc (.cells #[.int .u64 c.mi, .int .u64 c.ho, .int .u64 c.dm, .int .u64 c.mo, .int .u64 c.dw] 33)) w4 := hB3.trans (hb.mono (by have := hB3.size; simp at this; omega))
  clear hb
  have hT4 := (hT.alloc _).below hB4 (by simp)
  obtain ⟨hcl4, hfz4⟩ := bcell hB4
  go_wp2_with fail
  go_ret
  exact ⟨rfl, (below_box w _).trans (hB4.mono (by omega))⟩

set_option maxHeartbeats 2000000 in
theorem least_at_high (c : Cr) (t u n : Int) (w : World) (hT : Tb w) (hc : okB c = true) (h1 : -1 ≤ t) (h2 : t ≤ 5258964959) (k1 : 0 ≤ u) (k2 : u ≤ 5258964959) (hn : NextIs c t n) (hm : matB c u = true) (hu : ¬ u ≤ t) (hv : n ≤ u) :
    Calls Tryd.prog 8 #[.agg #[.int .u64 c.mi, .int .u64 c.ho, .int .u64 c.dm, .int .u64 c.mo, .int .u64 c.dw], .int .i64 t, .int .i64 u] w fun e w' => e = .returned (.bool true) ∧ Below w.heap.size w w' := by
  have hn1 : t < n := hn.1
  have hn2 : n ≤ 5258964959 := hn.2.1
  have hn3 : matB c n = true := hn.2.2.1
  have hn0 : 0 ≤ n := by omega
  go_enter Tryd.func8, Tryd.ntmps8
  go_wp2_with fail
  refine (crons_any _ (hT.alloc _)).mono ?_
  rintro e w1 ⟨rfl, hb⟩
  have hB1 : Below (w.heap.size + 1) (w.alloc (.cells #[.int .u64 c.mi, .int .u64 c.ho, .int .u64 c.dm, .int .u64 c.mo, .int .u64 c.dw] 33)) w1 := hb.mono (by simp)
  clear hb
  have hT1 := (hT.alloc _).below hB1 (by simp)
  obtain ⟨hcl1, hfz1⟩ := bcell hB1
  go_wp2_with fail
  refine (Next_at c hc _ n _ hT1 h1 h2 hn).mono ?_
  rintro e w2 ⟨rfl, hb⟩
  have hB2 : Below (w.heap.size + 1) (w.alloc (.cells #[.int .u64 c.mi, .int .u64 c.ho, .int .u64 c.dm, .int .u64 c.mo, .int .u64 c.dw] 33)) w2 := hB1.trans (hb.mono (by have := hB1.size; simp at this; omega))
  clear hb
  have hT2 := (hT.alloc _).below hB2 (by simp)
  obtain ⟨hcl2, hfz2⟩ := bcell hB2
  go_wp2_with fail
  refine (Match_yes c hc _ _ hT2 k1 k2).mono ?_
  rintro e w3 ⟨rfl, hb⟩
  have hB3 : Below (w.heap.size + 1) (w.alloc (.cells #[.int .u64 c.mi, .int .u64 c.ho, .int .u64 c.dm, .int .u64 c.mo, .int .u64 c.dw] 33)) w3 := hB2.trans (hb.mono (by have := hB2.size; simp at this; omega))
  clear hb
  have hT3 := (hT.alloc _).below hB3 (by simp)
  obtain ⟨hcl3, hfz3⟩ := bcell hB3
  go_wp2_with fail
  refine (Match_yes c hc _ _ hT3 hn0 hn2).mono ?_
  rintro e w4 ⟨rfl, hb⟩
  have hB4 : Below (w.heap.size + 1) (w.alloc (.cells #[.int .u64 c.mi, .int .u64 c.ho, .int .u64 c.dm, .int .u64 c.mo, .int .u64 c.dw] 33)) w4 := hB3.trans (hb.mono (by have := hB3.size; simp at this; omega))
  clear hb
  have hT4 := (hT.alloc _).below hB4 (by simp)
  obtain ⟨hcl4, hfz4⟩ := bcell hB4
  go_wp2_with fail
  go_ret
  exact ⟨rfl, (below_box w _).trans (hB4.mono (by omega))⟩

theorem cronLeast_walk (c : Cr) (h5 : In5 c) (t u : Int) (w : World) (hT : Tb w) :
    Calls Tryd.prog 8 #[.agg #[.int .u64 c.mi, .int .u64 c.ho, .int .u64 c.dm, .int .u64 c.mo, .int .u64 c.dw], .int .i64 t, .int .i64 u] w fun e w' => e = .returned (.bool true) ∧ Below w.heap.size w w' := by
  by_cases hc : okB c = true
  · by_cases ht : t < -1 ∨ 5258964959 < t
    · exact least_range c t u w hT hc ht
    · have h1 : -1 ≤ t := by omega
      have h2 : t ≤ 5258964959 := by omega
      rcases next_or c (t := t) (by omega) with ⟨n, hn⟩ | hn
      · by_cases hu : u < 0 ∨ 5258964959 < u
        · exact least_at_out c t u n w hT hc h1 h2 hn hu
        · have k1 : 0 ≤ u := by omega
          have k2 : u ≤ 5258964959 := by omega
          by_cases hm : matB c u = true
          · by_cases hl : u ≤ t
            · exact least_at_low c t u n w hT hc h1 h2 k1 k2 hn hm hl
            · by_cases hv : n ≤ u
              · exact least_at_high c t u n w hT hc h1 h2 k1 k2 hn hm hl hv
              · exfalso
                have := hn.2.2.2 u (by omega) (by omega)
                rw [hm] at this
                cases this
          · exact least_at_no c t u n w hT hc h1 h2 k1 k2 hn (by simpa using hm)
      · by_cases hu : u < 0 ∨ 5258964959 < u
        · exact least_none_out c t u w hT hc h1 h2 hn hu
        · by_cases hl : u ≤ t
          · exact least_none_low c t u w hT hc h1 h2 (by omega) (by omega) hn hl
          · exact least_none_in c t u w hT hc h1 h2 (by omega) (by omega) hn hl
  · exact least_bad c h5 t u w hT (by simpa using hc)
end Go.Proofs.YtbcfdleijpicgaaDoor
