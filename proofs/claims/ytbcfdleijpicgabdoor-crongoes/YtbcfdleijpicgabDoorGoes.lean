/- CronGoes: whatever is handed in, Match and Next answer what the document says: the walk. -/
import Derived.Test.YtbcfdleijpicgabDoorNex
import Derived.Test.YtbcfdleijpicgabDoorRfn
import Derived.Test.YtbcfdleijpicgabDoorRff
namespace Go.Proofs.YtbcfdleijpicgabDoor
open Go.RowKit Cal Crn

set_option maxHeartbeats 2000000 in
theorem goes_bad (c : Cr) (h5 : In5 c) (t : Int) (w : World) (hT : Tb w) (hc : okB c = false) :
    Calls Tryd.prog 6 #[.agg #[.int .u64 c.mi, .int .u64 c.ho, .int .u64 c.dm, .int .u64 c.mo, .int .u64 c.dw], .int .i64 t] w fun e w' => e = .returned (.bool true) ∧ Below w.heap.size w w' := by
  go_enter Tryd.func6, Tryd.ntmps6
  go_wp2_with fail
  refine (Match_bad c h5 hc _ _ (hT.alloc _)).mono ?_
  rintro e w1 ⟨rfl, hb⟩
  have hB1 : Below (w.heap.size + 1) (w.alloc (.cells #[.int .u64 c.mi, .int .u64 c.ho, .int .u64 c.dm, .int .u64 c.mo, .int .u64 c.dw] 24)) w1 := hb.mono (by simp)
  clear hb
  have hT1 := (hT.alloc _).below hB1 (by simp)
  obtain ⟨hcl1, hfz1⟩ := bcell hB1
  go_wp2_with fail
  refine (Next_bad c h5 hc _ _ hT1).mono ?_
  rintro e w2 ⟨rfl, hb⟩
  have hB2 : Below (w.heap.size + 1) (w.alloc (.cells #[.int .u64 c.mi, .int .u64 c.ho, .int .u64 c.dm, .int .u64 c.mo, .int .u64 c.dw] 24)) w2 := hB1.trans (hb.mono (by have := hB1.size; simp at this; omega))
  clear hb
  have hT2 := (hT.alloc _).below hB2 (by simp)
  obtain ⟨hcl2, hfz2⟩ := bcell hB2
  go_wp2_with fail
  refine (CronFault_no c h5 hc _).mono ?_
  rintro e w3 ⟨rfl, hb⟩
  have hB3 : Below (w.heap.size + 1) (w.alloc (.cells #[.int .u64 c.mi, .int .u64 c.ho, .int .u64 c.dm, .int .u64 c.mo, .int .u64 c.dw] 24)) w3 := hB2.trans (hb.mono (by have := hB2.size; simp at this; omega))
  clear hb
  have hT3 := (hT.alloc _).below hB3 (by simp)
  obtain ⟨hcl3, hfz3⟩ := bcell hB3
  go_wp2_with fail
  go_ret
  exact ⟨rfl, (below_box w _).trans (hB3.mono (by omega))⟩

set_option maxHeartbeats 2000000 in
theorem goes_low (c : Cr) (t : Int) (w : World) (hT : Tb w) (hc : okB c = true) (ht : t < -1) :
    Calls Tryd.prog 6 #[.agg #[.int .u64 c.mi, .int .u64 c.ho, .int .u64 c.dm, .int .u64 c.mo, .int .u64 c.dw], .int .i64 t] w fun e w' => e = .returned (.bool true) ∧ Below w.heap.size w w' := by
  have ht0 : t < 0 := by omega
  go_enter Tryd.func6, Tryd.ntmps6
  go_wp2_with fail
  refine (Match_range c hc _ _ (hT.alloc _) (Or.inl ht0)).mono ?_
  rintro e w1 ⟨rfl, hb⟩
  have hB1 : Below (w.heap.size + 1) (w.alloc (.cells #[.int .u64 c.mi, .int .u64 c.ho, .int .u64 c.dm, .int .u64 c.mo, .int .u64 c.dw] 24)) w1 := hb.mono (by simp)
  clear hb
  have hT1 := (hT.alloc _).below hB1 (by simp)
  obtain ⟨hcl1, hfz1⟩ := bcell hB1
  go_wp2_with fail
  refine (Next_range c hc _ _ hT1 (Or.inl ht)).mono ?_
  rintro e w2 ⟨rfl, hb⟩
  have hB2 : Below (w.heap.size + 1) (w.alloc (.cells #[.int .u64 c.mi, .int .u64 c.ho, .int .u64 c.dm, .int .u64 c.mo, .int .u64 c.dw] 24)) w2 := hB1.trans (hb.mono (by have := hB1.size; simp at this; omega))
  clear hb
  have hT2 := (hT.alloc _).below hB2 (by simp)
  obtain ⟨hcl2, hfz2⟩ := bcell hB2
  go_wp2_with fail
  refine (CronFault_yes c hc _).mono ?_
  rintro e w3 ⟨rfl, hb⟩
  have hB3 : Below (w.heap.size + 1) (w.alloc (.cells #[.int .u64 c.mi, .int .u64 c.ho, .int .u64 c.dm, .int .u64 c.mo, .int .u64 c.dw] 24)) w3 := hB2.trans (hb.mono (by have := hB2.size; simp at this; omega))
  clear hb
  have hT3 := (hT.alloc _).below hB3 (by simp)
  obtain ⟨hcl3, hfz3⟩ := bcell hB3
  go_wp2_with fail
  go_ret
  exact ⟨rfl, (below_box w _).trans (hB3.mono (by omega))⟩

set_option maxHeartbeats 2000000 in
theorem goes_high (c : Cr) (t : Int) (w : World) (hT : Tb w) (hc : okB c = true) (ht : 5258964959 < t) :
    Calls Tryd.prog 6 #[.agg #[.int .u64 c.mi, .int .u64 c.ho, .int .u64 c.dm, .int .u64 c.mo, .int .u64 c.dw], .int .i64 t] w fun e w' => e = .returned (.bool true) ∧ Below w.heap.size w w' := by
  have ht0 : ¬ t < 0 := by omega
  have ht1 : ¬ t < -1 := by omega
  go_enter Tryd.func6, Tryd.ntmps6
  go_wp2_with fail
  refine (Match_range c hc _ _ (hT.alloc _) (Or.inr ht)).mono ?_
  rintro e w1 ⟨rfl, hb⟩
  have hB1 : Below (w.heap.size + 1) (w.alloc (.cells #[.int .u64 c.mi, .int .u64 c.ho, .int .u64 c.dm, .int .u64 c.mo, .int .u64 c.dw] 24)) w1 := hb.mono (by simp)
  clear hb
  have hT1 := (hT.alloc _).below hB1 (by simp)
  obtain ⟨hcl1, hfz1⟩ := bcell hB1
  go_wp2_with fail
  refine (Next_range c hc _ _ hT1 (Or.inr ht)).mono ?_
  rintro e w2 ⟨rfl, hb⟩
  have hB2 : Below (w.heap.size + 1) (w.alloc (.cells #[.int .u64 c.mi, .int .u64 c.ho, .int .u64 c.dm, .int .u64 c.mo, .int .u64 c.dw] 24)) w2 := hB1.trans (hb.mono (by have := hB1.size; simp at this; omega))
  clear hb
  have hT2 := (hT.alloc _).below hB2 (by simp)
  obtain ⟨hcl2, hfz2⟩ := bcell hB2
  go_wp2_with fail
  refine (CronFault_yes c hc _).mono ?_
  rintro e w3 ⟨rfl, hb⟩
  have hB3 : Below (w.heap.size + 1) (w.alloc (.cells #[.int .u64 c.mi, .int .u64 c.ho, .int .u64 c.dm, .int .u64 c.mo, .int .u64 c.dw] 24)) w3 := hB2.trans (hb.mono (by have := hB2.size; simp at this; omega))
  clear hb
  have hT3 := (hT.alloc _).below hB3 (by simp)
  obtain ⟨hcl3, hfz3⟩ := bcell hB3
  go_wp2_with fail
  go_ret
  exact ⟨rfl, (below_box w _).trans (hB3.mono (by omega))⟩

set_option maxHeartbeats 2000000 in
theorem goes_first_at (c : Cr) (t n : Int) (w : World) (hT : Tb w) (hc : okB c = true) (ht : t < 0) (h1 : -1 ≤ t) (hn : NextIs c t n) :
    Calls Tryd.prog 6 #[.agg #[.int .u64 c.mi, .int .u64 c.ho, .int .u64 c.dm, .int .u64 c.mo, .int .u64 c.dw], .int .i64 t] w fun e w' => e = .returned (.bool true) ∧ Below w.heap.size w w' := by
  have h2 : t ≤ 5258964959 := by omega
  have ht1 : ¬ t < -1 := by omega
  go_enter Tryd.func6, Tryd.ntmps6
  go_wp2_with fail
  refine (Match_range c hc _ _ (hT.alloc _) (Or.inl ht)).mono ?_
  rintro e w1 ⟨rfl, hb⟩
  have hB1 : Below (w.heap.size + 1) (w.alloc (.cells #[.int .u64 c.mi, .int .u64 c.ho, .int .u64 c.dm, .int .u64 c.mo, .int .u64 c.dw] 24)) w1 := hb.mono (by simp)
  clear hb
  have hT1 := (hT.alloc _).below hB1 (by simp)
  obtain ⟨hcl1, hfz1⟩ := bcell hB1
  go_wp2_with fail
  refine (Next_at c hc _ n _ hT1 h1 h2 hn).mono ?_
  rintro e w2 ⟨rfl, hb⟩
  have hB2 : Below (w.heap.size + 1) (w.alloc (.cells #[.int .u64 c.mi, .int .u64 c.ho, .int .u64 c.dm, .int .u64 c.mo, .int .u64 c.dw] 24)) w2 := hB1.trans (hb.mono (by have := hB1.size; simp at this; omega))
  clear hb
  have hT2 := (hT.alloc _).below hB2 (by simp)
  obtain ⟨hcl2, hfz2⟩ := bcell hB2
  go_wp2_with fail
  refine (CronFault_yes c hc _).mono ?_
  rintro e w3 ⟨rfl, hb⟩
  have hB3 : Below (w.heap.size + 1) (w.alloc (.cells #[.int .u64 c.mi, .int .u64 c.ho, .int .u64 c.dm, .int .u64 c.mo, .int .u64 c.dw] 24)) w3 := hB2.trans (hb.mono (by have := hB2.size; simp at this; omega))
  clear hb
  have hT3 := (hT.alloc _).below hB3 (by simp)
  obtain ⟨hcl3, hfz3⟩ := bcell hB3
  go_wp2_with fail
  refine (CronNext_at c hc _ n _ h1 h2 hn).mono ?_
  rintro e w4 ⟨rfl, hb⟩
  have hB4 : Below (w.heap.size + 1) (w.alloc (.cells #[.int .u64 c.mi, .int .u64 c.ho, .int .u64 c.dm, .int .u64 c.mo, .int .u64 c.dw] 24)) w4 := hB3.trans (hb.mono (by have := hB3.size; simp at this; omega))
  clear hb
  have hT4 := (hT.alloc _).below hB4 (by simp)
  obtain ⟨hcl4, hfz4⟩ := bcell hB4
  go_wp2_with fail
  go_ret
  exact ⟨ret_bool (by simp), (below_box w _).trans (hB4.mono (by omega))⟩

set_option maxHeartbeats 2000000 in
theorem goes_first_no (c : Cr) (t : Int) (w : World) (hT : Tb w) (hc : okB c = true) (ht : t < 0) (h1 : -1 ≤ t) (hn : NoNext c t) :
    Calls Tryd.prog 6 #[.agg #[.int .u64 c.mi, .int .u64 c.ho, .int .u64 c.dm, .int .u64 c.mo, .int .u64 c.dw], .int .i64 t] w fun e w' => e = .returned (.bool true) ∧ Below w.heap.size w w' := by
  have h2 : t ≤ 5258964959 := by omega
  have ht1 : ¬ t < -1 := by omega
  go_enter Tryd.func6, Tryd.ntmps6
  go_wp2_with fail
  refine (Match_range c hc _ _ (hT.alloc _) (Or.inl ht)).mono ?_
  rintro e w1 ⟨rfl, hb⟩
  have hB1 : Below (w.heap.size + 1) (w.alloc (.cells #[.int .u64 c.mi, .int .u64 c.ho, .int .u64 c.dm, .int .u64 c.mo, .int .u64 c.dw] 24)) w1 := hb.mono (by simp)
  clear hb
  have hT1 := (hT.alloc _).below hB1 (by simp)
  obtain ⟨hcl1, hfz1⟩ := bcell hB1
  go_wp2_with fail
  refine (Next_none c hc _ _ hT1 h1 h2 hn).mono ?_
  rintro e w2 ⟨rfl, hb⟩
  have hB2 : Below (w.heap.size + 1) (w.alloc (.cells #[.int .u64 c.mi, .int .u64 c.ho, .int .u64 c.dm, .int .u64 c.mo, .int .u64 c.dw] 24)) w2 := hB1.trans (hb.mono (by have := hB1.size; simp at this; omega))
  clear hb
  have hT2 := (hT.alloc _).below hB2 (by simp)
  obtain ⟨hcl2, hfz2⟩ := bcell hB2
  go_wp2_with fail
  refine (CronFault_yes c hc _).mono ?_
  rintro e w3 ⟨rfl, hb⟩
  have hB3 : Below (w.heap.size + 1) (w.alloc (.cells #[.int .u64 c.mi, .int .u64 c.ho, .int .u64 c.dm, .int .u64 c.mo, .int .u64 c.dw] 24)) w3 := hB2.trans (hb.mono (by have := hB2.size; simp at this; omega))
  clear hb
  have hT3 := (hT.alloc _).below hB3 (by simp)
  obtain ⟨hcl3, hfz3⟩ := bcell hB3
  go_wp2_with fail
  refine (CronNext_none c hc _ _ h1 h2 hn).mono ?_
  rintro e w4 ⟨rfl, hb⟩
  have hB4 : Below (w.heap.size + 1) (w.alloc (.cells #[.int .u64 c.mi, .int .u64 c.ho, .int .u64 c.dm, .int .u64 c.mo, .int .u64 c.dw] 24)) w4 := hB3.trans (hb.mono (by have := hB3.size; simp at this; omega))
  clear hb
  have hT4 := (hT.alloc _).below hB4 (by simp)
  obtain ⟨hcl4, hfz4⟩ := bcell hB4
  go_wp2_with fail
  go_ret
  exact ⟨rfl, (below_box w _).trans (hB4.mono (by omega))⟩

set_option maxHeartbeats 2000000 in
theorem goes_at (c : Cr) (t n : Int) (w : World) (hT : Tb w) (hc : okB c = true) (h0 : 0 ≤ t) (h2 : t ≤ 5258964959) (hn : NextIs c t n) :
    Calls Tryd.prog 6 #[.agg #[.int .u64 c.mi, .int .u64 c.ho, .int .u64 c.dm, .int .u64 c.mo, .int .u64 c.dw], .int .i64 t] w fun e w' => e = .returned (.bool true) ∧ Below w.heap.size w w' := by
  have ht0 : ¬ t < 0 := by omega
  have ht1 : ¬ t < -1 := by omega
  have h1 : -1 ≤ t := by omega
  go_enter Tryd.func6, Tryd.ntmps6
  go_wp2_with fail
  refine (Match_yes c hc _ _ (hT.alloc _) h0 h2).mono ?_
  rintro e w1 ⟨rfl, hb⟩
  have hB1 : Below (w.heap.size + 1) (w.alloc (.cells #[.int .u64 c.mi, .int .u64 c.ho, .int .u64 c.dm, .int .u64 c.mo, .int .u64 c.dw] 24)) w1 := hb.mono (by simp)
  clear hb
  have hT1 := (hT.alloc _).below hB1 (by simp)
  obtain ⟨hcl1, hfz1⟩ := bcell hB1
  go_wp2_with fail
  refine (Next_at c hc _ n _ hT1 h1 h2 hn).mono ?_
  rintro e w2 ⟨rfl, hb⟩
  have hB2 : Below (w.heap.size + 1) (w.alloc (.cells #[.int .u64 c.mi, .int .u64 c.ho, .int .u64 c.dm, .int .u64 c.mo, .int .u64 c.dw] 24)) w2 := hB1.trans (hb.mono (by have := hB1.size; simp at this; omega))
  clear hb
  have hT2 := (hT.alloc _).below hB2 (by simp)
  obtain ⟨hcl2, hfz2⟩ := bcell hB2
  go_wp2_with fail
  refine (CronFault_yes c hc _).mono ?_
  rintro e w3 ⟨rfl, hb⟩
  have hB3 : Below (w.heap.size + 1) (w.alloc (.cells #[.int .u64 c.mi, .int .u64 c.ho, .int .u64 c.dm, .int .u64 c.mo, .int .u64 c.dw] 24)) w3 := hB2.trans (hb.mono (by have := hB2.size; simp at this; omega))
  clear hb
  have hT3 := (hT.alloc _).below hB3 (by simp)
  obtain ⟨hcl3, hfz3⟩ := bcell hB3
  go_wp2_with fail
  refine (CronMatch_any c hc _ _ h0 h2).mono ?_
  rintro e w4 ⟨rfl, hb⟩
  have hB4 : Below (w.heap.size + 1) (w.alloc (.cells #[.int .u64 c.mi, .int .u64 c.ho, .int .u64 c.dm, .int .u64 c.mo, .int .u64 c.dw] 24)) w4 := hB3.trans (hb.mono (by have := hB3.size; simp at this; omega))
  clear hb
  have hT4 := (hT.alloc _).below hB4 (by simp)
  obtain ⟨hcl4, hfz4⟩ := bcell hB4
  go_wp2_with fail
  refine (CronNext_at c hc _ n _ h1 h2 hn).mono ?_
  rintro e w5 ⟨rfl, hb⟩
  have hB5 : Below (w.heap.size + 1) (w.alloc (.cells #[.int .u64 c.mi, .int .u64 c.ho, .int .u64 c.dm, .int .u64 c.mo, .int .u64 c.dw] 24)) w5 := hB4.trans (hb.mono (by have := hB4.size; simp at this; omega))
  clear hb
  have hT5 := (hT.alloc _).below hB5 (by simp)
  obtain ⟨hcl5, hfz5⟩ := bcell hB5
  go_wp2_with fail
  go_ret
  exact ⟨ret_bool (by simp), (below_box w _).trans (hB5.mono (by omega))⟩

set_option maxHeartbeats 2000000 in
theorem goes_no (c : Cr) (t : Int) (w : World) (hT : Tb w) (hc : okB c = true) (h0 : 0 ≤ t) (h2 : t ≤ 5258964959) (hn : NoNext c t) :
    Calls Tryd.prog 6 #[.agg #[.int .u64 c.mi, .int .u64 c.ho, .int .u64 c.dm, .int .u64 c.mo, .int .u64 c.dw], .int .i64 t] w fun e w' => e = .returned (.bool true) ∧ Below w.heap.size w w' := by
  have ht0 : ¬ t < 0 := by omega
  have ht1 : ¬ t < -1 := by omega
  have h1 : -1 ≤ t := by omega
  go_enter Tryd.func6, Tryd.ntmps6
  go_wp2_with fail
  refine (Match_yes c hc _ _ (hT.alloc _) h0 h2).mono ?_
  rintro e w1 ⟨rfl, hb⟩
  have hB1 : Below (w.heap.size + 1) (w.alloc (.cells #[.int .u64 c.mi, .int .u64 c.ho, .int .u64 c.dm, .int .u64 c.mo, .int .u64 c.dw] 24)) w1 := hb.mono (by simp)
  clear hb
  have hT1 := (hT.alloc _).below hB1 (by simp)
  obtain ⟨hcl1, hfz1⟩ := bcell hB1
  go_wp2_with fail
  refine (Next_none c hc _ _ hT1 h1 h2 hn).mono ?_
  rintro e w2 ⟨rfl, hb⟩
  have hB2 : Below (w.heap.size + 1) (w.alloc (.cells #[.int .u64 c.mi, .int .u64 c.ho, .int .u64 c.dm, .int .u64 c.mo, .int .u64 c.dw] 24)) w2 := hB1.trans (hb.mono (by have := hB1.size; simp at this; omega))
  clear hb
  have hT2 := (hT.alloc _).below hB2 (by simp)
  obtain ⟨hcl2, hfz2⟩ := bcell hB2
  go_wp2_with fail
  refine (CronFault_yes c hc _).mono ?_
  rintro e w3 ⟨rfl, hb⟩
  have hB3 : Below (w.heap.size + 1) (w.alloc (.cells #[.int .u64 c.mi, .int .u64 c.ho, .int .u64 c.dm, .int .u64 c.mo, .int .u64 c.dw] 24)) w3 := hB2.trans (hb.mono (by have := hB2.size; simp at this; omega))
  clear hb
  have hT3 := (hT.alloc _).below hB3 (by simp)
  obtain ⟨hcl3, hfz3⟩ := bcell hB3
  go_wp2_with fail
  refine (CronMatch_any c hc _ _ h0 h2).mono ?_
  rintro e w4 ⟨rfl, hb⟩
  have hB4 : Below (w.heap.size + 1) (w.alloc (.cells #[.int .u64 c.mi, .int .u64 c.ho, .int .u64 c.dm, .int .u64 c.mo, .int .u64 c.dw] 24)) w4 := hB3.trans (hb.mono (by have := hB3.size; simp at this; omega))
  clear hb
  have hT4 := (hT.alloc _).below hB4 (by simp)
  obtain ⟨hcl4, hfz4⟩ := bcell hB4
  go_wp2_with fail
  refine (CronNext_none c hc _ _ h1 h2 hn).mono ?_
  rintro e w5 ⟨rfl, hb⟩
  have hB5 : Below (w.heap.size + 1) (w.alloc (.cells #[.int .u64 c.mi, .int .u64 c.ho, .int .u64 c.dm, .int .u64 c.mo, .int .u64 c.dw] 24)) w5 := hB4.trans (hb.mono (by have := hB4.size; simp at this; omega))
  clear hb
  have hT5 := (hT.alloc _).below hB5 (by simp)
  obtain ⟨hcl5, hfz5⟩ := bcell hB5
  go_wp2_with fail
  go_ret
  exact ⟨rfl, (below_box w _).trans (hB5.mono (by omega))⟩

theorem cronGoes_walk (c : Cr) (h5 : In5 c) (t : Int) (w : World) (hT : Tb w) :
    Calls Tryd.prog 6 #[.agg #[.int .u64 c.mi, .int .u64 c.ho, .int .u64 c.dm, .int .u64 c.mo, .int .u64 c.dw], .int .i64 t] w fun e w' => e = .returned (.bool true) ∧ Below w.heap.size w w' := by
  by_cases hc : okB c = true
  · by_cases hl : t < -1
    · exact goes_low c t w hT hc hl
    · by_cases hh : 5258964959 < t
      · exact goes_high c t w hT hc hh
      · by_cases h0 : t < 0
        · rcases next_or c (t := t) (by omega) with ⟨n, hn⟩ | hn
          · exact goes_first_at c t n w hT hc h0 (by omega) hn
          · exact goes_first_no c t w hT hc h0 (by omega) hn
        · rcases next_or c (t := t) (by omega) with ⟨n, hn⟩ | hn
          · exact goes_at c t n w hT hc (by omega) (by omega) hn
          · exact goes_no c t w hT hc (by omega) (by omega) hn
  · exact goes_bad c h5 t w hT (by simpa using hc)
end Go.Proofs.YtbcfdleijpicgabDoor
