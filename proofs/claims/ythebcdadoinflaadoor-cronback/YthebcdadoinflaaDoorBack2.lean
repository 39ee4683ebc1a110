/- CronBack: a cron is parsed as it was printed: the walk. -/
import Derived.Test.YthebcdadoinflaaDoorCrs
import Derived.Test.YthebcdadoinflaaDoorPar
import Derived.Test.YthebcdadoinflaaDoorPri
namespace Go.Proofs.YthebcdadoinflaaDoor
open Go.RowKit Cal Crn Txt

/-- All that these laws lean on. -/
structure Ta (w : World) : Prop where
  b : Tb w
  x : Tx w
theorem Ta.below {w w' : World} {B : Nat} (h : Ta w) (hb : Below B w w') (hB : w.heap.size ≤ B) : Ta w' := ⟨h.b.below hb hB, h.x.below hb hB⟩
theorem Ta.alloc {w : World} (h : Ta w) (o : Obj) : Ta (w.alloc o) := ⟨h.b.alloc o, h.x.alloc o⟩

set_option maxHeartbeats 2000000 in
theorem back_bad (c : Cr) (h5 : In5 c) (hc : okB c = false) (w : World) (hT : Ta w) :
    Calls Tryd.prog 4 #[.agg #[.int .u64 c.mi, .int .u64 c.ho, .int .u64 c.dm, .int .u64 c.mo, .int .u64 c.dw]] w fun e w' => e = .returned (.bool true) ∧ Below w.heap.size w w' := by
  go_enter Tryd.func4, Tryd.ntmps4
  go_wp2_with fail
  refine (crons_any _ (hT.alloc _).b).mono ?_
  rintro e w1 ⟨rfl, hb⟩
  have hB1 : Below (w.heap.size + 1) (w.alloc (.cells #[.int .u64 c.mi, .int .u64 c.ho, .int .u64 c.dm, .int .u64 c.mo, .int .u64 c.dw] 24)) w1 := hb.mono (by simp)
  clear hb
  have hT1 := (hT.alloc _).below hB1 (by simp)
  obtain ⟨hcl1, hfz1⟩ := bcell hB1
  go_wp2_with fail
  refine (Print_bad c h5 hc _ hT1.x.c).mono ?_
  rintro e w2 ⟨rfl, hb⟩
  have hB2 : Below (w.heap.size + 1) (w.alloc (.cells #[.int .u64 c.mi, .int .u64 c.ho, .int .u64 c.dm, .int .u64 c.mo, .int .u64 c.dw] 24)) w2 := hB1.trans (hb.mono (by have := hB1.size; simp at this; omega))
  clear hb
  have hT2 := (hT.alloc _).below hB2 (by simp)
  obtain ⟨hcl2, hfz2⟩ := bcell hB2
  go_wp2_with fail
  go_ret
  exact ⟨rfl, ((below_box w _).trans (hB2.mono (by omega)))⟩

set_option maxHeartbeats 2000000 in
theorem back_large (c : Cr) (hc : okB c = true) (hl : 200 < (prt c).length) (w : World) (hT : Ta w) :
    Calls Tryd.prog 4 #[.agg #[.int .u64 c.mi, .int .u64 c.ho, .int .u64 c.dm, .int .u64 c.mo, .int .u64 c.dw]] w fun e w' => e = .returned (.bool true) ∧ Below w.heap.size w w' := by
  have hsz : 200 < (ByteArray.mk (prt c).toArray).size := by rw [mk_size]; exact hl
  have cp := fun w (hT : Tx w) => Print_ok c hc w hT
  generalize ByteArray.mk (prt c).toArray = s at *
  go_enter Tryd.func4, Tryd.ntmps4
  go_wp2_with fail
  refine (crons_any _ (hT.alloc _).b).mono ?_
  rintro e w1 ⟨rfl, hb⟩
  have hB1 : Below (w.heap.size + 1) (w.alloc (.cells #[.int .u64 c.mi, .int .u64 c.ho, .int .u64 c.dm, .int .u64 c.mo, .int .u64 c.dw] 24)) w1 := hb.mono (by simp)
  clear hb
  have hT1 := (hT.alloc _).below hB1 (by simp)
  obtain ⟨hcl1, hfz1⟩ := bcell hB1
  go_wp2_with fail
  refine (cp _ hT1.x).mono ?_
  rintro e w2 ⟨rfl, hb⟩
  have hB2 : Below (w.heap.size + 1) (w.alloc (.cells #[.int .u64 c.mi, .int .u64 c.ho, .int .u64 c.dm, .int .u64 c.mo, .int .u64 c.dw] 24)) w2 := hB1.trans (hb.mono (by have := hB1.size; simp at this; omega))
  clear hb
  have hT2 := (hT.alloc _).below hB2 (by simp)
  obtain ⟨hcl2, hfz2⟩ := bcell hB2
  go_wp2_with fail
  refine (Parse_large s _ hsz).mono ?_
  rintro e w3 ⟨rfl, hb⟩
  have hB3 : Below (w.heap.size + 1) (w.alloc (.cells #[.int .u64 c.mi, .int .u64 c.ho, .int .u64 c.dm, .int .u64 c.mo, .int .u64 c.dw] 24)) w3 := hB2.trans (hb.mono (by have := hB2.size; simp at this; omega))
  clear hb
  have hT3 := (hT.alloc _).below hB3 (by simp)
  obtain ⟨hcl3, hfz3⟩ := bcell hB3
  have hs3 : w.heap.size < w3.heap.size := by have := hB3.size; simp at this; omega
  go_wp2_with fail
  go_ret
  exact ⟨rfl, ((below_box w _).trans (hB3.mono (by omega))).alloc (Nat.le_of_lt hs3) _⟩

set_option maxHeartbeats 2000000 in
theorem back_small (c : Cr) (hc : okB c = true) (hl : (prt c).length ≤ 200) (w : World) (hT : Ta w) :
    Calls Tryd.prog 4 #[.agg #[.int .u64 c.mi, .int .u64 c.ho, .int .u64 c.dm, .int .u64 c.mo, .int .u64 c.dw]] w fun e w' => e = .returned (.bool true) ∧ Below w.heap.size w w' := by
  have hsz : (ByteArray.mk (prt c).toArray).size ≤ 200 := by rw [mk_size]; exact hl
  have cp := fun w (hT : Tx w) => Print_ok c hc w hT
  have cq := fun w (hT : Tx w) => Parse_yes (prt c) c w hT hl (prs_prt hc)
  generalize ByteArray.mk (prt c).toArray = s at *
  go_enter Tryd.func4, Tryd.ntmps4
  go_wp2_with fail
  refine (crons_any _ (hT.alloc _).b).mono ?_
  rintro e w1 ⟨rfl, hb⟩
  have hB1 : Below (w.heap.size + 1) (w.alloc (.cells #[.int .u64 c.mi, .int .u64 c.ho, .int .u64 c.dm, .int .u64 c.mo, .int .u64 c.dw] 24)) w1 := hb.mono (by simp)
  clear hb
  have hT1 := (hT.alloc _).below hB1 (by simp)
  obtain ⟨hcl1, hfz1⟩ := bcell hB1
  go_wp2_with fail
  refine (cp _ hT1.x).mono ?_
  rintro e w2 ⟨rfl, hb⟩
  have hB2 : Below (w.heap.size + 1) (w.alloc (.cells #[.int .u64 c.mi, .int .u64 c.ho, .int .u64 c.dm, .int .u64 c.mo, .int .u64 c.dw] 24)) w2 := hB1.trans (hb.mono (by have := hB1.size; simp at this; omega))
  clear hb
  have hT2 := (hT.alloc _).below hB2 (by simp)
  obtain ⟨hcl2, hfz2⟩ := bcell hB2
  go_wp2_with fail
  refine (cq _ hT2.x).mono ?_
  rintro e w3 ⟨rfl, hb⟩
  have hB3 : Below (w.heap.size + 1) (w.alloc (.cells #[.int .u64 c.mi, .int .u64 c.ho, .int .u64 c.dm, .int .u64 c.mo, .int .u64 c.dw] 24)) w3 := hB2.trans (hb.mono (by have := hB2.size; simp at this; omega))
  clear hb
  have hT3 := (hT.alloc _).below hB3 (by simp)
  obtain ⟨hcl3, hfz3⟩ := bcell hB3
  have hs3 : w.heap.size < w3.heap.size := by have := hB3.size; simp at this; omega
  go_wp2_with fail
  go_ret
  exact ⟨rfl, ((below_box w _).trans (hB3.mono (by omega))).alloc (Nat.le_of_lt hs3) _⟩

theorem cronBack_walk (c : Cr) (h5 : In5 c) (w : World) (hT : Ta w) :
    Calls Tryd.prog 4 #[.agg #[.int .u64 c.mi, .int .u64 c.ho, .int .u64 c.dm, .int .u64 c.mo, .int .u64 c.dw]] w fun e w' => e = .returned (.bool true) ∧ Below w.heap.size w w' := by
  by_cases hc : okB c = true
  · by_cases hl : 200 < (prt c).length
    · exact back_large c hc hl w hT
    · exact back_small c hc (by omega) w hT
  · exact back_bad c h5 (by simpa using hc) w hT
end Go.Proofs.YthebcdadoinflaaDoor
