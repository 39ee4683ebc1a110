/- CronAgain: four hundred years farther just the same times match: the walk. -/
import Derived.Test.YtbcfdleijpicgabDoorSom
namespace Go.Proofs.YtbcfdleijpicgabDoor
open Go.RowKit Cal Crn

set_option maxHeartbeats 2000000 in
theorem again_out (c : Cr) (h5 : In5 c) (t : Int) (w : World) (hT : Tb w) (ht : t < 0 ∨ 5048585279 < t) :
    Calls Tryd.prog 5 #[.agg #[.int .u64 c.mi, .int .u64 c.ho, .int .u64 c.dm, .int .u64 c.mo, .int .u64 c.dw], .int .i64 t] w fun e w' => e = .returned (.bool true) ∧ Below w.heap.size w w' := by
  rcases ht with ht | ht
  · go_enter Tryd.func5, Tryd.ntmps5
    go_wp2_with fail
    refine (crons_any _ (hT.alloc _)).mono ?_
    rintro e w1 ⟨rfl, hb⟩
    have hB1 : Below (w.heap.size + 1) (w.alloc (.cells #[.int .u64 c.mi, .int .u64 c.ho, .int .u64 c.dm, .int .u64 c.mo, .int .u64 c.dw] 24)) w1 := hb.mono (by simp)
    clear hb
    have hT1 := (hT.alloc _).below hB1 (by simp)
    obtain ⟨hcl1, hfz1⟩ := bcell hB1
    go_wp2_with fail
    refine (Match_some c h5 _ _ hT1).mono ?_
    rintro e w2 ⟨a, k, rfl, hb⟩
    have hB2 : Below (w.heap.size + 1) (w.alloc (.cells #[.int .u64 c.mi, .int .u64 c.ho, .int .u64 c.dm, .int .u64 c.mo, .int .u64 c.dw] 24)) w2 := hB1.trans (hb.mono (by have := hB1.size; simp at this; omega))
    clear hb
    have hT2 := (hT.alloc _).below hB2 (by simp)
    obtain ⟨hcl2, hfz2⟩ := bcell hB2
    go_wp2_with fail
    refine (Match_some c h5 _ _ hT2).mono ?_
    rintro e w3 ⟨a2, k2, rfl, hb⟩
    have hB3 : Below (w.heap.size + 1) (w.alloc (.cells #[.int .u64 c.mi, .int .u64 c.ho, .int .u64 c.dm, .int .u64 c.mo, .int .u64 c.dw] 24)) w3 := hB2.trans (hb.mono (by have := hB2.size; simp at this; omega))
    clear hb
    have hT3 := (hT.alloc _).below hB3 (by simp)
    obtain ⟨hcl3, hfz3⟩ := bcell hB3
    go_wp2_with fail
    go_ret
    exact ⟨rfl, (below_box w _).trans (hB3.mono (by omega))⟩
  · have ht' : ¬ t < 0 := by omega
    go_enter Tryd.func5, Tryd.ntmps5
    go_wp2_with fail
    refine (crons_any _ (hT.alloc _)).mono ?_
    rintro e w1 ⟨rfl, hb⟩
    have hB1 : Below (w.heap.size + 1) (w.alloc (.cells #[.int .u64 c.mi, .int .u64 c.ho, .int .u64 c.dm, .int .u64 c.mo, .int .u64 c.dw] 24)) w1 := hb.mono (by simp)
    clear hb
    have hT1 := (hT.alloc _).below hB1 (by simp)
    obtain ⟨hcl1, hfz1⟩ := bcell hB1
    go_wp2_with fail
    refine (Match_some c h5 _ _ hT1).mono ?_
    rintro e w2 ⟨a, k, rfl, hb⟩
    have hB2 : Below (w.heap.size + 1) (w.alloc (.cells #[.int .u64 c.mi, .int .u64 c.ho, .int .u64 c.dm, .int .u64 c.mo, .int .u64 c.dw] 24)) w2 := hB1.trans (hb.mono (by have := hB1.size; simp at this; omega))
    clear hb
    have hT2 := (hT.alloc _).below hB2 (by simp)
    obtain ⟨hcl2, hfz2⟩ := bcell hB2
    go_wp2_with fail
    refine (Match_some c h5 _ _ hT2).mono ?_
    rintro e w3 ⟨a2, k2, rfl, hb⟩
    have hB3 : Below (w.heap.size + 1) (w.alloc (.cells #[.int .u64 c.mi, .int .u64 c.ho, .int .u64 c.dm, .int .u64 c.mo, .int .u64 c.dw] 24)) w3 := hB2.trans (hb.mono (by have := hB2.size; simp at this; omega))
    clear hb
    have hT3 := (hT.alloc _).below hB3 (by simp)
    obtain ⟨hcl3, hfz3⟩ := bcell hB3
    go_wp2_with fail
    go_ret
    exact ⟨rfl, (below_box w _).trans (hB3.mono (by omega))⟩

set_option maxHeartbeats 2000000 in
theorem again_bad (c : Cr) (h5 : In5 c) (t : Int) (w : World) (hT : Tb w) (hc : okB c = false) (h0 : 0 ≤ t) (h1 : t ≤ 5048585279) :
    Calls Tryd.prog 5 #[.agg #[.int .u64 c.mi, .int .u64 c.ho, .int .u64 c.dm, .int .u64 c.mo, .int .u64 c.dw], .int .i64 t] w fun e w' => e = .returned (.bool true) ∧ Below w.heap.size w w' := by
  go_enter Tryd.func5, Tryd.ntmps5
  go_wp2_with fail
  refine (crons_any _ (hT.alloc _)).mono ?_
  rintro e w1 ⟨rfl, hb⟩
  have hB1 : Below (w.heap.size + 1) (w.alloc (.cells #[.int .u64 c.mi, .int .u64 c.ho, .int .u64 c.dm, .int .u64 c.mo, .int .u64 c.dw] 24)) w1 := hb.mono (by simp)
  clear hb
  have hT1 := (hT.alloc _).below hB1 (by simp)
  obtain ⟨hcl1, hfz1⟩ := bcell hB1
  go_wp2_with fail
  refine (Match_bad c h5 hc _ _ hT1).mono ?_
  rintro e w2 ⟨rfl, hb⟩
  have hB2 : Below (w.heap.size + 1) (w.alloc (.cells #[.int .u64 c.mi, .int .u64 c.ho, .int .u64 c.dm, .int .u64 c.mo, .int .u64 c.dw] 24)) w2 := hB1.trans (hb.mono (by have := hB1.size; simp at this; omega))
  clear hb
  have hT2 := (hT.alloc _).below hB2 (by simp)
  obtain ⟨hcl2, hfz2⟩ := bcell hB2
  go_wp2_with fail
  refine (Match_bad c h5 hc _ _ hT2).mono ?_
  rintro e w3 ⟨rfl, hb⟩
  have hB3 : Below (w.heap.size + 1) (w.alloc (.cells #[.int .u64 c.mi, .int .u64 c.ho, .int .u64 c.dm, .int .u64 c.mo, .int .u64 c.dw] 24)) w3 := hB2.trans (hb.mono (by have := hB2.size; simp at this; omega))
  clear hb
  have hT3 := (hT.alloc _).below hB3 (by simp)
  obtain ⟨hcl3, hfz3⟩ := bcell hB3
  go_wp2_with fail
  go_ret
  exact ⟨rfl, (below_box w _).trans (hB3.mono (by omega))⟩

set_option maxHeartbeats 2000000 in
theorem again_in (c : Cr) (t : Int) (w : World) (hT : Tb w) (hc : okB c = true) (h0 : 0 ≤ t) (h1 : t ≤ 5048585279) :
    Calls Tryd.prog 5 #[.agg #[.int .u64 c.mi, .int .u64 c.ho, .int .u64 c.dm, .int .u64 c.mo, .int .u64 c.dw], .int .i64 t] w fun e w' => e = .returned (.bool true) ∧ Below w.heap.size w w' := by
  have he := mat_400 c h0 (by omega)
  have HE : Hid (matB c (t + 210379680) = matB c t) := he
  clear he
  go_enter Tryd.func5, Tryd.ntmps5
  go_wp2_with fail
  refine (crons_any _ (hT.alloc _)).mono ?_
  rintro e w1 ⟨rfl, hb⟩
  have hB1 : Below (w.heap.size + 1) (w.alloc (.cells #[.int .u64 c.mi, .int .u64 c.ho, .int .u64 c.dm, .int .u64 c.mo, .int .u64 c.dw] 24)) w1 := hb.mono (by simp)
  clear hb
  have hT1 := (hT.alloc _).below hB1 (by simp)
  obtain ⟨hcl1, hfz1⟩ := bcell hB1
  go_wp2_with fail
  refine (Match_yes c hc _ _ hT1 (by omega) (by omega)).mono ?_
  rintro e w2 ⟨rfl, hb⟩
  have hB2 : Below (w.heap.size + 1) (w.alloc (.cells #[.int .u64 c.mi, .int .u64 c.ho, .int .u64 c.dm, .int .u64 c.mo, .int .u64 c.dw] 24)) w2 := hB1.trans (hb.mono (by have := hB1.size; simp at this; omega))
  clear hb
  have hT2 := (hT.alloc _).below hB2 (by simp)
  obtain ⟨hcl2, hfz2⟩ := bcell hB2
  go_wp2_with fail
  refine (Match_yes c hc _ _ hT2 (by omega) (by omega)).mono ?_
  rintro e w3 ⟨rfl, hb⟩
  have hB3 : Below (w.heap.size + 1) (w.alloc (.cells #[.int .u64 c.mi, .int .u64 c.ho, .int .u64 c.dm, .int .u64 c.mo, .int .u64 c.dw] 24)) w3 := hB2.trans (hb.mono (by have := hB2.size; simp at this; omega))
  clear hb
  have hT3 := (hT.alloc _).below hB3 (by simp)
  obtain ⟨hcl3, hfz3⟩ := bcell hB3
  go_wp2_with fail
  go_ret
  exact ⟨ret_bool (by rw [HE.out]; simp), (below_box w _).trans (hB3.mono (by omega))⟩

theorem cronAgain_walk (c : Cr) (h5 : In5 c) (t : Int) (w : World) (hT : Tb w) :
    Calls Tryd.prog 5 #[.agg #[.int .u64 c.mi, .int .u64 c.ho, .int .u64 c.dm, .int .u64 c.mo, .int .u64 c.dw], .int .i64 t] w fun e w' => e = .returned (.bool true) ∧ Below w.heap.size w w' := by
  by_cases ht : t < 0 ∨ 5048585279 < t
  · exact again_out c h5 t w hT ht
  · by_cases hc : okB c = true
    · exact again_in c t w hT hc (by omega) (by omega)
    · exact again_bad c h5 t w hT (by simpa using hc) (by omega) (by omega)
end Go.Proofs.YtbcfdleijpicgabDoor
