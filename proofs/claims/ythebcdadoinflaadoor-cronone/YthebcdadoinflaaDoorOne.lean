/- CronOne: what is parsed is printed as something that is parsed so: the walk. -/
import Derived.Test.YthebcdadoinflaaDoorBack2
namespace Go.Proofs.YthebcdadoinflaaDoor
open Go.RowKit Cal Crn Txt

set_option maxHeartbeats 2000000 in
theorem one_large (l : List UInt8) (hl : 200 < l.length) (w : World) (hT : Ta w) :
    Calls Tryd.prog 5 #[.string ⟨l.toArray⟩] w fun e w' => e = .returned (.bool true) ∧ Below w.heap.size w w' := by
  have hsz : 200 < (ByteArray.mk l.toArray).size := by rw [mk_size]; exact hl
  generalize ByteArray.mk l.toArray = s at *
  go_enter Tryd.func5, Tryd.ntmps5
  go_wp2_with fail
  refine (crons_any _ hT.b).mono ?_
  rintro e w1 ⟨rfl, hb1⟩
  have hT1 := hT.below hb1 (Nat.le_refl _)
  go_wp2_with fail
  refine (Parse_large s _ hsz).mono ?_
  rintro e w2 ⟨rfl, hb2⟩
  have hB := then_below hb1 hb2
  go_wp2_with fail
  go_ret
  exact ⟨rfl, hB.alloc hB.size _⟩

set_option maxHeartbeats 2000000 in
theorem one_no (l : List UInt8) (hl : l.length ≤ 200) (hp : prsO l = none) (w : World) (hT : Ta w) :
    Calls Tryd.prog 5 #[.string ⟨l.toArray⟩] w fun e w' => e = .returned (.bool true) ∧ Below w.heap.size w w' := by
  have cp := fun w (hT : Tx w) => Parse_no l w hT hl hp
  generalize ByteArray.mk l.toArray = s at *
  go_enter Tryd.func5, Tryd.ntmps5
  go_wp2_with fail
  refine (crons_any _ hT.b).mono ?_
  rintro e w1 ⟨rfl, hb1⟩
  have hT1 := hT.below hb1 (Nat.le_refl _)
  go_wp2_with fail
  refine (cp _ hT1.x).mono ?_
  rintro e w2 ⟨rfl, hb2⟩
  have hB := then_below hb1 hb2
  go_wp2_with fail
  go_ret
  exact ⟨rfl, hB.alloc hB.size _⟩

set_option maxHeartbeats 2000000 in
theorem one_yes_large (l : List UInt8) (c : Cr) (hl : l.length ≤ 200) (hp : prsO l = some c) (h2 : 200 < (prt c).length) (w : World) (hT : Ta w) :
    Calls Tryd.prog 5 #[.string ⟨l.toArray⟩] w fun e w' => e = .returned (.bool true) ∧ Below w.heap.size w w' := by
  have hc := prs_ok hp
  have cp := fun w (hT : Tx w) => Parse_yes l c w hT hl hp
  have cq := fun w (hT : Tx w) => Print_ok c hc w hT
  have hsz : 200 < (ByteArray.mk (prt c).toArray).size := by rw [mk_size]; exact h2
  generalize ByteArray.mk l.toArray = s at *
  generalize ByteArray.mk (prt c).toArray = t at *
  go_enter Tryd.func5, Tryd.ntmps5
  go_wp2_with fail
  refine (crons_any _ hT.b).mono ?_
  rintro e w1 ⟨rfl, hb1⟩
  have hT1 := hT.below hb1 (Nat.le_refl _)
  go_wp2_with fail
  refine (cp _ hT1.x).mono ?_
  rintro e w2 ⟨rfl, hb2⟩
  have hB := then_below hb1 hb2
  have hT2 := hT.below hB (Nat.le_refl _)
  have hTa : Ta (w2.alloc (.cells #[.int .u64 c.mi, .int .u64 c.ho, .int .u64 c.dm, .int .u64 c.mo, .int .u64 c.dw] 24)) := hT2.alloc _
  clear hb1 hb2
  go_wp2_with fail
  refine (cq _ hTa.x).mono ?_
  rintro e w3 ⟨rfl, hb⟩
  have hC3 : Below (w2.heap.size + 1) (w2.alloc (.cells #[.int .u64 c.mi, .int .u64 c.ho, .int .u64 c.dm, .int .u64 c.mo, .int .u64 c.dw] 24)) w3 := hb.mono (by simp)
  clear hb
  have hT3 := hTa.below hC3 (by simp)
  have hs3 : w2.heap.size < w3.heap.size := by have := hC3.size; simp at this; omega
  obtain ⟨hcl3, hfz3⟩ := bcell hC3
  go_wp2_with fail
  refine (CheckC_yes c hc _ hT3.x.c).mono ?_
  rintro e w4 ⟨rfl, hb⟩
  have hC4 : Below (w2.heap.size + 1) (w2.alloc (.cells #[.int .u64 c.mi, .int .u64 c.ho, .int .u64 c.dm, .int .u64 c.mo, .int .u64 c.dw] 24)) w4 := hC3.trans (hb.mono (by omega))
  clear hb
  have hT4 := hTa.below hC4 (by simp)
  have hs4 : w2.heap.size < w4.heap.size := by have := hC4.size; simp at this; omega
  obtain ⟨hcl4, hfz4⟩ := bcell hC4
  go_wp2_with fail
  refine (Parse_large t _ hsz).mono ?_
  rintro e w5 ⟨rfl, hb⟩
  have hC5 : Below (w2.heap.size + 1) (w2.alloc (.cells #[.int .u64 c.mi, .int .u64 c.ho, .int .u64 c.dm, .int .u64 c.mo, .int .u64 c.dw] 24)) w5 := hC4.trans (hb.mono (by omega))
  clear hb
  have hT5 := hTa.below hC5 (by simp)
  have hs5 : w2.heap.size < w5.heap.size := by have := hC5.size; simp at this; omega
  obtain ⟨hcl5, hfz5⟩ := bcell hC5
  go_wp2_with fail
  go_ret
  exact ⟨rfl, ((hB.alloc hB.size _).trans (hC5.mono (by have := hB.size; omega))).alloc (by have := hB.size; omega) _⟩

set_option maxHeartbeats 2000000 in
theorem one_yes_small (l : List UInt8) (c : Cr) (hl : l.length ≤ 200) (hp : prsO l = some c) (h2 : (prt c).length ≤ 200) (w : World) (hT : Ta w) :
    Calls Tryd.prog 5 #[.string ⟨l.toArray⟩] w fun e w' => e = .returned (.bool true) ∧ Below w.heap.size w w' := by
  have hc := prs_ok hp
  have cp := fun w (hT : Tx w) => Parse_yes l c w hT hl hp
  have cq := fun w (hT : Tx w) => Print_ok c hc w hT
  have cr := fun w (hT : Tx w) => Parse_yes (prt c) c w hT h2 (prs_prt hc)
  have hsz : (ByteArray.mk (prt c).toArray).size ≤ 200 := by rw [mk_size]; exact h2
  generalize ByteArray.mk l.toArray = s at *
  generalize ByteArray.mk (prt c).toArray = t at *
  go_enter Tryd.func5, Tryd.ntmps5
  go_wp2_with fail
  refine (crons_any _ hT.b).mono ?_
  rintro e w1 ⟨rfl, hb1⟩
  have hT1 := hT.below hb1 (Nat.le_refl _)
  go_wp2_with fail
  refine (cp _ hT1.x).mono ?_
  rintro e w2 ⟨rfl, hb2⟩
  have hB := then_below hb1 hb2
  have hT2 := hT.below hB (Nat.le_refl _)
  have hTa : Ta (w2.alloc (.cells #[.int .u64 c.mi, .int .u64 c.ho, .int .u64 c.dm, .int .u64 c.mo, .int .u64 c.dw] 24)) := hT2.alloc _
  clear hb1 hb2
  go_wp2_with fail
  refine (cq _ hTa.x).mono ?_
  rintro e w3 ⟨rfl, hb⟩
  have hC3 : Below (w2.heap.size + 1) (w2.alloc (.cells #[.int .u64 c.mi, .int .u64 c.ho, .int .u64 c.dm, .int .u64 c.mo, .int .u64 c.dw] 24)) w3 := hb.mono (by simp)
  clear hb
  have hT3 := hTa.below hC3 (by simp)
  have hs3 : w2.heap.size < w3.heap.size := by have := hC3.size; simp at this; omega
  obtain ⟨hcl3, hfz3⟩ := bcell hC3
  go_wp2_with fail
  refine (CheckC_yes c hc _ hT3.x.c).mono ?_
  rintro e w4 ⟨rfl, hb⟩
  have hC4 : Below (w2.heap.size + 1) (w2.alloc (.cells #[.int .u64 c.mi, .int .u64 c.ho, .int .u64 c.dm, .int .u64 c.mo, .int .u64 c.dw] 24)) w4 := hC3.trans (hb.mono (by omega))
  clear hb
  have hT4 := hTa.below hC4 (by simp)
  have hs4 : w2.heap.size < w4.heap.size := by have := hC4.size; simp at this; omega
  obtain ⟨hcl4, hfz4⟩ := bcell hC4
  go_wp2_with fail
  refine (cr _ hT4.x).mono ?_
  rintro e w5 ⟨rfl, hb⟩
  have hC5 : Below (w2.heap.size + 1) (w2.alloc (.cells #[.int .u64 c.mi, .int .u64 c.ho, .int .u64 c.dm, .int .u64 c.mo, .int .u64 c.dw] 24)) w5 := hC4.trans (hb.mono (by omega))
  clear hb
  have hT5 := hTa.below hC5 (by simp)
  have hs5 : w2.heap.size < w5.heap.size := by have := hC5.size; simp at this; omega
  obtain ⟨hcl5, hfz5⟩ := bcell hC5
  go_wp2_with fail
  go_ret
  exact ⟨rfl, ((hB.alloc hB.size _).trans (hC5.mono (by have := hB.size; omega))).alloc (by have := hB.size; omega) _⟩

theorem cronOne_walk (s : ByteArray) (w : World) (hT : Ta w) :
    Calls Tryd.prog 5 #[.string s] w fun e w' => e = .returned (.bool true) ∧ Below w.heap.size w w' := by
  rw [← bytes_mk s]
  generalize s.data.toList = l
  by_cases hl : 200 < l.length
  · exact one_large l hl w hT
  · cases hp : prsO l with
    | none => exact one_no l (by omega) hp w hT
    | some c =>
      by_cases h2 : 200 < (prt c).length
      · exact one_yes_large l c (by omega) hp h2 w hT
      · exact one_yes_small l c (by omega) hp (by omega) w hT
end Go.Proofs.YthebcdadoinflaaDoor
