/- CronTells: whatever is handed in, Check, Print and Parse answer what the document says: the walk. -/
import Derived.Test.YthebcdadoinflaaDoorRea
import Derived.Test.YthebcdadoinflaaDoorTex
import Derived.Test.YthebcdadoinflaaDoorPri
namespace Go.Proofs.YthebcdadoinflaaDoor
open Go.RowKit Cal Crn Txt

/-- Five cells of a block, as they lie in a world. -/
def Has5 (w : World) (b : Nat) (v0 v1 v2 v3 v4 : Value) : Prop := w.cell? ⟨b, 0, none⟩ = some v0 ∧ w.cell? ⟨b, 1, none⟩ = some v1 ∧ w.cell? ⟨b, 2, none⟩ = some v2 ∧ w.cell? ⟨b, 3, none⟩ = some v3 ∧ w.cell? ⟨b, 4, none⟩ = some v4
theorem has5_new (w : World) (v0 v1 v2 v3 v4 : Value) (T : TypeId) : Has5 (w.alloc (.cells #[v0, v1, v2, v3, v4] T)) w.heap.size v0 v1 v2 v3 v4 := by
  have h := blk_new w (.cells #[v0, v1, v2, v3, v4] T)
  exact ⟨blk_cell h 0, blk_cell h 1, blk_cell h 2, blk_cell h 3, blk_cell h 4⟩
theorem has5_on {w w' : World} {b B : Nat} {v0 v1 v2 v3 v4 : Value} (h : Has5 w b v0 v1 v2 v3 v4) (hb : Below B w w') (hB : b < B) : Has5 w' b v0 v1 v2 v3 v4 :=
  ⟨(hb.cell (p := ⟨b, 0, none⟩) hB).trans h.1, (hb.cell (p := ⟨b, 1, none⟩) hB).trans h.2.1, (hb.cell (p := ⟨b, 2, none⟩) hB).trans h.2.2.1, (hb.cell (p := ⟨b, 3, none⟩) hB).trans h.2.2.2.1, (hb.cell (p := ⟨b, 4, none⟩) hB).trans h.2.2.2.2⟩

set_option maxHeartbeats 4000000 in
theorem tells_bad_large (c : Cr) (h5 : In5 c) (hc : okB c = false) (l : List UInt8) (hl : 200 < l.length) (w : World) (hT : Tx w) :
    Calls Tryd.prog 3 #[.agg #[.int .u64 c.mi, .int .u64 c.ho, .int .u64 c.dm, .int .u64 c.mo, .int .u64 c.dw], .string ⟨l.toArray⟩] w fun e w' => e = .returned (.bool true) ∧ Below w.heap.size w w' := by
  have hsz : 200 < (ByteArray.mk l.toArray).size := by rw [mk_size]; exact hl
  have cp := fun (w : World) (_ : Tx w) => Parse_large (ByteArray.mk l.toArray) w hsz
  have cr := fun (w : World) => CronRead_large (ByteArray.mk l.toArray) w hsz
  clear hsz
  generalize ByteArray.mk l.toArray = s at *
  go_enter Tryd.func3, Tryd.ntmps3
  go_wp2_with fail
  have b0 := has5_new w (.int .u64 c.mi) (.int .u64 c.ho) (.int .u64 c.dm) (.int .u64 c.mo) (.int .u64 c.dw) 24
  refine (Print_bad c h5 hc _ (hT.alloc _).c).mono ?_
  rintro e w1 ⟨rfl, hb1⟩
  have b1 := has5_on b0 hb1 (by simp)
  have hw1 : Below w.heap.size w w1 := (below_box w _).trans (hb1.mono (by simp))
  have hT1 := hT.below hw1 (Nat.le_refl _)
  have k1 : w.heap.size < w1.heap.size := by have := hb1.size; simp at this; omega
  clear b0 hb1
  go_wp2_with fail
  refine (cp _ hT1).mono ?_
  rintro e w2 ⟨rfl, hb2⟩
  have b2 := has5_on b1 hb2 k1
  have hw2 := then_below hw1 hb2
  have k2 : w.heap.size < w2.heap.size := Nat.lt_of_lt_of_le k1 hb2.size
  clear b1 hb2
  go_wp2_with fail
  have x3 := has5_new w2 (.int .u64 0) (.int .u64 0) (.int .u64 0) (.int .u64 0) (.int .u64 0) 24
  have b3 := has5_on b2 (below_box w2 (.cells #[.int .u64 0, .int .u64 0, .int .u64 0, .int .u64 0, .int .u64 0] 24)) k2
  have hw3 := then_below hw2 (below_box w2 (.cells #[.int .u64 0, .int .u64 0, .int .u64 0, .int .u64 0, .int .u64 0] 24))
  have j3 : w2.heap.size < (w2.alloc (.cells #[.int .u64 0, .int .u64 0, .int .u64 0, .int .u64 0, .int .u64 0] 24)).heap.size := by simp
  generalize w2.alloc (.cells #[.int .u64 0, .int .u64 0, .int .u64 0, .int .u64 0, .int .u64 0] 24) = w3 at *
  refine (cr _).mono ?_
  rintro e w4 ⟨rfl, hb4⟩
  have b4 := has5_on b3 hb4 (by omega)
  have x4 := has5_on x3 hb4 j3
  have hw4 := then_below hw3 hb4
  have s4 := hb4.size
  clear b3 x3 hb4
  have b4' := b4
  obtain ⟨n0, n1, n2, n3, n4⟩ := b4'
  have nk : w.heap.size < w4.heap.size := by omega
  go_wp2_with fail
  clear n0 n1 n2 n3 n4
  have y5 := has5_new w4 (.int .u64 0) (.int .u64 0) (.int .u64 0) (.int .u64 0) (.int .u64 0) 24
  have b5 := has5_on b4 (below_box w4 (.cells #[.int .u64 0, .int .u64 0, .int .u64 0, .int .u64 0, .int .u64 0] 24)) (by omega)
  have x5 := has5_on x4 (below_box w4 (.cells #[.int .u64 0, .int .u64 0, .int .u64 0, .int .u64 0, .int .u64 0] 24)) (by omega)
  have hw5 := then_below hw4 (below_box w4 (.cells #[.int .u64 0, .int .u64 0, .int .u64 0, .int .u64 0, .int .u64 0] 24))
  have j5 : w4.heap.size < (w4.alloc (.cells #[.int .u64 0, .int .u64 0, .int .u64 0, .int .u64 0, .int .u64 0] 24)).heap.size := by simp
  generalize w4.alloc (.cells #[.int .u64 0, .int .u64 0, .int .u64 0, .int .u64 0, .int .u64 0] 24) = w5 at *
  clear b4 x4 cp cr
  refine (CronFault_no c h5 hc _).mono ?_
  rintro e w6 ⟨rfl, hb6⟩
  have b6 := has5_on b5 hb6 (by omega)
  have x6 := has5_on x5 hb6 (by omega)
  have y6 := has5_on y5 hb6 j5
  have hw6 := then_below hw5 hb6
  have hT5 := hT.below hw6 (Nat.le_refl _)
  have s6 := hb6.size
  clear b5 x5 y5 hb6
  have b6' := b6
  obtain ⟨m0, m1, m2, m3, m4⟩ := b6'
  go_wp2_with fail
  refine (CheckC_no c h5 hc _ hT5.c).mono ?_
  rintro e w7 ⟨rfl, hb7⟩
  have b7 := has5_on b6 hb7 (by omega)
  have x7 := has5_on x6 hb7 (by omega)
  have y7 := has5_on y6 hb7 (by omega)
  have hw7 := then_below hw6 hb7
  have s7 := hb7.size
  clear b6 x6 y6 hb7 m0 m1 m2 m3 m4
  obtain ⟨u0, u1, u2, u3, u4⟩ := x7
  obtain ⟨v0, v1, v2, v3, v4⟩ := y7
  clear b7
  go_wp2_with fail
  go_ret
  exact ⟨rfl, hw7⟩

set_option maxHeartbeats 4000000 in
theorem tells_bad_no (c : Cr) (h5 : In5 c) (hc : okB c = false) (l : List UInt8) (hl : l.length ≤ 200) (hp : prsO l = none) (w : World) (hT : Tx w) :
    Calls Tryd.prog 3 #[.agg #[.int .u64 c.mi, .int .u64 c.ho, .int .u64 c.dm, .int .u64 c.mo, .int .u64 c.dw], .string ⟨l.toArray⟩] w fun e w' => e = .returned (.bool true) ∧ Below w.heap.size w w' := by
  have cp := fun (w : World) (hT : Tx w) => Parse_no l w hT hl hp
  have cr := fun (w : World) => CronRead_no l w hl hp
  generalize ByteArray.mk l.toArray = s at *
  go_enter Tryd.func3, Tryd.ntmps3
  go_wp2_with fail
  have b0 := has5_new w (.int .u64 c.mi) (.int .u64 c.ho) (.int .u64 c.dm) (.int .u64 c.mo) (.int .u64 c.dw) 24
  refine (Print_bad c h5 hc _ (hT.alloc _).c).mono ?_
  rintro e w1 ⟨rfl, hb1⟩
  have b1 := has5_on b0 hb1 (by simp)
  have hw1 : Below w.heap.size w w1 := (below_box w _).trans (hb1.mono (by simp))
  have hT1 := hT.below hw1 (Nat.le_refl _)
  have k1 : w.heap.size < w1.heap.size := by have := hb1.size; simp at this; omega
  clear b0 hb1
  go_wp2_with fail
  refine (cp _ hT1).mono ?_
  rintro e w2 ⟨rfl, hb2⟩
  have b2 := has5_on b1 hb2 k1
  have hw2 := then_below hw1 hb2
  have k2 : w.heap.size < w2.heap.size := Nat.lt_of_lt_of_le k1 hb2.size
  clear b1 hb2
  go_wp2_with fail
  have x3 := has5_new w2 (.int .u64 0) (.int .u64 0) (.int .u64 0) (.int .u64 0) (.int .u64 0) 24
  have b3 := has5_on b2 (below_box w2 (.cells #[.int .u64 0, .int .u64 0, .int .u64 0, .int .u64 0, .int .u64 0] 24)) k2
  have hw3 := then_below hw2 (below_box w2 (.cells #[.int .u64 0, .int .u64 0, .int .u64 0, .int .u64 0, .int .u64 0] 24))
  have j3 : w2.heap.size < (w2.alloc (.cells #[.int .u64 0, .int .u64 0, .int .u64 0, .int .u64 0, .int .u64 0] 24)).heap.size := by simp
  generalize w2.alloc (.cells #[.int .u64 0, .int .u64 0, .int .u64 0, .int .u64 0, .int .u64 0] 24) = w3 at *
  refine (cr _).mono ?_
  rintro e w4 ⟨rfl, hb4⟩
  have b4 := has5_on b3 hb4 (by omega)
  have x4 := has5_on x3 hb4 j3
  have hw4 := then_below hw3 hb4
  have s4 := hb4.size
  clear b3 x3 hb4
  have b4' := b4
  obtain ⟨n0, n1, n2, n3, n4⟩ := b4'
  have nk : w.heap.size < w4.heap.size := by omega
  go_wp2_with fail
  clear n0 n1 n2 n3 n4
  have y5 := has5_new w4 (.int .u64 0) (.int .u64 0) (.int .u64 0) (.int .u64 0) (.int .u64 0) 24
  have b5 := has5_on b4 (below_box w4 (.cells #[.int .u64 0, .int .u64 0, .int .u64 0, .int .u64 0, .int .u64 0] 24)) (by omega)
  have x5 := has5_on x4 (below_box w4 (.cells #[.int .u64 0, .int .u64 0, .int .u64 0, .int .u64 0, .int .u64 0] 24)) (by omega)
  have hw5 := then_below hw4 (below_box w4 (.cells #[.int .u64 0, .int .u64 0, .int .u64 0, .int .u64 0, .int .u64 0] 24))
  have j5 : w4.heap.size < (w4.alloc (.cells #[.int .u64 0, .int .u64 0, .int .u64 0, .int .u64 0, .int .u64 0] 24)).heap.size := by simp
  generalize w4.alloc (.cells #[.int .u64 0, .int .u64 0, .int .u64 0, .int .u64 0, .int .u64 0] 24) = w5 at *
  clear b4 x4 cp cr
  refine (CronFault_no c h5 hc _).mono ?_
  rintro e w6 ⟨rfl, hb6⟩
  have b6 := has5_on b5 hb6 (by omega)
  have x6 := has5_on x5 hb6 (by omega)
  have y6 := has5_on y5 hb6 j5
  have hw6 := then_below hw5 hb6
  have hT5 := hT.below hw6 (Nat.le_refl _)
  have s6 := hb6.size
  clear b5 x5 y5 hb6
  have b6' := b6
  obtain ⟨m0, m1, m2, m3, m4⟩ := b6'
  go_wp2_with fail
  refine (CheckC_no c h5 hc _ hT5.c).mono ?_
  rintro e w7 ⟨rfl, hb7⟩
  have b7 := has5_on b6 hb7 (by omega)
  have x7 := has5_on x6 hb7 (by omega)
  have y7 := has5_on y6 hb7 (by omega)
  have hw7 := then_below hw6 hb7
  have s7 := hb7.size
  clear b6 x6 y6 hb7 m0 m1 m2 m3 m4
  obtain ⟨u0, u1, u2, u3, u4⟩ := x7
  obtain ⟨v0, v1, v2, v3, v4⟩ := y7
  clear b7
  go_wp2_with fail
  go_ret
  exact ⟨rfl, hw7⟩

set_option maxHeartbeats 4000000 in
theorem tells_bad_yes (c : Cr) (h5 : In5 c) (hc : okB c = false) (l : List UInt8) (c2 : Cr) (hl : l.length ≤ 200) (hp : prsO l = some c2) (w : World) (hT : Tx w) :
    Calls Tryd.prog 3 #[.agg #[.int .u64 c.mi, .int .u64 c.ho, .int .u64 c.dm, .int .u64 c.mo, .int .u64 c.dw], .string ⟨l.toArray⟩] w fun e w' => e = .returned (.bool true) ∧ Below w.heap.size w w' := by
  have cp := fun (w : World) (hT : Tx w) => Parse_yes l c2 w hT hl hp
  have cr := fun (w : World) => CronRead_yes l c2 w hl hp
  generalize ByteArray.mk l.toArray = s at *
  go_enter Tryd.func3, Tryd.ntmps3
  go_wp2_with fail
  have b0 := has5_new w (.int .u64 c.mi) (.int .u64 c.ho) (.int .u64 c.dm) (.int .u64 c.mo) (.int .u64 c.dw) 24
  refine (Print_bad c h5 hc _ (hT.alloc _).c).mono ?_
  rintro e w1 ⟨rfl, hb1⟩
  have b1 := has5_on b0 hb1 (by simp)
  have hw1 : Below w.heap.size w w1 := (below_box w _).trans (hb1.mono (by simp))
  have hT1 := hT.below hw1 (Nat.le_refl _)
  have k1 : w.heap.size < w1.heap.size := by have := hb1.size; simp at this; omega
  clear b0 hb1
  go_wp2_with fail
  refine (cp _ hT1).mono ?_
  rintro e w2 ⟨rfl, hb2⟩
  have b2 := has5_on b1 hb2 k1
  have hw2 := then_below hw1 hb2
  have k2 : w.heap.size < w2.heap.size := Nat.lt_of_lt_of_le k1 hb2.size
  clear b1 hb2
  go_wp2_with fail
  have x3 := has5_new w2 (.int .u64 c2.mi) (.int .u64 c2.ho) (.int .u64 c2.dm) (.int .u64 c2.mo) (.int .u64 c2.dw) 24
  have b3 := has5_on b2 (below_box w2 (.cells #[.int .u64 c2.mi, .int .u64 c2.ho, .int .u64 c2.dm, .int .u64 c2.mo, .int .u64 c2.dw] 24)) k2
  have hw3 := then_below hw2 (below_box w2 (.cells #[.int .u64 c2.mi, .int .u64 c2.ho, .int .u64 c2.dm, .int .u64 c2.mo, .int .u64 c2.dw] 24))
  have j3 : w2.heap.size < (w2.alloc (.cells #[.int .u64 c2.mi, .int .u64 c2.ho, .int .u64 c2.dm, .int .u64 c2.mo, .int .u64 c2.dw] 24)).heap.size := by simp
  generalize w2.alloc (.cells #[.int .u64 c2.mi, .int .u64 c2.ho, .int .u64 c2.dm, .int .u64 c2.mo, .int .u64 c2.dw] 24) = w3 at *
  refine (cr _).mono ?_
  rintro e w4 ⟨rfl, hb4⟩
  have b4 := has5_on b3 hb4 (by omega)
  have x4 := has5_on x3 hb4 j3
  have hw4 := then_below hw3 hb4
  have s4 := hb4.size
  clear b3 x3 hb4
  have b4' := b4
  obtain ⟨n0, n1, n2, n3, n4⟩ := b4'
  have nk : w.heap.size < w4.heap.size := by omega
  go_wp2_with fail
  clear n0 n1 n2 n3 n4
  have y5 := has5_new w4 (.int .u64 c2.mi) (.int .u64 c2.ho) (.int .u64 c2.dm) (.int .u64 c2.mo) (.int .u64 c2.dw) 24
  have b5 := has5_on b4 (below_box w4 (.cells #[.int .u64 c2.mi, .int .u64 c2.ho, .int .u64 c2.dm, .int .u64 c2.mo, .int .u64 c2.dw] 24)) (by omega)
  have x5 := has5_on x4 (below_box w4 (.cells #[.int .u64 c2.mi, .int .u64 c2.ho, .int .u64 c2.dm, .int .u64 c2.mo, .int .u64 c2.dw] 24)) (by omega)
  have hw5 := then_below hw4 (below_box w4 (.cells #[.int .u64 c2.mi, .int .u64 c2.ho, .int .u64 c2.dm, .int .u64 c2.mo, .int .u64 c2.dw] 24))
  have j5 : w4.heap.size < (w4.alloc (.cells #[.int .u64 c2.mi, .int .u64 c2.ho, .int .u64 c2.dm, .int .u64 c2.mo, .int .u64 c2.dw] 24)).heap.size := by simp
  generalize w4.alloc (.cells #[.int .u64 c2.mi, .int .u64 c2.ho, .int .u64 c2.dm, .int .u64 c2.mo, .int .u64 c2.dw] 24) = w5 at *
  clear b4 x4 cp cr
  refine (CronFault_no c h5 hc _).mono ?_
  rintro e w6 ⟨rfl, hb6⟩
  have b6 := has5_on b5 hb6 (by omega)
  have x6 := has5_on x5 hb6 (by omega)
  have y6 := has5_on y5 hb6 j5
  have hw6 := then_below hw5 hb6
  have hT5 := hT.below hw6 (Nat.le_refl _)
  have s6 := hb6.size
  clear b5 x5 y5 hb6
  have b6' := b6
  obtain ⟨m0, m1, m2, m3, m4⟩ := b6'
  go_wp2_with fail
  refine (CheckC_no c h5 hc _ hT5.c).mono ?_
  rintro e w7 ⟨rfl, hb7⟩
  have b7 := has5_on b6 hb7 (by omega)
  have x7 := has5_on x6 hb7 (by omega)
  have y7 := has5_on y6 hb7 (by omega)
  have hw7 := then_below hw6 hb7
  have s7 := hb7.size
  clear b6 x6 y6 hb7 m0 m1 m2 m3 m4
  obtain ⟨u0, u1, u2, u3, u4⟩ := x7
  obtain ⟨v0, v1, v2, v3, v4⟩ := y7
  clear b7
  go_wp2_with fail
  go_ret
  exact ⟨rfl, hw7⟩

set_option maxHeartbeats 4000000 in
theorem tells_ok_large (c : Cr) (hc : okB c = true) (l : List UInt8) (hl : 200 < l.length) (w : World) (hT : Tx w) :
    Calls Tryd.prog 3 #[.agg #[.int .u64 c.mi, .int .u64 c.ho, .int .u64 c.dm, .int .u64 c.mo, .int .u64 c.dw], .string ⟨l.toArray⟩] w fun e w' => e = .returned (.bool true) ∧ Below w.heap.size w w' := by
  have hsz : 200 < (ByteArray.mk l.toArray).size := by rw [mk_size]; exact hl
  have cp := fun (w : World) (_ : Tx w) => Parse_large (ByteArray.mk l.toArray) w hsz
  have cr := fun (w : World) => CronRead_large (ByteArray.mk l.toArray) w hsz
  clear hsz
  generalize ByteArray.mk l.toArray = s at *
  have cq := fun (w : World) (hT : Tx w) => Print_ok c hc w hT
  have ct := fun (w : World) => CronText_any c hc w
  generalize ByteArray.mk (prt c).toArray = t at *
  go_enter Tryd.func3, Tryd.ntmps3
  go_wp2_with fail
  have b0 := has5_new w (.int .u64 c.mi) (.int .u64 c.ho) (.int .u64 c.dm) (.int .u64 c.mo) (.int .u64 c.dw) 24
  refine (cq _ (hT.alloc _)).mono ?_
  rintro e w1 ⟨rfl, hb1⟩
  have b1 := has5_on b0 hb1 (by simp)
  have hw1 : Below w.heap.size w w1 := (below_box w _).trans (hb1.mono (by simp))
  have hT1 := hT.below hw1 (Nat.le_refl _)
  have k1 : w.heap.size < w1.heap.size := by have := hb1.size; simp at this; omega
  clear b0 hb1
  go_wp2_with fail
  refine (cp _ hT1).mono ?_
  rintro e w2 ⟨rfl, hb2⟩
  have b2 := has5_on b1 hb2 k1
  have hw2 := then_below hw1 hb2
  have k2 : w.heap.size < w2.heap.size := Nat.lt_of_lt_of_le k1 hb2.size
  clear b1 hb2
  go_wp2_with fail
  have x3 := has5_new w2 (.int .u64 0) (.int .u64 0) (.int .u64 0) (.int .u64 0) (.int .u64 0) 24
  have b3 := has5_on b2 (below_box w2 (.cells #[.int .u64 0, .int .u64 0, .int .u64 0, .int .u64 0, .int .u64 0] 24)) k2
  have hw3 := then_below hw2 (below_box w2 (.cells #[.int .u64 0, .int .u64 0, .int .u64 0, .int .u64 0, .int .u64 0] 24))
  have j3 : w2.heap.size < (w2.alloc (.cells #[.int .u64 0, .int .u64 0, .int .u64 0, .int .u64 0, .int .u64 0] 24)).heap.size := by simp
  generalize w2.alloc (.cells #[.int .u64 0, .int .u64 0, .int .u64 0, .int .u64 0, .int .u64 0] 24) = w3 at *
  refine (cr _).mono ?_
  rintro e w4 ⟨rfl, hb4⟩
  have b4 := has5_on b3 hb4 (by omega)
  have x4 := has5_on x3 hb4 j3
  have hw4 := then_below hw3 hb4
  have s4 := hb4.size
  clear b3 x3 hb4
  have b4' := b4
  obtain ⟨n0, n1, n2, n3, n4⟩ := b4'
  have nk : w.heap.size < w4.heap.size := by omega
  go_wp2_with fail
  clear n0 n1 n2 n3 n4
  have y5 := has5_new w4 (.int .u64 0) (.int .u64 0) (.int .u64 0) (.int .u64 0) (.int .u64 0) 24
  have b5 := has5_on b4 (below_box w4 (.cells #[.int .u64 0, .int .u64 0, .int .u64 0, .int .u64 0, .int .u64 0] 24)) (by omega)
  have x5 := has5_on x4 (below_box w4 (.cells #[.int .u64 0, .int .u64 0, .int .u64 0, .int .u64 0, .int .u64 0] 24)) (by omega)
  have hw5 := then_below hw4 (below_box w4 (.cells #[.int .u64 0, .int .u64 0, .int .u64 0, .int .u64 0, .int .u64 0] 24))
  have j5 : w4.heap.size < (w4.alloc (.cells #[.int .u64 0, .int .u64 0, .int .u64 0, .int .u64 0, .int .u64 0] 24)).heap.size := by simp
  generalize w4.alloc (.cells #[.int .u64 0, .int .u64 0, .int .u64 0, .int .u64 0, .int .u64 0] 24) = w5 at *
  clear b4 x4 cp cr
  refine (CronFault_yes c hc _).mono ?_
  rintro e w6 ⟨rfl, hb6⟩
  have b6 := has5_on b5 hb6 (by omega)
  have x6 := has5_on x5 hb6 (by omega)
  have y6 := has5_on y5 hb6 j5
  have hw6 := then_below hw5 hb6
  have hT5 := hT.below hw6 (Nat.le_refl _)
  have s6 := hb6.size
  clear b5 x5 y5 hb6
  have b6' := b6
  obtain ⟨m0, m1, m2, m3, m4⟩ := b6'
  go_wp2_with fail
  refine (CheckC_yes c hc _ hT5.c).mono ?_
  rintro e w7 ⟨rfl, hb7⟩
  have b7 := has5_on b6 hb7 (by omega)
  have x7 := has5_on x6 hb7 (by omega)
  have y7 := has5_on y6 hb7 (by omega)
  have hw7 := then_below hw6 hb7
  have s7 := hb7.size
  clear b6 x6 y6 hb7 m0 m1 m2 m3 m4
  have b7' := b7
  obtain ⟨m0, m1, m2, m3, m4⟩ := b7'
  go_wp2_with fail
  refine (ct _).mono ?_
  rintro e w8 ⟨rfl, hb8⟩
  have x8 := has5_on x7 hb8 (by omega)
  have y8 := has5_on y7 hb8 (by omega)
  have hw8 := then_below hw7 hb8
  clear b7 x7 y7 hb8 m0 m1 m2 m3 m4
  obtain ⟨u0, u1, u2, u3, u4⟩ := x8
  obtain ⟨v0, v1, v2, v3, v4⟩ := y8
  go_wp2_with fail
  go_ret
  exact ⟨rfl, hw8⟩

set_option maxHeartbeats 4000000 in
theorem tells_ok_no (c : Cr) (hc : okB c = true) (l : List UInt8) (hl : l.length ≤ 200) (hp : prsO l = none) (w : World) (hT : Tx w) :
    Calls Tryd.prog 3 #[.agg #[.int .u64 c.mi, .int .u64 c.ho, .int .u64 c.dm, .int .u64 c.mo, .int .u64 c.dw], .string ⟨l.toArray⟩] w fun e w' => e = .returned (.bool true) ∧ Below w.heap.size w w' := by
  have cp := fun (w : World) (hT : Tx w) => Parse_no l w hT hl hp
  have cr := fun (w : World) => CronRead_no l w hl hp
  generalize ByteArray.mk l.toArray = s at *
  have cq := fun (w : World) (hT : Tx w) => Print_ok c hc w hT
  have ct := fun (w : World) => CronText_any c hc w
  generalize ByteArray.mk (prt c).toArray = t at *
  go_enter Tryd.func3, Tryd.ntmps3
  go_wp2_with fail
  have b0 := has5_new w (.int .u64 c.mi) (.int .u64 c.ho) (.int .u64 c.dm) (.int .u64 c.mo) (.int .u64 c.dw) 24
  refine (cq _ (hT.alloc _)).mono ?_
  rintro e w1 ⟨rfl, hb1⟩
  have b1 := has5_on b0 hb1 (by simp)
  have hw1 : Below w.heap.size w w1 := (below_box w _).trans (hb1.mono (by simp))
  have hT1 := hT.below hw1 (Nat.le_refl _)
  have k1 : w.heap.size < w1.heap.size := by have := hb1.size; simp at this; omega
  clear b0 hb1
  go_wp2_with fail
  refine (cp _ hT1).mono ?_
  rintro e w2 ⟨rfl, hb2⟩
  have b2 := has5_on b1 hb2 k1
  have hw2 := then_below hw1 hb2
  have k2 : w.heap.size < w2.heap.size := Nat.lt_of_lt_of_le k1 hb2.size
  clear b1 hb2
  go_wp2_with fail
  have x3 := has5_new w2 (.int .u64 0) (.int .u64 0) (.int .u64 0) (.int .u64 0) (.int .u64 0) 24
  have b3 := has5_on b2 (below_box w2 (.cells #[.int .u64 0, .int .u64 0, .int .u64 0, .int .u64 0, .int .u64 0] 24)) k2
  have hw3 := then_below hw2 (below_box w2 (.cells #[.int .u64 0, .int .u64 0, .int .u64 0, .int .u64 0, .int .u64 0] 24))
  have j3 : w2.heap.size < (w2.alloc (.cells #[.int .u64 0, .int .u64 0, .int .u64 0, .int .u64 0, .int .u64 0] 24)).heap.size := by simp
  generalize w2.alloc (.cells #[.int .u64 0, .int .u64 0, .int .u64 0, .int .u64 0, .int .u64 0] 24) = w3 at *
  refine (cr _).mono ?_
  rintro e w4 ⟨rfl, hb4⟩
  have b4 := has5_on b3 hb4 (by omega)
  have x4 := has5_on x3 hb4 j3
  have hw4 := then_below hw3 hb4
  have s4 := hb4.size
  clear b3 x3 hb4
  have b4' := b4
  obtain ⟨n0, n1, n2, n3, n4⟩ := b4'
  have nk : w.heap.size < w4.heap.size := by omega
  go_wp2_with fail
  clear n0 n1 n2 n3 n4
  have y5 := has5_new w4 (.int .u64 0) (.int .u64 0) (.int .u64 0) (.int .u64 0) (.int .u64 0) 24
  have b5 := has5_on b4 (below_box w4 (.cells #[.int .u64 0, .int .u64 0, .int .u64 0, .int .u64 0, .int .u64 0] 24)) (by omega)
  have x5 := has5_on x4 (below_box w4 (.cells #[.int .u64 0, .int .u64 0, .int .u64 0, .int .u64 0, .int .u64 0] 24)) (by omega)
  have hw5 := then_below hw4 (below_box w4 (.cells #[.int .u64 0, .int .u64 0, .int .u64 0, .int .u64 0, .int .u64 0] 24))
  have j5 : w4.heap.size < (w4.alloc (.cells #[.int .u64 0, .int .u64 0, .int .u64 0, .int .u64 0, .int .u64 0] 24)).heap.size := by simp
  generalize w4.alloc (.cells #[.int .u64 0, .int .u64 0, .int .u64 0, .int .u64 0, .int .u64 0] 24) = w5 at *
  clear b4 x4 cp cr
  refine (CronFault_yes c hc _).mono ?_
  rintro e w6 ⟨rfl, hb6⟩
  have b6 := has5_on b5 hb6 (by omega)
  have x6 := has5_on x5 hb6 (by omega)
  have y6 := has5_on y5 hb6 j5
  have hw6 := then_below hw5 hb6
  have hT5 := hT.below hw6 (Nat.le_refl _)
  have s6 := hb6.size
  clear b5 x5 y5 hb6
  have b6' := b6
  obtain ⟨m0, m1, m2, m3, m4⟩ := b6'
  go_wp2_with fail
  refine (CheckC_yes c hc _ hT5.c).mono ?_
  rintro e w7 ⟨rfl, hb7⟩
  have b7 := has5_on b6 hb7 (by omega)
  have x7 := has5_on x6 hb7 (by omega)
  have y7 := has5_on y6 hb7 (by omega)
  have hw7 := then_below hw6 hb7
  have s7 := hb7.size
  clear b6 x6 y6 hb7 m0 m1 m2 m3 m4
  have b7' := b7
  obtain ⟨m0, m1, m2, m3, m4⟩ := b7'
  go_wp2_with fail
  refine (ct _).mono ?_
  rintro e w8 ⟨rfl, hb8⟩
  have x8 := has5_on x7 hb8 (by omega)
  have y8 := has5_on y7 hb8 (by omega)
  have hw8 := then_below hw7 hb8
  clear b7 x7 y7 hb8 m0 m1 m2 m3 m4
  obtain ⟨u0, u1, u2, u3, u4⟩ := x8
  obtain ⟨v0, v1, v2, v3, v4⟩ := y8
  go_wp2_with fail
  go_ret
  exact ⟨rfl, hw8⟩

set_option maxHeartbeats 4000000 in
theorem tells_ok_yes (c : Cr) (hc : okB c = true) (l : List UInt8) (c2 : Cr) (hl : l.length ≤ 200) (hp : prsO l = some c2) (w : World) (hT : Tx w) :
    Calls Tryd.prog 3 #[.agg #[.int .u64 c.mi, .int .u64 c.ho, .int .u64 c.dm, .int .u64 c.mo, .int .u64 c.dw], .string ⟨l.toArray⟩] w fun e w' => e = .returned (.bool true) ∧ Below w.heap.size w w' := by
  have cp := fun (w : World) (hT : Tx w) => Parse_yes l c2 w hT hl hp
  have cr := fun (w : World) => CronRead_yes l c2 w hl hp
  generalize ByteArray.mk l.toArray = s at *
  have cq := fun (w : World) (hT : Tx w) => Print_ok c hc w hT
  have ct := fun (w : World) => CronText_any c hc w
  generalize ByteArray.mk (prt c).toArray = t at *
  go_enter Tryd.func3, Tryd.ntmps3
  go_wp2_with fail
  have b0 := has5_new w (.int .u64 c.mi) (.int .u64 c.ho) (.int .u64 c.dm) (.int .u64 c.mo) (.int .u64 c.dw) 24
  refine (cq _ (hT.alloc _)).mono ?_
  rintro e w1 ⟨rfl, hb1⟩
  have b1 := has5_on b0 hb1 (by simp)
  have hw1 : Below w.heap.size w w1 := (below_box w _).trans (hb1.mono (by simp))
  have hT1 := hT.below hw1 (Nat.le_refl _)
  have k1 : w.heap.size < w1.heap.size := by have := hb1.size; simp at this; omega
  clear b0 hb1
  go_wp2_with fail
  refine (cp _ hT1).mono ?_
  rintro e w2 ⟨rfl, hb2⟩
  have b2 := has5_on b1 hb2 k1
  have hw2 := then_below hw1 hb2
  have k2 : w.heap.size < w2.heap.size := Nat.lt_of_lt_of_le k1 hb2.size
  clear b1 hb2
  go_wp2_with fail
  have x3 := has5_new w2 (.int .u64 c2.mi) (.int .u64 c2.ho) (.int .u64 c2.dm) (.int .u64 c2.mo) (.int .u64 c2.dw) 24
  have b3 := has5_on b2 (below_box w2 (.cells #[.int .u64 c2.mi, .int .u64 c2.ho, .int .u64 c2.dm, .int .u64 c2.mo, .int .u64 c2.dw] 24)) k2
  have hw3 := then_below hw2 (below_box w2 (.cells #[.int .u64 c2.mi, .int .u64 c2.ho, .int .u64 c2.dm, .int .u64 c2.mo, .int .u64 c2.dw] 24))
  have j3 : w2.heap.size < (w2.alloc (.cells #[.int .u64 c2.mi, .int .u64 c2.ho, .int .u64 c2.dm, .int .u64 c2.mo, .int .u64 c2.dw] 24)).heap.size := by simp
  generalize w2.alloc (.cells #[.int .u64 c2.mi, .int .u64 c2.ho, .int .u64 c2.dm, .int .u64 c2.mo, .int .u64 c2.dw] 24) = w3 at *
  refine (cr _).mono ?_
  rintro e w4 ⟨rfl, hb4⟩
  have b4 := has5_on b3 hb4 (by omega)
  have x4 := has5_on x3 hb4 j3
  have hw4 := then_below hw3 hb4
  have s4 := hb4.size
  clear b3 x3 hb4
  have b4' := b4
  obtain ⟨n0, n1, n2, n3, n4⟩ := b4'
  have nk : w.heap.size < w4.heap.size := by omega
  go_wp2_with fail
  clear n0 n1 n2 n3 n4
  have y5 := has5_new w4 (.int .u64 c2.mi) (.int .u64 c2.ho) (.int .u64 c2.dm) (.int .u64 c2.mo) (.int .u64 c2.dw) 24
  have b5 := has5_on b4 (below_box w4 (.cells #[.int .u64 c2.mi, .int .u64 c2.ho, .int .u64 c2.dm, .int .u64 c2.mo, .int .u64 c2.dw] 24)) (by omega)
  have x5 := has5_on x4 (below_box w4 (.cells #[.int .u64 c2.mi, .int .u64 c2.ho, .int .u64 c2.dm, .int .u64 c2.mo, .int .u64 c2.dw] 24)) (by omega)
  have hw5 := then_below hw4 (below_box w4 (.cells #[.int .u64 c2.mi, .int .u64 c2.ho, .int .u64 c2.dm, .int .u64 c2.mo, .int .u64 c2.dw] 24))
  have j5 : w4.heap.size < (w4.alloc (.cells #[.int .u64 c2.mi, .int .u64 c2.ho, .int .u64 c2.dm, .int .u64 c2.mo, .int .u64 c2.dw] 24)).heap.size := by simp
  generalize w4.alloc (.cells #[.int .u64 c2.mi, .int .u64 c2.ho, .int .u64 c2.dm, .int .u64 c2.mo, .int .u64 c2.dw] 24) = w5 at *
  clear b4 x4 cp cr
  refine (CronFault_yes c hc _).mono ?_
  rintro e w6 ⟨rfl, hb6⟩
  have b6 := has5_on b5 hb6 (by omega)
  have x6 := has5_on x5 hb6 (by omega)
  have y6 := has5_on y5 hb6 j5
  have hw6 := then_below hw5 hb6
  have hT5 := hT.below hw6 (Nat.le_refl _)
  have s6 := hb6.size
  clear b5 x5 y5 hb6
  have b6' := b6
  obtain ⟨m0, m1, m2, m3, m4⟩ := b6'
  go_wp2_with fail
  refine (CheckC_yes c hc _ hT5.c).mono ?_
  rintro e w7 ⟨rfl, hb7⟩
  have b7 := has5_on b6 hb7 (by omega)
  have x7 := has5_on x6 hb7 (by omega)
  have y7 := has5_on y6 hb7 (by omega)
  have hw7 := then_below hw6 hb7
  have s7 := hb7.size
  clear b6 x6 y6 hb7 m0 m1 m2 m3 m4
  have b7' := b7
  obtain ⟨m0, m1, m2, m3, m4⟩ := b7'
  go_wp2_with fail
  refine (ct _).mono ?_
  rintro e w8 ⟨rfl, hb8⟩
  have x8 := has5_on x7 hb8 (by omega)
  have y8 := has5_on y7 hb8 (by omega)
  have hw8 := then_below hw7 hb8
  clear b7 x7 y7 hb8 m0 m1 m2 m3 m4
  obtain ⟨u0, u1, u2, u3, u4⟩ := x8
  obtain ⟨v0, v1, v2, v3, v4⟩ := y8
  go_wp2_with fail
  go_ret
  exact ⟨rfl, hw8⟩

theorem cronTells_walk (c : Cr) (h5 : In5 c) (s : ByteArray) (w : World) (hT : Tx w) :
    Calls Tryd.prog 3 #[.agg #[.int .u64 c.mi, .int .u64 c.ho, .int .u64 c.dm, .int .u64 c.mo, .int .u64 c.dw], .string s] w fun e w' => e = .returned (.bool true) ∧ Below w.heap.size w w' := by
  rw [← bytes_mk s]
  generalize s.data.toList = l
  by_cases hc : okB c = true
  · by_cases hl : 200 < l.length
    · exact tells_ok_large c hc l hl w hT
    · cases hp : prsO l with
      | none => exact tells_ok_no c hc l (by omega) hp w hT
      | some c2 => exact tells_ok_yes c hc l c2 (by omega) hp w hT
  · have hc' : okB c = false := by simpa using hc
    by_cases hl : 200 < l.length
    · exact tells_bad_large c h5 hc' l hl w hT
    · cases hp : prsO l with
      | none => exact tells_bad_no c h5 hc' l (by omega) hp w hT
      | some c2 => exact tells_bad_yes c h5 hc' l c2 (by omega) hp w hT
end Go.Proofs.YthebcdadoinflaaDoor
