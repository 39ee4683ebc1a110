/- The reference's NeedRead whole; NeedReads, walked. -/
import Derived.Test.YtmhidmocmolgfaaDoorNre
namespace Go.Proofs.YtmhidmocmolgfaaDoor
open Go.RowKit Ndm Txt Spl
set_option linter.unusedSectionVars false
set_option linter.unusedVariables false

set_option maxHeartbeats 4000000 in
set_option maxRecDepth 100000 in
theorem readR_dash (w : World) : Calls Tryd.prog 11 #[.string ⟨#[45]⟩] w fun e w' => e = .returned (.tuple #[(.agg #[.int .i64 0, .int .i64 0, .int .i64 0]), .int .i64 0]) ∧ Below w.heap.size w w' := by
  have h1 : ((w.alloc (.cells #[.int .i64 0, .int .i64 0, .int .i64 0] 23)).alloc (.cells #[.int .i64 0, .int .i64 0, .int .i64 0] 61)).heap[w.heap.size]? = some (.cells #[.int .i64 0, .int .i64 0, .int .i64 0] 23 (0, 0)) := (Below.heap_alloc _ _ _ (by simp)).trans (heap_alloc_new _ _)
  have h2 : ((w.alloc (.cells #[.int .i64 0, .int .i64 0, .int .i64 0] 23)).alloc (.cells #[.int .i64 0, .int .i64 0, .int .i64 0] 61)).heap[w.heap.size + 1]? = some (.cells #[.int .i64 0, .int .i64 0, .int .i64 0] 61 (0, 0)) := by
    have h := heap_alloc_new (w.alloc (.cells #[.int .i64 0, .int .i64 0, .int .i64 0] 23)) (.cells #[.int .i64 0, .int .i64 0, .int .i64 0] 61)
    have e : (w.alloc (.cells #[.int .i64 0, .int .i64 0, .int .i64 0] 23)).heap.size = w.heap.size + 1 := by simp
    rw [e] at h
    exact h
  have hB : Below w.heap.size w ((w.alloc (.cells #[.int .i64 0, .int .i64 0, .int .i64 0] 23)).alloc (.cells #[.int .i64 0, .int .i64 0, .int .i64 0] 61)) := ((Below.refl _ _).alloc (Nat.le_refl _) _).alloc (by simp) _
  have hs2 : ((w.alloc (.cells #[.int .i64 0, .int .i64 0, .int .i64 0] 23)).alloc (.cells #[.int .i64 0, .int .i64 0, .int .i64 0] 61)).heap.size = w.heap.size + 1 + 1 := by simp
  have htx : ∀ w1, Calls Tryd.prog 13 #[(.agg #[.int .i64 0, .int .i64 0, .int .i64 0])] w1 fun e w' => e = .returned (.string ⟨#[45]⟩) ∧ Below w1.heap.size w1 w' := fun w1 => textR_any nz w1 nnN_nz
  have hft : ∀ w1, Calls Tryd.prog 12 #[(.agg #[.int .i64 0, .int .i64 0, .int .i64 0])] w1 fun e w' => e = .returned (.int .i64 0) ∧ Below w1.heap.size w1 w' := fun w1 => faultR_any nz w1
  obtain ⟨wr, hwr⟩ : ∃ wr, (w.alloc (.cells #[.int .i64 0, .int .i64 0, .int .i64 0] 23)).alloc (.cells #[.int .i64 0, .int .i64 0, .int .i64 0] 61) = wr := ⟨_, rfl⟩
  rw [hwr] at h1 h2 hB hs2
  have z0 : wr.cell? ⟨w.heap.size + 1, 0, none⟩ = some (.int .i64 0) := (cell_of_row _ _ 0 _ _ _ h2).trans rfl
  have z1 : wr.cell? ⟨w.heap.size + 1, 1, none⟩ = some (.int .i64 0) := (cell_of_row _ _ 1 _ _ _ h2).trans rfl
  have z2 : wr.cell? ⟨w.heap.size + 1, 2, none⟩ = some (.int .i64 0) := (cell_of_row _ _ 2 _ _ _ h2).trans rfl
  have x12 : (wr.alloc (.cells #[.int .i64 0, .int .i64 0, .int .i64 0] 23)).heap[w.heap.size + 1 + 1]? = some (.cells #[.int .i64 0, .int .i64 0, .int .i64 0] 23 (0, 0)) := by rw [← hs2]; exact heap_alloc_new _ _
  have c1 : Hid ((wr.alloc (.cells #[.int .i64 0, .int .i64 0, .int .i64 0] 23)).heap[w.heap.size]? = some (.cells #[.int .i64 0, .int .i64 0, .int .i64 0] 23 (0, 0))) := (Below.heap_alloc _ _ _ (by omega)).trans h1
  have hBA : Hid (Below w.heap.size w (wr.alloc (.cells #[.int .i64 0, .int .i64 0, .int .i64 0] 23))) := hB.alloc hB.size _
  clear h1 h2 hB hs2
  subst hwr
  go_enter Tryd.func11, Tryd.ntmps11
  go_wp2_with (first
    | (refine load_wanted rfl 23 _ rfl _ rfl _ _ _ _ x12 Tryd.underlying23 rfl (need_info _ rfl) ?_)
    | (go_at_call 13; refine (htx _).mono ?_; rintro e w5 ⟨rfl, hb5⟩; have q12 := (hb5.block _ (Array.getElem?_eq_some_iff.1 x12).1).trans x12; have q1 : Hid (w5.heap[w.heap.size]? = some (.cells #[.int .i64 0, .int .i64 0, .int .i64 0] 23 (0, 0))) := (hb5.block _ (Array.getElem?_eq_some_iff.1 c1.out).1).trans c1.out; have hB5 : Hid (Below w.heap.size w w5) := hBA.out.trans (hb5.mono hBA.out.size); clear htx x12 hb5)
    | (refine load_wanted rfl 23 _ rfl _ rfl _ _ _ _ q12 Tryd.underlying23 rfl (need_info _ rfl) ?_)
    | (go_at_call 12; refine (hft _).mono ?_; rintro e w6 ⟨rfl, hb6⟩; have r12 := (hb6.block _ (Array.getElem?_eq_some_iff.1 q12).1).trans q12; have r1 := (hb6.block _ (Array.getElem?_eq_some_iff.1 q1.out).1).trans q1.out; have hB6 : Hid (Below w.heap.size w w6) := hB5.out.trans (hb6.mono hB5.out.size); clear hft q12 hb6)
    | (refine load_wanted rfl 23 _ rfl _ rfl _ _ _ _ r12 Tryd.underlying23 rfl (need_info _ rfl) ?_)
    | (refine wpList_store_row rfl 23 _ _ rfl _ #[.int .i64 0, .int .i64 0, .int .i64 0] rfl rfl _ _ r1 (need_info _ rfl) rfl (need_one _ _ _) ?_)
    | go_in)
  refine bodyPost_ret (results_NeedRead rfl (setRow_heap _ w.heap.size _ _ _ _ r1) rfl rfl) rfl ⟨rfl, below_row hB6.out (by omega)⟩

theorem readR_any (s : ByteArray) (w : World) (hl : (s.size : Int) ≤ 1900000) (V : N3) (E : Int) (HV : rV (rdN s.data.toList) = V) (HE : rE (rdN s.data.toList) = E) :
    Calls Tryd.prog 11 #[.string s] w fun e w' => e = .returned (.tuple #[(.agg #[.int .i64 V.x, .int .i64 V.y, .int .i64 V.z]), .int .i64 E]) ∧ Below w.heap.size w w' := by
  have hs : s = ⟨s.data.toList.toArray⟩ := by cases s; rfl
  by_cases hd : s.data.toList = [45]
  · rw [hd] at HV HE
    obtain rfl : V = nz := by rw [← HV]; rfl
    obtain rfl : E = 0 := by rw [← HE]; rfl
    rw [hs, hd]
    exact readR_dash w
  · rw [hs]
    refine readR_loop s.data.toList w (by have : s.data.toList.length = s.size := by simp
                                          omega) hd _ rfl V E ?_ ?_
    · show _ = _
      rw [← HV, ← rrN_rdN]
      congr 1
      unfold fiN rrN
      rw [if_neg hd]
      cases pcF (sp 44 s.data.toList) nz <;> rfl
    · show _ = _
      rw [← HE, ← rrN_rdN]
      congr 1
      unfold fiN rrN
      rw [if_neg hd]
      cases pcF (sp 44 s.data.toList) nz <;> rfl

theorem neqN (x y z x' y' z' : Int) (w : World) : (binOp .neq 23 (.agg #[.int .i64 x, .int .i64 y, .int .i64 z]) (.agg #[.int .i64 x', .int .i64 y', .int .i64 z'])).run Tryd.prog w = .ok (.bool (!(decide (x = x') && (decide (y = y') && decide (z = z'))))) w := by
  have u3 := Tryd.underlying2
  have a3 := Tryd.isAgg2
  have z3 := Tryd.sizeOf2
  have hS : Tryd.prog.underlying 23 = some (.struct (Tryd.prog.fieldsOf 23)) := by kernel_rfl
  have hp : Tryd.prog.stoodInHeld 23 = false := by kernel_rfl
  rw [run_neq_struct, show (10000 : Nat) = 9999 + 1 from rfl, run_equalIn_agg w 9999 23 _ _ hS hp]
  simp only [Program.fieldsOf, Tryd.underlying23]
  by_cases h1 : x = x' <;> by_cases h2 : y = y' <;> by_cases h3 : z = z' <;> simp only [h1, h2, h3] <;> go_simp
theorem and3_same (a : N3) : (decide (a.x = a.x) && (decide (a.y = a.y) && decide (a.z = a.z))) = true := by simp

set_option maxHeartbeats 4000000 in
set_option maxRecDepth 100000 in
theorem needReads_ok (a : N3) (s : ByteArray) (w : World) (hM : TabM w) (hP : TabP w) (ha : okN a = true) (V : N3) (E : Int) (hR1 : ∀ w1, TabM w1 → Calls Tryd.prog 10 #[.string s] w1 fun e w' => e = .returned (.tuple #[(.agg #[.int .i64 V.x, .int .i64 V.y, .int .i64 V.z]), .int .i64 E]) ∧ Below w1.heap.size w1 w') (hR2 : ∀ w1, Calls Tryd.prog 11 #[.string s] w1 fun e w' => e = .returned (.tuple #[(.agg #[.int .i64 V.x, .int .i64 V.y, .int .i64 V.z]), .int .i64 E]) ∧ Below w1.heap.size w1 w') :
    Calls Tryd.prog 3 #[(.agg #[.int .i64 a.x, .int .i64 a.y, .int .i64 a.z]), .string s] w fun e w' => e = .returned (.bool true) ∧ Below w.heap.size w w' := by
  have x0_a : (w.alloc (.cells #[.int .i64 a.x, .int .i64 a.y, .int .i64 a.z] 23)).heap[w.heap.size]? = some (.cells #[.int .i64 a.x, .int .i64 a.y, .int .i64 a.z] 23 (0, 0)) := heap_alloc_new _ _
  have HB0 : Below w.heap.size w (w.alloc (.cells #[.int .i64 a.x, .int .i64 a.y, .int .i64 a.z] 23)) := (Below.refl _ _).alloc (Nat.le_refl _) _
  have hBT : ∀ w1, Below w.heap.size w w1 → TabM w1 ∧ TabP w1 := fun w1 h => ⟨hM.below h (Nat.le_refl _), hP.below h⟩
  have hneq := neqN V.x V.y V.z V.x V.y V.z
  rw [and3_same] at hneq
  have hnn : nnN a := by
    obtain ⟨⟨x1, x2⟩, ⟨y1, y2⟩, z1, z2⟩ := okN_iff.1 ha
    exact ⟨⟨x1, by omega⟩, ⟨y1, by omega⟩, z1, by omega⟩
  have hF : ∀ w1, Calls Tryd.prog 12 #[(.agg #[.int .i64 a.x, .int .i64 a.y, .int .i64 a.z])] w1 fun e w' => e = .returned (.int .i64 0) ∧ Below w1.heap.size w1 w' := fun w1 => by
    have := faultR_any a w1
    rw [ha] at this
    exact this
  have hT1 : ∀ w1, TabM w1 ∧ TabP w1 → Calls Tryd.prog 9 #[(.agg #[.int .i64 a.x, .int .i64 a.y, .int .i64 a.z])] w1 fun e w' => e = .returned (.tuple #[.string ⟨(txN a).toArray⟩, .int .i64 0]) ∧ Below w1.heap.size w1 w' := fun w1 h => Text_ok a w1 h.1 h.2 ha
  have hT2 : ∀ w1, Calls Tryd.prog 13 #[(.agg #[.int .i64 a.x, .int .i64 a.y, .int .i64 a.z])] w1 fun e w' => e = .returned (.string ⟨(txN a).toArray⟩) ∧ Below w1.heap.size w1 w' := fun w1 => textR_any a w1 hnn
  generalize txN a = t at *
  clear hM hP ha hnn
  go_enter Tryd.func3, Tryd.ntmps3
  go_wp2_with (first
    | (refine load_wanted rfl 23 _ rfl _ rfl _ _ _ _ x0_a Tryd.underlying23 rfl (need_info _ rfl) ?_)
    | (go_at_call 9; refine (hT1 _ (hBT _ (by assumption))).mono ?_; rintro e w1 ⟨rfl, hb1⟩; clear hT1; have y_a : NBox w1 (w.heap.size) a := NBox.below (a := a) x0_a hb1 (NBox.lt (a := a) x0_a); have HB1 : Below w.heap.size w w1 := HB0.trans (hb1.mono HB0.size); have x1_a : w1.heap[w.heap.size]? = some (.cells #[.int .i64 a.x, .int .i64 a.y, .int .i64 a.z] 23 (0, 0)) := y_a; clear hb1 HB0 x0_a y_a)
    | (go_at_call 10; refine (hR1 _ (hBT _ (by assumption)).1).mono ?_; rintro e w2 ⟨rfl, hb2⟩; clear hR1; have y_a : NBox w2 (w.heap.size) a := NBox.below (a := a) x1_a hb2 (NBox.lt (a := a) x1_a); have HB2 : Below w.heap.size w (w2.alloc (.cells #[.int .i64 V.x, .int .i64 V.y, .int .i64 V.z] 23)) := (HB1.trans (hb2.mono HB1.size)).alloc (Nat.le_trans HB1.size hb2.size) _; have x2_a : (w2.alloc (.cells #[.int .i64 V.x, .int .i64 V.y, .int .i64 V.z] 23)).heap[w.heap.size]? = some (.cells #[.int .i64 a.x, .int .i64 a.y, .int .i64 a.z] 23 (0, 0)) := (Below.heap_alloc _ _ _ (NBox.lt y_a)).trans y_a; have x2_b : (w2.alloc (.cells #[.int .i64 V.x, .int .i64 V.y, .int .i64 V.z] 23)).heap[w2.heap.size]? = some (.cells #[.int .i64 V.x, .int .i64 V.y, .int .i64 V.z] 23 (0, 0)) := heap_alloc_new _ _; clear hb2 HB1 x1_a y_a)
    | (go_at_call 11; refine (hR2 _).mono ?_; rintro e w3 ⟨rfl, hb3⟩; clear hR2; have y_a : NBox w3 (w.heap.size) a := NBox.below (a := a) x2_a hb3 (NBox.lt (a := a) x2_a); have y_b : NBox w3 (w2.heap.size) V := NBox.below (a := V) x2_b hb3 (NBox.lt (a := V) x2_b); have HB3 : Below w.heap.size w (w3.alloc (.cells #[.int .i64 V.x, .int .i64 V.y, .int .i64 V.z] 23)) := (HB2.trans (hb3.mono HB2.size)).alloc (Nat.le_trans HB2.size hb3.size) _; have x3_a : (w3.alloc (.cells #[.int .i64 V.x, .int .i64 V.y, .int .i64 V.z] 23)).heap[w.heap.size]? = some (.cells #[.int .i64 a.x, .int .i64 a.y, .int .i64 a.z] 23 (0, 0)) := (Below.heap_alloc _ _ _ (NBox.lt y_a)).trans y_a; have x3_b : (w3.alloc (.cells #[.int .i64 V.x, .int .i64 V.y, .int .i64 V.z] 23)).heap[w2.heap.size]? = some (.cells #[.int .i64 V.x, .int .i64 V.y, .int .i64 V.z] 23 (0, 0)) := (Below.heap_alloc _ _ _ (NBox.lt y_b)).trans y_b; have x3_c : (w3.alloc (.cells #[.int .i64 V.x, .int .i64 V.y, .int .i64 V.z] 23)).heap[w3.heap.size]? = some (.cells #[.int .i64 V.x, .int .i64 V.y, .int .i64 V.z] 23 (0, 0)) := heap_alloc_new _ _; clear hb3 HB2 x2_a x2_b y_a y_b)
    | (refine load_wanted rfl 23 _ rfl _ rfl _ _ _ _ x3_b Tryd.underlying23 rfl (need_info _ rfl) ?_)
    | (refine load_wanted rfl 23 _ rfl _ rfl _ _ _ _ x3_c Tryd.underlying23 rfl (need_info _ rfl) ?_)
    | (refine load_wanted rfl 23 _ rfl _ rfl _ _ _ _ x3_a Tryd.underlying23 rfl (need_info _ rfl) ?_)
    | (go_at_call 12; refine (hF _).mono ?_; rintro e w4 ⟨rfl, hb4⟩; clear hF; have y_a : NBox w4 (w.heap.size) a := NBox.below (a := a) x3_a hb4 (NBox.lt (a := a) x3_a); have y_b : NBox w4 (w2.heap.size) V := NBox.below (a := V) x3_b hb4 (NBox.lt (a := V) x3_b); have y_c : NBox w4 (w3.heap.size) V := NBox.below (a := V) x3_c hb4 (NBox.lt (a := V) x3_c); have HB4 : Below w.heap.size w w4 := HB3.trans (hb4.mono HB3.size); have x4_a : w4.heap[w.heap.size]? = some (.cells #[.int .i64 a.x, .int .i64 a.y, .int .i64 a.z] 23 (0, 0)) := y_a; have x4_b : w4.heap[w2.heap.size]? = some (.cells #[.int .i64 V.x, .int .i64 V.y, .int .i64 V.z] 23 (0, 0)) := y_b; have x4_c : w4.heap[w3.heap.size]? = some (.cells #[.int .i64 V.x, .int .i64 V.y, .int .i64 V.z] 23 (0, 0)) := y_c; clear hb4 HB3 x3_a x3_b x3_c y_a y_b y_c)
    | (refine load_wanted rfl 23 _ rfl _ rfl _ _ _ _ x4_a Tryd.underlying23 rfl (need_info _ rfl) ?_)
    | (go_at_call 13; refine (hT2 _).mono ?_; rintro e w5 ⟨rfl, hb5⟩; clear hT2; have y_a : NBox w5 (w.heap.size) a := NBox.below (a := a) x4_a hb5 (NBox.lt (a := a) x4_a); have y_b : NBox w5 (w2.heap.size) V := NBox.below (a := V) x4_b hb5 (NBox.lt (a := V) x4_b); have y_c : NBox w5 (w3.heap.size) V := NBox.below (a := V) x4_c hb5 (NBox.lt (a := V) x4_c); have HB5 : Below w.heap.size w w5 := HB4.trans (hb5.mono HB4.size); have x5_a : w5.heap[w.heap.size]? = some (.cells #[.int .i64 a.x, .int .i64 a.y, .int .i64 a.z] 23 (0, 0)) := y_a; have x5_b : w5.heap[w2.heap.size]? = some (.cells #[.int .i64 V.x, .int .i64 V.y, .int .i64 V.z] 23 (0, 0)) := y_b; have x5_c : w5.heap[w3.heap.size]? = some (.cells #[.int .i64 V.x, .int .i64 V.y, .int .i64 V.z] 23 (0, 0)) := y_c; clear hb5 HB4 x4_a x4_b x4_c y_a y_b y_c)
    | go_in)
  go_ret
  exact ⟨by first | rfl | simp, HB5⟩

set_option maxHeartbeats 4000000 in
set_option maxRecDepth 100000 in
theorem needReads_bad (a : N3) (s : ByteArray) (w : World) (hM : TabM w) (hP : TabP w) (ha : okN a = false) (V : N3) (E : Int) (hR1 : ∀ w1, TabM w1 → Calls Tryd.prog 10 #[.string s] w1 fun e w' => e = .returned (.tuple #[(.agg #[.int .i64 V.x, .int .i64 V.y, .int .i64 V.z]), .int .i64 E]) ∧ Below w1.heap.size w1 w') (hR2 : ∀ w1, Calls Tryd.prog 11 #[.string s] w1 fun e w' => e = .returned (.tuple #[(.agg #[.int .i64 V.x, .int .i64 V.y, .int .i64 V.z]), .int .i64 E]) ∧ Below w1.heap.size w1 w') :
    Calls Tryd.prog 3 #[(.agg #[.int .i64 a.x, .int .i64 a.y, .int .i64 a.z]), .string s] w fun e w' => e = .returned (.bool true) ∧ Below w.heap.size w w' := by
  have x0_a : (w.alloc (.cells #[.int .i64 a.x, .int .i64 a.y, .int .i64 a.z] 23)).heap[w.heap.size]? = some (.cells #[.int .i64 a.x, .int .i64 a.y, .int .i64 a.z] 23 (0, 0)) := heap_alloc_new _ _
  have HB0 : Below w.heap.size w (w.alloc (.cells #[.int .i64 a.x, .int .i64 a.y, .int .i64 a.z] 23)) := (Below.refl _ _).alloc (Nat.le_refl _) _
  have hBT : ∀ w1, Below w.heap.size w w1 → TabM w1 ∧ TabP w1 := fun w1 h => ⟨hM.below h (Nat.le_refl _), hP.below h⟩
  have hneq := neqN V.x V.y V.z V.x V.y V.z
  rw [and3_same] at hneq
  have hF : ∀ w1, Calls Tryd.prog 12 #[(.agg #[.int .i64 a.x, .int .i64 a.y, .int .i64 a.z])] w1 fun e w' => e = .returned (.int .i64 4) ∧ Below w1.heap.size w1 w' := fun w1 => by
    have := faultR_any a w1
    rw [ha] at this
    exact this
  have hT1 : ∀ w1, Calls Tryd.prog 9 #[(.agg #[.int .i64 a.x, .int .i64 a.y, .int .i64 a.z])] w1 fun e w' => e = .returned (.tuple #[.string ⟨#[]⟩, .int .i64 4]) ∧ Below w1.heap.size w1 w' := fun w1 => Text_bad a w1 ha
  clear hM hP ha
  go_enter Tryd.func3, Tryd.ntmps3
  go_wp2_with (first
    | (refine load_wanted rfl 23 _ rfl _ rfl _ _ _ _ x0_a Tryd.underlying23 rfl (need_info _ rfl) ?_)
    | (go_at_call 9; refine (hT1 _).mono ?_; rintro e w1 ⟨rfl, hb1⟩; clear hT1; have y_a : NBox w1 (w.heap.size) a := NBox.below (a := a) x0_a hb1 (NBox.lt (a := a) x0_a); have HB1 : Below w.heap.size w w1 := HB0.trans (hb1.mono HB0.size); have x1_a : w1.heap[w.heap.size]? = some (.cells #[.int .i64 a.x, .int .i64 a.y, .int .i64 a.z] 23 (0, 0)) := y_a; clear hb1 HB0 x0_a y_a)
    | (go_at_call 10; refine (hR1 _ (hBT _ (by assumption)).1).mono ?_; rintro e w2 ⟨rfl, hb2⟩; clear hR1; have y_a : NBox w2 (w.heap.size) a := NBox.below (a := a) x1_a hb2 (NBox.lt (a := a) x1_a); have HB2 : Below w.heap.size w (w2.alloc (.cells #[.int .i64 V.x, .int .i64 V.y, .int .i64 V.z] 23)) := (HB1.trans (hb2.mono HB1.size)).alloc (Nat.le_trans HB1.size hb2.size) _; have x2_a : (w2.alloc (.cells #[.int .i64 V.x, .int .i64 V.y, .int .i64 V.z] 23)).heap[w.heap.size]? = some (.cells #[.int .i64 a.x, .int .i64 a.y, .int .i64 a.z] 23 (0, 0)) := (Below.heap_alloc _ _ _ (NBox.lt y_a)).trans y_a; have x2_b : (w2.alloc (.cells #[.int .i64 V.x, .int .i64 V.y, .int .i64 V.z] 23)).heap[w2.heap.size]? = some (.cells #[.int .i64 V.x, .int .i64 V.y, .int .i64 V.z] 23 (0, 0)) := heap_alloc_new _ _; clear hb2 HB1 x1_a y_a)
    | (go_at_call 11; refine (hR2 _).mono ?_; rintro e w3 ⟨rfl, hb3⟩; clear hR2; have y_a : NBox w3 (w.heap.size) a := NBox.below (a := a) x2_a hb3 (NBox.lt (a := a) x2_a); have y_b : NBox w3 (w2.heap.size) V := NBox.below (a := V) x2_b hb3 (NBox.lt (a := V) x2_b); have HB3 : Below w.heap.size w (w3.alloc (.cells #[.int .i64 V.x, .int .i64 V.y, .int .i64 V.z] 23)) := (HB2.trans (hb3.mono HB2.size)).alloc (Nat.le_trans HB2.size hb3.size) _; have x3_a : (w3.alloc (.cells #[.int .i64 V.x, .int .i64 V.y, .int .i64 V.z] 23)).heap[w.heap.size]? = some (.cells #[.int .i64 a.x, .int .i64 a.y, .int .i64 a.z] 23 (0, 0)) := (Below.heap_alloc _ _ _ (NBox.lt y_a)).trans y_a; have x3_b : (w3.alloc (.cells #[.int .i64 V.x, .int .i64 V.y, .int .i64 V.z] 23)).heap[w2.heap.size]? = some (.cells #[.int .i64 V.x, .int .i64 V.y, .int .i64 V.z] 23 (0, 0)) := (Below.heap_alloc _ _ _ (NBox.lt y_b)).trans y_b; have x3_c : (w3.alloc (.cells #[.int .i64 V.x, .int .i64 V.y, .int .i64 V.z] 23)).heap[w3.heap.size]? = some (.cells #[.int .i64 V.x, .int .i64 V.y, .int .i64 V.z] 23 (0, 0)) := heap_alloc_new _ _; clear hb3 HB2 x2_a x2_b y_a y_b)
    | (refine load_wanted rfl 23 _ rfl _ rfl _ _ _ _ x3_b Tryd.underlying23 rfl (need_info _ rfl) ?_)
    | (refine load_wanted rfl 23 _ rfl _ rfl _ _ _ _ x3_c Tryd.underlying23 rfl (need_info _ rfl) ?_)
    | (refine load_wanted rfl 23 _ rfl _ rfl _ _ _ _ x3_a Tryd.underlying23 rfl (need_info _ rfl) ?_)
    | (go_at_call 12; refine (hF _).mono ?_; rintro e w4 ⟨rfl, hb4⟩; clear hF; have y_a : NBox w4 (w.heap.size) a := NBox.below (a := a) x3_a hb4 (NBox.lt (a := a) x3_a); have y_b : NBox w4 (w2.heap.size) V := NBox.below (a := V) x3_b hb4 (NBox.lt (a := V) x3_b); have y_c : NBox w4 (w3.heap.size) V := NBox.below (a := V) x3_c hb4 (NBox.lt (a := V) x3_c); have HB4 : Below w.heap.size w w4 := HB3.trans (hb4.mono HB3.size); have x4_a : w4.heap[w.heap.size]? = some (.cells #[.int .i64 a.x, .int .i64 a.y, .int .i64 a.z] 23 (0, 0)) := y_a; have x4_b : w4.heap[w2.heap.size]? = some (.cells #[.int .i64 V.x, .int .i64 V.y, .int .i64 V.z] 23 (0, 0)) := y_b; have x4_c : w4.heap[w3.heap.size]? = some (.cells #[.int .i64 V.x, .int .i64 V.y, .int .i64 V.z] 23 (0, 0)) := y_c; clear hb4 HB3 x3_a x3_b x3_c y_a y_b y_c)
    | go_in)
  go_ret
  exact ⟨by first | rfl | simp, HB4⟩

/-- NeedReads. -/
theorem needReads_walk (a : N3) (s : ByteArray) (w : World) (hT : TabM w ∧ TabP w) (hs : s.size ≤ maxLen) (hb : (s.size : Int) ≤ 1900000) : Calls Tryd.prog 3 #[(.agg #[.int .i64 a.x, .int .i64 a.y, .int .i64 a.z]), .string s] w fun e w' => e = .returned (.bool true) ∧ Below w.heap.size w w' := by
  obtain ⟨hM, hP⟩ := hT
  have hR1 := fun w1 h => Read_any s w1 h hs (rdN s.data.toList) rfl
  have hR2 := fun w1 => readR_any s w1 hb _ _ rfl rfl
  cases ha : okN a with
  | true => exact needReads_ok a s w hM hP ha _ _ hR1 hR2
  | false => exact needReads_bad a s w hM hP ha _ _ hR1 hR2

end Go.Proofs.YtmhidmocmolgfaaDoor
