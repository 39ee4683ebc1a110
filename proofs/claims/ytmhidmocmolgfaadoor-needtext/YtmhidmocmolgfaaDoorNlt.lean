/- NeedText, walked. -/
import Derived.Test.YtmhidmocmolgfaaDoorNrx
import Derived.Test.YtmhidmocmolgfaaDoorNdz
namespace Go.Proofs.YtmhidmocmolgfaaDoor
open Go.RowKit Ndm Txt
set_option linter.unusedSectionVars false
set_option linter.unusedVariables false

theorem neqN (x y z x' y' z' : Int) (w : World) : (binOp .neq 23 (.agg #[.int .i64 x, .int .i64 y, .int .i64 z]) (.agg #[.int .i64 x', .int .i64 y', .int .i64 z'])).run Tryd.prog w = .ok (.bool (!(decide (x = x') && (decide (y = y') && decide (z = z'))))) w := by
  have u3 := Tryd.underlying2
  have a3 := Tryd.isAgg2
  have z3 := Tryd.sizeOf2
  have hS : Tryd.prog.underlying 23 = some (.struct (Tryd.prog.fieldsOf 23)) := by kernel_rfl
  have hp : Tryd.prog.stoodInHeld 23 = false := by kernel_rfl
  rw [run_neq_struct, show (10000 : Nat) = 9999 + 1 from rfl, run_equalIn_agg w 9999 23 _ _ hS hp]
  simp only [Program.fieldsOf, Tryd.underlying23]
  by_cases h1 : x = x' <;> by_cases h2 : y = y' <;> by_cases h3 : z = z' <;> simp only [h1, h2, h3] <;> go_simp
theorem txN_len {a : N3} (h : okN a = true) : (txN a).length ≤ 1000 := by
  unfold txN
  split
  · simp
  · exact join_len h
theorem and3_same (a : N3) : (decide (a.x = a.x) && (decide (a.y = a.y) && decide (a.z = a.z))) = true := by simp

set_option maxHeartbeats 4000000 in
set_option maxRecDepth 100000 in
theorem needText_ok_no (a : N3) (s : ByteArray) (w : World) (hM : TabM w) (hP : TabP w) (hs : s.size ≤ maxLen) (ha : okN a = true) (ev : Int) (hev : (ev != 0) = true) (hR2 : ∀ w1, TabM w1 → Calls Tryd.prog 10 #[.string s] w1 fun e w' => e = .returned (.tuple #[(.agg #[.int .i64 0, .int .i64 0, .int .i64 0]), .int .i64 ev]) ∧ Below w1.heap.size w1 w') :
    Calls Tryd.prog 4 #[(.agg #[.int .i64 a.x, .int .i64 a.y, .int .i64 a.z]), .string s] w fun e w' => e = .returned (.bool true) ∧ Below w.heap.size w w' := by
  have x0_a : (w.alloc (.cells #[.int .i64 a.x, .int .i64 a.y, .int .i64 a.z] 23)).heap[w.heap.size]? = some (.cells #[.int .i64 a.x, .int .i64 a.y, .int .i64 a.z] 23 (0, 0)) := heap_alloc_new _ _
  have HB0 : Below w.heap.size w (w.alloc (.cells #[.int .i64 a.x, .int .i64 a.y, .int .i64 a.z] 23)) := (Below.refl _ _).alloc (Nat.le_refl _) _
  have hne := needs_any (w.alloc (.cells #[.int .i64 a.x, .int .i64 a.y, .int .i64 a.z] 23))
  have hBT : ∀ w1, Below w.heap.size w w1 → TabM w1 ∧ TabP w1 := fun w1 h => ⟨hM.below h (Nat.le_refl _), hP.below h⟩
  have hT1 : ∀ w1, TabM w1 ∧ TabP w1 → Calls Tryd.prog 9 #[(.agg #[.int .i64 a.x, .int .i64 a.y, .int .i64 a.z])] w1 fun e w' => e = .returned (.tuple #[.string ⟨(txN a).toArray⟩, .int .i64 0]) ∧ Below w1.heap.size w1 w' := fun w1 h => Text_ok a w1 h.1 h.2 ha
  have hR1 : ∀ w1, TabM w1 → Calls Tryd.prog 10 #[.string ⟨(txN a).toArray⟩] w1 fun e w' => e = .returned (.tuple #[(.agg #[.int .i64 a.x, .int .i64 a.y, .int .i64 a.z]), .int .i64 0]) ∧ Below w1.heap.size w1 w' := fun w1 h => by
    have hl := txN_len ha
    have := Read_any ⟨(txN a).toArray⟩ w1 h (by show (txN a).toArray.size ≤ maxLen; unfold maxLen; simp; omega) (some a) (rdN_txN ha)
    rw [show rV (some a) = a by show (if okN a then a else nz) = a; rw [ha]; rfl, show rE (some a) = 0 by show ce (okN a) = 0; rw [ha]; rfl] at this
    exact this
  have hneq := neqN a.x a.y a.z a.x a.y a.z
  rw [and3_same] at hneq
  generalize txN a = t at *
  have heql := eqlN 0 0 0 0 0 0
  rw [show (decide ((0 : Int) = 0) && (decide ((0 : Int) = 0) && decide ((0 : Int) = 0))) = true from rfl] at heql
  clear hM hP hs ha
  go_enter Tryd.func4, Tryd.ntmps4
  go_wp2_with (first
    | (go_at_call 14; refine (hne).mono ?_; rintro e w1 ⟨rfl, hb1⟩; clear hne; have y_a : NBox w1 (w.heap.size) a := NBox.below (a := a) x0_a hb1 (NBox.lt (a := a) x0_a); have HB1 : Below w.heap.size w w1 := HB0.trans (hb1.mono HB0.size); have x1_a : w1.heap[w.heap.size]? = some (.cells #[.int .i64 a.x, .int .i64 a.y, .int .i64 a.z] 23 (0, 0)) := y_a; clear hb1 HB0 x0_a y_a)
    | (refine load_wanted rfl 23 _ rfl _ rfl _ _ _ _ x1_a Tryd.underlying23 rfl (need_info _ rfl) ?_)
    | (go_at_call 9; refine (hT1 _ (hBT _ (by assumption))).mono ?_; rintro e w2 ⟨rfl, hb2⟩; clear hT1; have y_a : NBox w2 (w.heap.size) a := NBox.below (a := a) x1_a hb2 (NBox.lt (a := a) x1_a); have HB2 : Below w.heap.size w w2 := HB1.trans (hb2.mono HB1.size); have x2_a : w2.heap[w.heap.size]? = some (.cells #[.int .i64 a.x, .int .i64 a.y, .int .i64 a.z] 23 (0, 0)) := y_a; clear hb2 HB1 x1_a y_a)
    | (go_at_call 10; refine (hR1 _ (hBT _ (by assumption)).1).mono ?_; rintro e w3 ⟨rfl, hb3⟩; clear hR1; have y_a : NBox w3 (w.heap.size) a := NBox.below (a := a) x2_a hb3 (NBox.lt (a := a) x2_a); have HB3 : Below w.heap.size w (w3.alloc (.cells #[.int .i64 a.x, .int .i64 a.y, .int .i64 a.z] 23)) := (HB2.trans (hb3.mono HB2.size)).alloc (Nat.le_trans HB2.size hb3.size) _; have x3_a : (w3.alloc (.cells #[.int .i64 a.x, .int .i64 a.y, .int .i64 a.z] 23)).heap[w.heap.size]? = some (.cells #[.int .i64 a.x, .int .i64 a.y, .int .i64 a.z] 23 (0, 0)) := (Below.heap_alloc _ _ _ (NBox.lt y_a)).trans y_a; have x3_b : (w3.alloc (.cells #[.int .i64 a.x, .int .i64 a.y, .int .i64 a.z] 23)).heap[w3.heap.size]? = some (.cells #[.int .i64 a.x, .int .i64 a.y, .int .i64 a.z] 23 (0, 0)) := heap_alloc_new _ _; clear hb3 HB2 x2_a y_a)
    | (refine load_wanted rfl 23 _ rfl _ rfl _ _ _ _ x3_a Tryd.underlying23 rfl (need_info _ rfl) ?_)
    | (refine load_wanted rfl 23 _ rfl _ rfl _ _ _ _ x3_b Tryd.underlying23 rfl (need_info _ rfl) ?_)
    | (go_at_call 10; refine (hR2 _ (hBT _ (by assumption)).1).mono ?_; rintro e w4 ⟨rfl, hb4⟩; clear hR2; have y_a : NBox w4 (w.heap.size) a := NBox.below (a := a) x3_a hb4 (NBox.lt (a := a) x3_a); have y_b : NBox w4 (w3.heap.size) a := NBox.below (a := a) x3_b hb4 (NBox.lt (a := a) x3_b); have HB4 : Below w.heap.size w (w4.alloc (.cells #[.int .i64 nz.x, .int .i64 nz.y, .int .i64 nz.z] 23)) := (HB3.trans (hb4.mono HB3.size)).alloc (Nat.le_trans HB3.size hb4.size) _; have x4_a : (w4.alloc (.cells #[.int .i64 nz.x, .int .i64 nz.y, .int .i64 nz.z] 23)).heap[w.heap.size]? = some (.cells #[.int .i64 a.x, .int .i64 a.y, .int .i64 a.z] 23 (0, 0)) := (Below.heap_alloc _ _ _ (NBox.lt y_a)).trans y_a; have x4_b : (w4.alloc (.cells #[.int .i64 nz.x, .int .i64 nz.y, .int .i64 nz.z] 23)).heap[w3.heap.size]? = some (.cells #[.int .i64 a.x, .int .i64 a.y, .int .i64 a.z] 23 (0, 0)) := (Below.heap_alloc _ _ _ (NBox.lt y_b)).trans y_b; have x4_c : (w4.alloc (.cells #[.int .i64 nz.x, .int .i64 nz.y, .int .i64 nz.z] 23)).heap[w4.heap.size]? = some (.cells #[.int .i64 nz.x, .int .i64 nz.y, .int .i64 nz.z] 23 (0, 0)) := heap_alloc_new _ _; clear hb4 HB3 x3_a x3_b y_a y_b)
    | (refine load_wanted rfl 23 _ rfl _ rfl _ _ _ _ x4_c Tryd.underlying23 rfl (need_info _ rfl) ?_)
    | go_in)
  go_ret
  exact ⟨by first | rfl | simp, HB4⟩

set_option maxHeartbeats 4000000 in
set_option maxRecDepth 100000 in
theorem needText_ok_yes (a : N3) (s : ByteArray) (w : World) (hM : TabM w) (hP : TabP w) (hs : s.size ≤ maxLen) (ha : okN a = true) (p : N3) (hp : okN p = true) (hps : txN p = s.data.toList) (hR2 : ∀ w1, TabM w1 → Calls Tryd.prog 10 #[.string s] w1 fun e w' => e = .returned (.tuple #[(.agg #[.int .i64 p.x, .int .i64 p.y, .int .i64 p.z]), .int .i64 0]) ∧ Below w1.heap.size w1 w') :
    Calls Tryd.prog 4 #[(.agg #[.int .i64 a.x, .int .i64 a.y, .int .i64 a.z]), .string s] w fun e w' => e = .returned (.bool true) ∧ Below w.heap.size w w' := by
  have x0_a : (w.alloc (.cells #[.int .i64 a.x, .int .i64 a.y, .int .i64 a.z] 23)).heap[w.heap.size]? = some (.cells #[.int .i64 a.x, .int .i64 a.y, .int .i64 a.z] 23 (0, 0)) := heap_alloc_new _ _
  have HB0 : Below w.heap.size w (w.alloc (.cells #[.int .i64 a.x, .int .i64 a.y, .int .i64 a.z] 23)) := (Below.refl _ _).alloc (Nat.le_refl _) _
  have hne := needs_any (w.alloc (.cells #[.int .i64 a.x, .int .i64 a.y, .int .i64 a.z] 23))
  have hBT : ∀ w1, Below w.heap.size w w1 → TabM w1 ∧ TabP w1 := fun w1 h => ⟨hM.below h (Nat.le_refl _), hP.below h⟩
  have hT1 : ∀ w1, TabM w1 ∧ TabP w1 → Calls Tryd.prog 9 #[(.agg #[.int .i64 a.x, .int .i64 a.y, .int .i64 a.z])] w1 fun e w' => e = .returned (.tuple #[.string ⟨(txN a).toArray⟩, .int .i64 0]) ∧ Below w1.heap.size w1 w' := fun w1 h => Text_ok a w1 h.1 h.2 ha
  have hR1 : ∀ w1, TabM w1 → Calls Tryd.prog 10 #[.string ⟨(txN a).toArray⟩] w1 fun e w' => e = .returned (.tuple #[(.agg #[.int .i64 a.x, .int .i64 a.y, .int .i64 a.z]), .int .i64 0]) ∧ Below w1.heap.size w1 w' := fun w1 h => by
    have hl := txN_len ha
    have := Read_any ⟨(txN a).toArray⟩ w1 h (by show (txN a).toArray.size ≤ maxLen; unfold maxLen; simp; omega) (some a) (rdN_txN ha)
    rw [show rV (some a) = a by show (if okN a then a else nz) = a; rw [ha]; rfl, show rE (some a) = 0 by show ce (okN a) = 0; rw [ha]; rfl] at this
    exact this
  have hneq := neqN a.x a.y a.z a.x a.y a.z
  rw [and3_same] at hneq
  generalize txN a = t at *
  have hT2 : ∀ w1, TabM w1 ∧ TabP w1 → Calls Tryd.prog 9 #[(.agg #[.int .i64 p.x, .int .i64 p.y, .int .i64 p.z])] w1 fun e w' => e = .returned (.tuple #[.string s, .int .i64 0]) ∧ Below w1.heap.size w1 w' := fun w1 h => by
    have := Text_ok p w1 h.1 h.2 hp
    rw [hps] at this
    exact this
  clear hp hps
  clear hM hP hs ha
  go_enter Tryd.func4, Tryd.ntmps4
  go_wp2_with (first
    | (go_at_call 14; refine (hne).mono ?_; rintro e w1 ⟨rfl, hb1⟩; clear hne; have y_a : NBox w1 (w.heap.size) a := NBox.below (a := a) x0_a hb1 (NBox.lt (a := a) x0_a); have HB1 : Below w.heap.size w w1 := HB0.trans (hb1.mono HB0.size); have x1_a : w1.heap[w.heap.size]? = some (.cells #[.int .i64 a.x, .int .i64 a.y, .int .i64 a.z] 23 (0, 0)) := y_a; clear hb1 HB0 x0_a y_a)
    | (refine load_wanted rfl 23 _ rfl _ rfl _ _ _ _ x1_a Tryd.underlying23 rfl (need_info _ rfl) ?_)
    | (go_at_call 9; refine (hT1 _ (hBT _ (by assumption))).mono ?_; rintro e w2 ⟨rfl, hb2⟩; clear hT1; have y_a : NBox w2 (w.heap.size) a := NBox.below (a := a) x1_a hb2 (NBox.lt (a := a) x1_a); have HB2 : Below w.heap.size w w2 := HB1.trans (hb2.mono HB1.size); have x2_a : w2.heap[w.heap.size]? = some (.cells #[.int .i64 a.x, .int .i64 a.y, .int .i64 a.z] 23 (0, 0)) := y_a; clear hb2 HB1 x1_a y_a)
    | (go_at_call 10; refine (hR1 _ (hBT _ (by assumption)).1).mono ?_; rintro e w3 ⟨rfl, hb3⟩; clear hR1; have y_a : NBox w3 (w.heap.size) a := NBox.below (a := a) x2_a hb3 (NBox.lt (a := a) x2_a); have HB3 : Below w.heap.size w (w3.alloc (.cells #[.int .i64 a.x, .int .i64 a.y, .int .i64 a.z] 23)) := (HB2.trans (hb3.mono HB2.size)).alloc (Nat.le_trans HB2.size hb3.size) _; have x3_a : (w3.alloc (.cells #[.int .i64 a.x, .int .i64 a.y, .int .i64 a.z] 23)).heap[w.heap.size]? = some (.cells #[.int .i64 a.x, .int .i64 a.y, .int .i64 a.z] 23 (0, 0)) := (Below.heap_alloc _ _ _ (NBox.lt y_a)).trans y_a; have x3_b : (w3.alloc (.cells #[.int .i64 a.x, .int .i64 a.y, .int .i64 a.z] 23)).heap[w3.heap.size]? = some (.cells #[.int .i64 a.x, .int .i64 a.y, .int .i64 a.z] 23 (0, 0)) := heap_alloc_new _ _; clear hb3 HB2 x2_a y_a)
    | (refine load_wanted rfl 23 _ rfl _ rfl _ _ _ _ x3_a Tryd.underlying23 rfl (need_info _ rfl) ?_)
    | (refine load_wanted rfl 23 _ rfl _ rfl _ _ _ _ x3_b Tryd.underlying23 rfl (need_info _ rfl) ?_)
    | (go_at_call 10; refine (hR2 _ (hBT _ (by assumption)).1).mono ?_; rintro e w4 ⟨rfl, hb4⟩; clear hR2; have y_a : NBox w4 (w.heap.size) a := NBox.below (a := a) x3_a hb4 (NBox.lt (a := a) x3_a); have y_b : NBox w4 (w3.heap.size) a := NBox.below (a := a) x3_b hb4 (NBox.lt (a := a) x3_b); have HB4 : Below w.heap.size w (w4.alloc (.cells #[.int .i64 p.x, .int .i64 p.y, .int .i64 p.z] 23)) := (HB3.trans (hb4.mono HB3.size)).alloc (Nat.le_trans HB3.size hb4.size) _; have x4_a : (w4.alloc (.cells #[.int .i64 p.x, .int .i64 p.y, .int .i64 p.z] 23)).heap[w.heap.size]? = some (.cells #[.int .i64 a.x, .int .i64 a.y, .int .i64 a.z] 23 (0, 0)) := (Below.heap_alloc _ _ _ (NBox.lt y_a)).trans y_a; have x4_b : (w4.alloc (.cells #[.int .i64 p.x, .int .i64 p.y, .int .i64 p.z] 23)).heap[w3.heap.size]? = some (.cells #[.int .i64 a.x, .int .i64 a.y, .int .i64 a.z] 23 (0, 0)) := (Below.heap_alloc _ _ _ (NBox.lt y_b)).trans y_b; have x4_c : (w4.alloc (.cells #[.int .i64 p.x, .int .i64 p.y, .int .i64 p.z] 23)).heap[w4.heap.size]? = some (.cells #[.int .i64 p.x, .int .i64 p.y, .int .i64 p.z] 23 (0, 0)) := heap_alloc_new _ _; clear hb4 HB3 x3_a x3_b y_a y_b)
    | (refine load_wanted rfl 23 _ rfl _ rfl _ _ _ _ x4_c Tryd.underlying23 rfl (need_info _ rfl) ?_)
    | (go_at_call 9; refine (hT2 _ (hBT _ (by assumption))).mono ?_; rintro e w5 ⟨rfl, hb5⟩; clear hT2; have y_a : NBox w5 (w.heap.size) a := NBox.below (a := a) x4_a hb5 (NBox.lt (a := a) x4_a); have y_b : NBox w5 (w3.heap.size) a := NBox.below (a := a) x4_b hb5 (NBox.lt (a := a) x4_b); have y_c : NBox w5 (w4.heap.size) p := NBox.below (a := p) x4_c hb5 (NBox.lt (a := p) x4_c); have HB5 : Below w.heap.size w w5 := HB4.trans (hb5.mono HB4.size); have x5_a : w5.heap[w.heap.size]? = some (.cells #[.int .i64 a.x, .int .i64 a.y, .int .i64 a.z] 23 (0, 0)) := y_a; have x5_b : w5.heap[w3.heap.size]? = some (.cells #[.int .i64 a.x, .int .i64 a.y, .int .i64 a.z] 23 (0, 0)) := y_b; have x5_c : w5.heap[w4.heap.size]? = some (.cells #[.int .i64 p.x, .int .i64 p.y, .int .i64 p.z] 23 (0, 0)) := y_c; clear hb5 HB4 x4_a x4_b x4_c y_a y_b y_c)
    | go_in)
  go_ret
  exact ⟨by first | rfl | simp, HB5⟩

set_option maxHeartbeats 4000000 in
set_option maxRecDepth 100000 in
theorem needText_bad_no (a : N3) (s : ByteArray) (w : World) (hM : TabM w) (hP : TabP w) (hs : s.size ≤ maxLen) (ha : okN a = false) (ev : Int) (hev : (ev != 0) = true) (hR2 : ∀ w1, TabM w1 → Calls Tryd.prog 10 #[.string s] w1 fun e w' => e = .returned (.tuple #[(.agg #[.int .i64 0, .int .i64 0, .int .i64 0]), .int .i64 ev]) ∧ Below w1.heap.size w1 w') :
    Calls Tryd.prog 4 #[(.agg #[.int .i64 a.x, .int .i64 a.y, .int .i64 a.z]), .string s] w fun e w' => e = .returned (.bool true) ∧ Below w.heap.size w w' := by
  have x0_a : (w.alloc (.cells #[.int .i64 a.x, .int .i64 a.y, .int .i64 a.z] 23)).heap[w.heap.size]? = some (.cells #[.int .i64 a.x, .int .i64 a.y, .int .i64 a.z] 23 (0, 0)) := heap_alloc_new _ _
  have HB0 : Below w.heap.size w (w.alloc (.cells #[.int .i64 a.x, .int .i64 a.y, .int .i64 a.z] 23)) := (Below.refl _ _).alloc (Nat.le_refl _) _
  have hne := needs_any (w.alloc (.cells #[.int .i64 a.x, .int .i64 a.y, .int .i64 a.z] 23))
  have hBT : ∀ w1, Below w.heap.size w w1 → TabM w1 ∧ TabP w1 := fun w1 h => ⟨hM.below h (Nat.le_refl _), hP.below h⟩
  have hT1 : ∀ w1, Calls Tryd.prog 9 #[(.agg #[.int .i64 a.x, .int .i64 a.y, .int .i64 a.z])] w1 fun e w' => e = .returned (.tuple #[.string ⟨#[]⟩, .int .i64 4]) ∧ Below w1.heap.size w1 w' := fun w1 => Text_bad a w1 ha
  have heql := eqlN 0 0 0 0 0 0
  rw [show (decide ((0 : Int) = 0) && (decide ((0 : Int) = 0) && decide ((0 : Int) = 0))) = true from rfl] at heql
  clear hM hP hs ha
  go_enter Tryd.func4, Tryd.ntmps4
  go_wp2_with (first
    | (go_at_call 14; refine (hne).mono ?_; rintro e w1 ⟨rfl, hb1⟩; clear hne; have y_a : NBox w1 (w.heap.size) a := NBox.below (a := a) x0_a hb1 (NBox.lt (a := a) x0_a); have HB1 : Below w.heap.size w w1 := HB0.trans (hb1.mono HB0.size); have x1_a : w1.heap[w.heap.size]? = some (.cells #[.int .i64 a.x, .int .i64 a.y, .int .i64 a.z] 23 (0, 0)) := y_a; clear hb1 HB0 x0_a y_a)
    | (refine load_wanted rfl 23 _ rfl _ rfl _ _ _ _ x1_a Tryd.underlying23 rfl (need_info _ rfl) ?_)
    | (go_at_call 9; refine (hT1 _).mono ?_; rintro e w2 ⟨rfl, hb2⟩; clear hT1; have y_a : NBox w2 (w.heap.size) a := NBox.below (a := a) x1_a hb2 (NBox.lt (a := a) x1_a); have HB2 : Below w.heap.size w w2 := HB1.trans (hb2.mono HB1.size); have x2_a : w2.heap[w.heap.size]? = some (.cells #[.int .i64 a.x, .int .i64 a.y, .int .i64 a.z] 23 (0, 0)) := y_a; clear hb2 HB1 x1_a y_a)
    | (go_at_call 10; refine (hR2 _ (hBT _ (by assumption)).1).mono ?_; rintro e w3 ⟨rfl, hb3⟩; clear hR2; have y_a : NBox w3 (w.heap.size) a := NBox.below (a := a) x2_a hb3 (NBox.lt (a := a) x2_a); have HB3 : Below w.heap.size w (w3.alloc (.cells #[.int .i64 nz.x, .int .i64 nz.y, .int .i64 nz.z] 23)) := (HB2.trans (hb3.mono HB2.size)).alloc (Nat.le_trans HB2.size hb3.size) _; have x3_a : (w3.alloc (.cells #[.int .i64 nz.x, .int .i64 nz.y, .int .i64 nz.z] 23)).heap[w.heap.size]? = some (.cells #[.int .i64 a.x, .int .i64 a.y, .int .i64 a.z] 23 (0, 0)) := (Below.heap_alloc _ _ _ (NBox.lt y_a)).trans y_a; have x3_c : (w3.alloc (.cells #[.int .i64 nz.x, .int .i64 nz.y, .int .i64 nz.z] 23)).heap[w3.heap.size]? = some (.cells #[.int .i64 nz.x, .int .i64 nz.y, .int .i64 nz.z] 23 (0, 0)) := heap_alloc_new _ _; clear hb3 HB2 x2_a y_a)
    | (refine load_wanted rfl 23 _ rfl _ rfl _ _ _ _ x3_c Tryd.underlying23 rfl (need_info _ rfl) ?_)
    | go_in)
  go_ret
  exact ⟨by first | rfl | simp, HB3⟩

set_option maxHeartbeats 4000000 in
set_option maxRecDepth 100000 in
theorem needText_bad_yes (a : N3) (s : ByteArray) (w : World) (hM : TabM w) (hP : TabP w) (hs : s.size ≤ maxLen) (ha : okN a = false) (p : N3) (hp : okN p = true) (hps : txN p = s.data.toList) (hR2 : ∀ w1, TabM w1 → Calls Tryd.prog 10 #[.string s] w1 fun e w' => e = .returned (.tuple #[(.agg #[.int .i64 p.x, .int .i64 p.y, .int .i64 p.z]), .int .i64 0]) ∧ Below w1.heap.size w1 w') :
    Calls Tryd.prog 4 #[(.agg #[.int .i64 a.x, .int .i64 a.y, .int .i64 a.z]), .string s] w fun e w' => e = .returned (.bool true) ∧ Below w.heap.size w w' := by
  have x0_a : (w.alloc (.cells #[.int .i64 a.x, .int .i64 a.y, .int .i64 a.z] 23)).heap[w.heap.size]? = some (.cells #[.int .i64 a.x, .int .i64 a.y, .int .i64 a.z] 23 (0, 0)) := heap_alloc_new _ _
  have HB0 : Below w.heap.size w (w.alloc (.cells #[.int .i64 a.x, .int .i64 a.y, .int .i64 a.z] 23)) := (Below.refl _ _).alloc (Nat.le_refl _) _
  have hne := needs_any (w.alloc (.cells #[.int .i64 a.x, .int .i64 a.y, .int .i64 a.z] 23))
  have hBT : ∀ w1, Below w.heap.size w w1 → TabM w1 ∧ TabP w1 := fun w1 h => ⟨hM.below h (Nat.le_refl _), hP.below h⟩
  have hT1 : ∀ w1, Calls Tryd.prog 9 #[(.agg #[.int .i64 a.x, .int .i64 a.y, .int .i64 a.z])] w1 fun e w' => e = .returned (.tuple #[.string ⟨#[]⟩, .int .i64 4]) ∧ Below w1.heap.size w1 w' := fun w1 => Text_bad a w1 ha
  have hT2 : ∀ w1, TabM w1 ∧ TabP w1 → Calls Tryd.prog 9 #[(.agg #[.int .i64 p.x, .int .i64 p.y, .int .i64 p.z])] w1 fun e w' => e = .returned (.tuple #[.string s, .int .i64 0]) ∧ Below w1.heap.size w1 w' := fun w1 h => by
    have := Text_ok p w1 h.1 h.2 hp
    rw [hps] at this
    exact this
  clear hp hps
  clear hM hP hs ha
  go_enter Tryd.func4, Tryd.ntmps4
  go_wp2_with (first
    | (go_at_call 14; refine (hne).mono ?_; rintro e w1 ⟨rfl, hb1⟩; clear hne; have y_a : NBox w1 (w.heap.size) a := NBox.below (a := a) x0_a hb1 (NBox.lt (a := a) x0_a); have HB1 : Below w.heap.size w w1 := HB0.trans (hb1.mono HB0.size); have x1_a : w1.heap[w.heap.size]? = some (.cells #[.int .i64 a.x, .int .i64 a.y, .int .i64 a.z] 23 (0, 0)) := y_a; clear hb1 HB0 x0_a y_a)
    | (refine load_wanted rfl 23 _ rfl _ rfl _ _ _ _ x1_a Tryd.underlying23 rfl (need_info _ rfl) ?_)
    | (go_at_call 9; refine (hT1 _).mono ?_; rintro e w2 ⟨rfl, hb2⟩; clear hT1; have y_a : NBox w2 (w.heap.size) a := NBox.below (a := a) x1_a hb2 (NBox.lt (a := a) x1_a); have HB2 : Below w.heap.size w w2 := HB1.trans (hb2.mono HB1.size); have x2_a : w2.heap[w.heap.size]? = some (.cells #[.int .i64 a.x, .int .i64 a.y, .int .i64 a.z] 23 (0, 0)) := y_a; clear hb2 HB1 x1_a y_a)
    | (go_at_call 10; refine (hR2 _ (hBT _ (by assumption)).1).mono ?_; rintro e w3 ⟨rfl, hb3⟩; clear hR2; have y_a : NBox w3 (w.heap.size) a := NBox.below (a := a) x2_a hb3 (NBox.lt (a := a) x2_a); have HB3 : Below w.heap.size w (w3.alloc (.cells #[.int .i64 p.x, .int .i64 p.y, .int .i64 p.z] 23)) := (HB2.trans (hb3.mono HB2.size)).alloc (Nat.le_trans HB2.size hb3.size) _; have x3_a : (w3.alloc (.cells #[.int .i64 p.x, .int .i64 p.y, .int .i64 p.z] 23)).heap[w.heap.size]? = some (.cells #[.int .i64 a.x, .int .i64 a.y, .int .i64 a.z] 23 (0, 0)) := (Below.heap_alloc _ _ _ (NBox.lt y_a)).trans y_a; have x3_c : (w3.alloc (.cells #[.int .i64 p.x, .int .i64 p.y, .int .i64 p.z] 23)).heap[w3.heap.size]? = some (.cells #[.int .i64 p.x, .int .i64 p.y, .int .i64 p.z] 23 (0, 0)) := heap_alloc_new _ _; clear hb3 HB2 x2_a y_a)
    | (refine load_wanted rfl 23 _ rfl _ rfl _ _ _ _ x3_c Tryd.underlying23 rfl (need_info _ rfl) ?_)
    | (go_at_call 9; refine (hT2 _ (hBT _ (by assumption))).mono ?_; rintro e w4 ⟨rfl, hb4⟩; clear hT2; have y_a : NBox w4 (w.heap.size) a := NBox.below (a := a) x3_a hb4 (NBox.lt (a := a) x3_a); have y_c : NBox w4 (w3.heap.size) p := NBox.below (a := p) x3_c hb4 (NBox.lt (a := p) x3_c); have HB4 : Below w.heap.size w w4 := HB3.trans (hb4.mono HB3.size); have x4_a : w4.heap[w.heap.size]? = some (.cells #[.int .i64 a.x, .int .i64 a.y, .int .i64 a.z] 23 (0, 0)) := y_a; have x4_c : w4.heap[w3.heap.size]? = some (.cells #[.int .i64 p.x, .int .i64 p.y, .int .i64 p.z] 23 (0, 0)) := y_c; clear hb4 HB3 x3_a x3_c y_a y_c)
    | go_in)
  go_ret
  exact ⟨by first | rfl | simp, HB4⟩

/-- NeedText. -/
theorem needText_walk (a : N3) (s : ByteArray) (w : World) (hT : TabM w ∧ TabP w) (hs : s.size ≤ maxLen) : Calls Tryd.prog 4 #[(.agg #[.int .i64 a.x, .int .i64 a.y, .int .i64 a.z]), .string s] w fun e w' => e = .returned (.bool true) ∧ Below w.heap.size w w' := by
  obtain ⟨hM, hP⟩ := hT
  have hR := fun w1 h => Read_any s w1 h hs (rdN s.data.toList) rfl
  have hcs : (∃ ev : Int, (ev != 0) = true ∧ rV (rdN s.data.toList) = nz ∧ rE (rdN s.data.toList) = ev) ∨ ∃ p, okN p = true ∧ txN p = s.data.toList ∧ rV (rdN s.data.toList) = p ∧ rE (rdN s.data.toList) = 0 := by
    cases hr : rdN s.data.toList with
    | none => exact Or.inl ⟨3, rfl, rfl, rfl⟩
    | some p =>
      cases hp : okN p with
      | false => exact Or.inl ⟨4, rfl, by show (if okN p then p else nz) = nz; rw [hp]; rfl, by show ce (okN p) = 4; rw [hp]; rfl⟩
      | true => exact Or.inr ⟨p, hp, (txN_rdN hr).1, by show (if okN p then p else nz) = p; rw [hp]; rfl, by show ce (okN p) = 0; rw [hp]; rfl⟩
  rcases hcs with ⟨ev, hev, e1, e2⟩ | ⟨p, hp, hps, e1, e2⟩
  · rw [e1, e2] at hR
    cases ha : okN a with
    | true => exact needText_ok_no a s w hM hP hs ha ev hev hR
    | false => exact needText_bad_no a s w hM hP hs ha ev hev hR
  · rw [e1, e2] at hR
    cases ha : okN a with
    | true => exact needText_ok_yes a s w hM hP hs ha p hp hps hR
    | false => exact needText_bad_yes a s w hM hP hs ha p hp hps hR

end Go.Proofs.YtmhidmocmolgfaaDoor
