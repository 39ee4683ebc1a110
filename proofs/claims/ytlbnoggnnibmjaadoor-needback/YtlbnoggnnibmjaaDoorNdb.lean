/- NeedBack, walked. -/
import Derived.Test.YtlbnoggnnibmjaaDoorNds
namespace Go.Proofs.YtlbnoggnnibmjaaDoor
open Go.RowKit Ndm
set_option linter.unusedSectionVars false
set_option linter.unusedVariables false

/-- What is left, when one is taken off so often. -/
def lf (a b : N3) (j : Nat) : N3 := ⟨b.x - (j : Int) * a.x, b.y - (j : Int) * a.y, b.z - (j : Int) * a.z⟩
theorem lf_zero (a b : N3) : lf a b 0 = b := N3.ext' (by simp [lf]) (by simp [lf]) (by simp [lf])
theorem lf_succ (a b : N3) (j : Nat) : lf a b (j + 1) = subN (lf a b j) a := by
  refine N3.ext' ?_ ?_ ?_ <;> simp only [lf, subN, Int.natCast_add, Int.natCast_one, Int.add_mul, Int.one_mul] <;> omega
theorem div_le {x y n : Int} (hx : 0 < x) (h : n ≤ y / x) : n * x ≤ y := Int.le_trans (Int.mul_le_mul_of_nonneg_right h (by omega)) (Int.ediv_mul_le y (by omega))
theorem div_gt {x y n : Int} (hx : 0 < x) (h : y / x < n) : y < n * x := by
  have := Int.lt_ediv_add_one_mul_self y hx
  have h2 : (y / x + 1) * x ≤ n * x := Int.mul_le_mul_of_nonneg_right (by omega) (by omega)
  omega
theorem t1_le {s x y : Int} : t1 s x y ≤ s ∧ (x ≠ 0 → t1 s x y ≤ y / x) := by
  unfold t1
  split
  · exact ⟨Int.le_refl _, fun h => absurd ‹x = 0› h⟩
  · split
    · exact ⟨by omega, fun _ => Int.le_refl _⟩
    · exact ⟨Int.le_refl _, fun _ => by omega⟩
theorem t1_or {s x y : Int} : t1 s x y = s ∨ (x ≠ 0 ∧ t1 s x y = y / x) := by
  unfold t1
  split
  · exact Or.inl rfl
  · split
    · exact Or.inr ⟨‹_›, rfl⟩
    · exact Or.inl rfl
/-- So often it can be taken off, and no more often. -/
theorem tk_le {a b : N3} : (a.x ≠ 0 → tk a b 3 ≤ b.x / a.x) ∧ (a.y ≠ 0 → tk a b 3 ≤ b.y / a.y) ∧ (a.z ≠ 0 → tk a b 3 ≤ b.z / a.z) := by
  have h1 := t1_le (s := 1099511627776) (x := a.x) (y := b.x)
  have h2 := t1_le (s := t1 1099511627776 a.x b.x) (x := a.y) (y := b.y)
  have h3 := t1_le (s := t1 (t1 1099511627776 a.x b.x) a.y b.y) (x := a.z) (y := b.z)
  show (a.x ≠ 0 → t1 (t1 (t1 1099511627776 a.x b.x) a.y b.y) a.z b.z ≤ _) ∧ (a.y ≠ 0 → t1 (t1 (t1 1099511627776 a.x b.x) a.y b.y) a.z b.z ≤ _) ∧ (a.z ≠ 0 → t1 (t1 (t1 1099511627776 a.x b.x) a.y b.y) a.z b.z ≤ _)
  exact ⟨fun h => by have := h1.2 h; omega, fun h => by have := h2.2 h; omega, fun h => h3.2 h⟩
theorem tk_bd {a b : N3} (ha : okN a = true) (hb : okN b = true) : 0 ≤ tk a b 3 ∧ tk a b 3 ≤ 1099511627776 := by
  rw [okN_iff] at ha hb
  exact t1_bd (t1_bd (t1_bd ⟨by omega, Int.le_refl _⟩ ha.1.1 hb.1.1) ha.2.1.1 hb.2.1.1) ha.2.2.1 hb.2.2.1
theorem tk_why {a b : N3} : tk a b 3 = 1099511627776 ∨ (a.x ≠ 0 ∧ tk a b 3 = b.x / a.x) ∨ (a.y ≠ 0 ∧ tk a b 3 = b.y / a.y) ∨ (a.z ≠ 0 ∧ tk a b 3 = b.z / a.z) := by
  rcases t1_or (s := t1 (t1 1099511627776 a.x b.x) a.y b.y) (x := a.z) (y := b.z) with h3 | ⟨h, h3⟩
  · rcases t1_or (s := t1 1099511627776 a.x b.x) (x := a.y) (y := b.y) with h2 | ⟨h, h2⟩
    · rcases t1_or (s := 1099511627776) (x := a.x) (y := b.x) with h1 | ⟨h, h1⟩
      · exact Or.inl (h3.trans (h2.trans h1))
      · exact Or.inr (Or.inl ⟨h, h3.trans (h2.trans h1)⟩)
    · exact Or.inr (Or.inr (Or.inl ⟨h, h3.trans h2⟩))
  · exact Or.inr (Or.inr (Or.inr ⟨h, h3⟩))
theorem lf_ok {a b : N3} (ha : okN a = true) (hb : okN b = true) {j : Nat} (hj : (j : Int) ≤ tk a b 3) : okN (lf a b j) = true := by
  have h1 := okN_iff.1 ha
  have h2 := okN_iff.1 hb
  obtain ⟨t1, t2, t3⟩ := tk_le (a := a) (b := b)
  have key : ∀ x y : Int, 0 ≤ x → 0 ≤ y → y ≤ 1099511627776 → (x ≠ 0 → tk a b 3 ≤ y / x) → 0 ≤ y - (j : Int) * x ∧ y - (j : Int) * x ≤ 1099511627776 := by
    intro x y hx hy hm ht
    have hp : 0 ≤ (j : Int) * x := Int.mul_nonneg (by omega) hx
    by_cases e : x = 0
    · subst e; simp; omega
    · have := div_le (x := x) (y := y) (n := j) (by omega) (by have := ht e; omega)
      omega
  rw [okN_iff]
  exact ⟨key a.x b.x h1.1.1 h2.1.1 h2.1.2 t1, key a.y b.y h1.2.1.1 h2.2.1.1 h2.2.1.2 t2, key a.z b.z h1.2.2.1 h2.2.2.1 h2.2.2.2 t3⟩
theorem lf_fits {a b : N3} (ha : okN a = true) (hb : okN b = true) {j : Nat} (hj : (j : Int) < tk a b 3) : ftN a (lf a b j) = true := by
  have h := lf_ok ha hb (j := j + 1) (by omega)
  rw [lf_succ, okN_iff] at h
  rw [ftN_iff]
  simp only [subN] at h
  omega
theorem lf_not {a b : N3} (ha : okN a = true) (hb : okN b = true) {j : Nat} (hj : (j : Int) = tk a b 3) (hm : (j : Int) ≤ 40) : ftN a (lf a b j) = false := by
  have h1 := okN_iff.1 ha
  have key : ∀ x y : Int, 0 ≤ x → x ≠ 0 → (j : Int) = y / x → ¬ x ≤ y - (j : Int) * x := by
    intro x y hx e hd hle
    have := div_gt (x := x) (y := y) (n := (j : Int) + 1) (by omega) (by omega)
    rw [Int.add_mul, Int.one_mul] at this
    omega
  refine Bool.eq_false_iff.2 fun hf => ?_
  rw [ftN_iff] at hf
  simp only [lf] at hf
  rcases tk_why (a := a) (b := b) with h | ⟨h, e⟩ | ⟨h, e⟩ | ⟨h, e⟩
  · omega
  · exact key a.x b.x h1.1.1 h (hj.trans e) hf.1
  · exact key a.y b.y h1.2.1.1 h (hj.trans e) hf.2.1
  · exact key a.z b.z h1.2.2.1 h (hj.trans e) hf.2.2
theorem sR_ok {a b : N3} (h1 : okN a = true) (h2 : okN b = true) (h3 : ftN b a = true) : sR a b = subN a b ∧ sE a b = 0 := by
  unfold sR sE
  rw [h1, h2, h3]
  exact ⟨rfl, rfl⟩
theorem sR_no {a b : N3} (h1 : okN a = true) (h2 : okN b = true) (h3 : ftN b a = false) : sR a b = nz ∧ sE a b = 10 := by
  unfold sR sE
  rw [h1, h2, h3]
  exact ⟨rfl, rfl⟩
theorem sub_add (a b : N3) : subN (addN a b) b = a := N3.ext' (by show a.x + b.x - b.x = a.x; omega) (by show a.y + b.y - b.y = a.y; omega) (by show a.z + b.z - b.z = a.z; omega)
theorem ft_add {a b : N3} (h : okN a = true) : ftN b (addN a b) = true := by
  rw [okN_iff] at h
  rw [ftN_iff]
  simp only [addN]
  omega

theorem isZ_nz {a : N3} (h : isZ a = true) : a = nz := by
  simp only [isZ, Bool.and_eq_true, decide_eq_true_eq] at h
  exact N3.ext' h.1 h.2.1 h.2.2

set_option maxHeartbeats 4000000 in
set_option maxRecDepth 100000 in
theorem needBack_bad (a b : N3) (w : World) (hok : aE a b ≠ 0) : Calls Tryd.prog 5 #[(.agg #[.int .i64 a.x, .int .i64 a.y, .int .i64 a.z]), (.agg #[.int .i64 b.x, .int .i64 b.y, .int .i64 b.z])] w fun e w' => e = .returned (.bool true) ∧ Below w.heap.size w w' := by
  obtain ⟨x0_a, x0_b, HB0, hs⟩ := two_boxes w a b
  have hne := needs_any ((w.alloc (.cells #[.int .i64 a.x, .int .i64 a.y, .int .i64 a.z] 23)).alloc (.cells #[.int .i64 b.x, .int .i64 b.y, .int .i64 b.z] 23))
  have hsz := HB0.size
  have heq := eqlN
  have o4 := aR_nz hok
  have hA1 := fun w1 => Add_any a b w1
  rw [o4] at hA1
  have n1 : (aE a b != 0) = true := by simpa using hok
  have n2 : (aE a b == 0) = false := by simpa using hok
  clear hok o4
  generalize aE a b = e1 at *
  go_enter Tryd.func5, Tryd.ntmps5
  go_wp2_with (first
    | (go_at_call 13; refine (hne).mono ?_; rintro e w1 ⟨rfl, hb1⟩; clear hne; have y_a : NBox w1 (w.heap.size) a := NBox.below x0_a hb1 (NBox.lt x0_a); have y_b : NBox w1 (w.heap.size + 1) b := NBox.below x0_b hb1 (NBox.lt x0_b); have HB1 : Below w.heap.size w w1 := HB0.trans (hb1.mono HB0.size); have x1_a : w1.heap[w.heap.size]? = some (.cells #[.int .i64 a.x, .int .i64 a.y, .int .i64 a.z] 23 (0, 0)) := y_a; have x1_b : w1.heap[w.heap.size + 1]? = some (.cells #[.int .i64 b.x, .int .i64 b.y, .int .i64 b.z] 23 (0, 0)) := y_b; clear hb1 HB0 x0_a x0_b y_a y_b)
    | (refine load_wanted rfl 23 _ rfl _ rfl _ _ _ _ x1_a Tryd.underlying23 rfl (need_info _ rfl) ?_)
    | (refine load_wanted rfl 23 _ rfl _ rfl _ _ _ _ x1_b Tryd.underlying23 rfl (need_info _ rfl) ?_)
    | (go_at_call 14; refine (hA1 _).mono ?_; rintro e w2 ⟨rfl, hb2⟩; clear hA1; have y_a : NBox w2 (w.heap.size) a := NBox.below x1_a hb2 (NBox.lt x1_a); have y_b : NBox w2 (w.heap.size + 1) b := NBox.below x1_b hb2 (NBox.lt x1_b); have HB2 : Below w.heap.size w (w2.alloc (.cells #[.int .i64 nz.x, .int .i64 nz.y, .int .i64 nz.z] 23)) := (HB1.trans (hb2.mono HB1.size)).alloc (Nat.le_trans HB1.size hb2.size) _; have x2_a : (w2.alloc (.cells #[.int .i64 nz.x, .int .i64 nz.y, .int .i64 nz.z] 23)).heap[w.heap.size]? = some (.cells #[.int .i64 a.x, .int .i64 a.y, .int .i64 a.z] 23 (0, 0)) := (Below.heap_alloc _ _ _ (NBox.lt y_a)).trans y_a; have x2_b : (w2.alloc (.cells #[.int .i64 nz.x, .int .i64 nz.y, .int .i64 nz.z] 23)).heap[w.heap.size + 1]? = some (.cells #[.int .i64 b.x, .int .i64 b.y, .int .i64 b.z] 23 (0, 0)) := (Below.heap_alloc _ _ _ (NBox.lt y_b)).trans y_b; have x2_c : (w2.alloc (.cells #[.int .i64 nz.x, .int .i64 nz.y, .int .i64 nz.z] 23)).heap[w2.heap.size]? = some (.cells #[.int .i64 nz.x, .int .i64 nz.y, .int .i64 nz.z] 23 (0, 0)) := heap_alloc_new _ _; clear hb2 HB1 x1_a x1_b y_a y_b)
    | (refine load_wanted rfl 23 _ rfl _ rfl _ _ _ _ x2_c Tryd.underlying23 rfl (need_info _ rfl) ?_)
    | go_in)
  go_ret
  exact ⟨by first | rfl | simp, HB2⟩

set_option maxHeartbeats 4000000 in
set_option maxRecDepth 100000 in
theorem needBack_zero (b : N3) (w : World) (hok : aE nz b = 0) : Calls Tryd.prog 5 #[(.agg #[.int .i64 0, .int .i64 0, .int .i64 0]), (.agg #[.int .i64 b.x, .int .i64 b.y, .int .i64 b.z])] w fun e w' => e = .returned (.bool true) ∧ Below w.heap.size w w' := by
  obtain ⟨x0_a, x0_b, HB0, hs⟩ := two_boxes w nz b
  have hne := needs_any ((w.alloc (.cells #[.int .i64 nz.x, .int .i64 nz.y, .int .i64 nz.z] 23)).alloc (.cells #[.int .i64 b.x, .int .i64 b.y, .int .i64 b.z] 23))
  have hsz := HB0.size
  have heq := eqlN
  obtain ⟨o1, o2, o3, o4⟩ := aE_zero hok
  have s1 := sR_ok o3 o2 (ft_add o1)
  rw [sub_add] at s1
  have hA1 := fun w1 => Add_any nz b w1
  have hA2 := fun w1 => Sub_any (addN nz b) b w1
  have hA3 := fun w1 => Times_any nz b w1
  have e1 : tE nz b = 1 := by unfold tE; rw [o1, o2]; rfl
  have e2 : tV nz b = 0 := by unfold tV; rw [o1, o2]; rfl
  rw [o4, hok] at hA1
  rw [s1.1, s1.2] at hA2
  rw [e1, e2] at hA3
  clear hok o1 o2 o3 o4 s1 e1 e2
  generalize addN nz b = p at *
  go_enter Tryd.func5, Tryd.ntmps5
  go_wp2_with (first
    | (go_at_call 13; refine (hne).mono ?_; rintro e w1 ⟨rfl, hb1⟩; clear hne; have y_a : NBox w1 (w.heap.size) nz := NBox.below x0_a hb1 (NBox.lt x0_a); have y_b : NBox w1 (w.heap.size + 1) b := NBox.below x0_b hb1 (NBox.lt x0_b); have HB1 : Below w.heap.size w w1 := HB0.trans (hb1.mono HB0.size); have x1_a : w1.heap[w.heap.size]? = some (.cells #[.int .i64 nz.x, .int .i64 nz.y, .int .i64 nz.z] 23 (0, 0)) := y_a; have x1_b : w1.heap[w.heap.size + 1]? = some (.cells #[.int .i64 b.x, .int .i64 b.y, .int .i64 b.z] 23 (0, 0)) := y_b; clear hb1 HB0 x0_a x0_b y_a y_b)
    | (refine load_wanted rfl 23 _ rfl _ rfl _ _ _ _ x1_a Tryd.underlying23 rfl (need_info _ rfl) ?_)
    | (refine load_wanted rfl 23 _ rfl _ rfl _ _ _ _ x1_b Tryd.underlying23 rfl (need_info _ rfl) ?_)
    | (go_at_call 14; refine (hA1 _).mono ?_; rintro e w2 ⟨rfl, hb2⟩; clear hA1; have y_a : NBox w2 (w.heap.size) nz := NBox.below x1_a hb2 (NBox.lt x1_a); have y_b : NBox w2 (w.heap.size + 1) b := NBox.below x1_b hb2 (NBox.lt x1_b); have HB2 : Below w.heap.size w (w2.alloc (.cells #[.int .i64 p.x, .int .i64 p.y, .int .i64 p.z] 23)) := (HB1.trans (hb2.mono HB1.size)).alloc (Nat.le_trans HB1.size hb2.size) _; have x2_a : (w2.alloc (.cells #[.int .i64 p.x, .int .i64 p.y, .int .i64 p.z] 23)).heap[w.heap.size]? = some (.cells #[.int .i64 nz.x, .int .i64 nz.y, .int .i64 nz.z] 23 (0, 0)) := (Below.heap_alloc _ _ _ (NBox.lt y_a)).trans y_a; have x2_b : (w2.alloc (.cells #[.int .i64 p.x, .int .i64 p.y, .int .i64 p.z] 23)).heap[w.heap.size + 1]? = some (.cells #[.int .i64 b.x, .int .i64 b.y, .int .i64 b.z] 23 (0, 0)) := (Below.heap_alloc _ _ _ (NBox.lt y_b)).trans y_b; have x2_c : (w2.alloc (.cells #[.int .i64 p.x, .int .i64 p.y, .int .i64 p.z] 23)).heap[w2.heap.size]? = some (.cells #[.int .i64 p.x, .int .i64 p.y, .int .i64 p.z] 23 (0, 0)) := heap_alloc_new _ _; clear hb2 HB1 x1_a x1_b y_a y_b)
    | (refine load_wanted rfl 23 _ rfl _ rfl _ _ _ _ x2_c Tryd.underlying23 rfl (need_info _ rfl) ?_)
    | (refine load_wanted rfl 23 _ rfl _ rfl _ _ _ _ x2_b Tryd.underlying23 rfl (need_info _ rfl) ?_)
    | (go_at_call 16; refine (hA2 _).mono ?_; rintro e w3 ⟨rfl, hb3⟩; clear hA2; have y_a : NBox w3 (w.heap.size) nz := NBox.below x2_a hb3 (NBox.lt x2_a); have y_b : NBox w3 (w.heap.size + 1) b := NBox.below x2_b hb3 (NBox.lt x2_b); have y_c : NBox w3 (w2.heap.size) p := NBox.below x2_c hb3 (NBox.lt x2_c); have HB3 : Below w.heap.size w (w3.alloc (.cells #[.int .i64 nz.x, .int .i64 nz.y, .int .i64 nz.z] 23)) := (HB2.trans (hb3.mono HB2.size)).alloc (Nat.le_trans HB2.size hb3.size) _; have x3_a : (w3.alloc (.cells #[.int .i64 nz.x, .int .i64 nz.y, .int .i64 nz.z] 23)).heap[w.heap.size]? = some (.cells #[.int .i64 nz.x, .int .i64 nz.y, .int .i64 nz.z] 23 (0, 0)) := (Below.heap_alloc _ _ _ (NBox.lt y_a)).trans y_a; have x3_b : (w3.alloc (.cells #[.int .i64 nz.x, .int .i64 nz.y, .int .i64 nz.z] 23)).heap[w.heap.size + 1]? = some (.cells #[.int .i64 b.x, .int .i64 b.y, .int .i64 b.z] 23 (0, 0)) := (Below.heap_alloc _ _ _ (NBox.lt y_b)).trans y_b; have x3_c : (w3.alloc (.cells #[.int .i64 nz.x, .int .i64 nz.y, .int .i64 nz.z] 23)).heap[w2.heap.size]? = some (.cells #[.int .i64 p.x, .int .i64 p.y, .int .i64 p.z] 23 (0, 0)) := (Below.heap_alloc _ _ _ (NBox.lt y_c)).trans y_c; have x3_d : (w3.alloc (.cells #[.int .i64 nz.x, .int .i64 nz.y, .int .i64 nz.z] 23)).heap[w3.heap.size]? = some (.cells #[.int .i64 nz.x, .int .i64 nz.y, .int .i64 nz.z] 23 (0, 0)) := heap_alloc_new _ _; clear hb3 HB2 x2_a x2_b x2_c y_a y_b y_c)
    | (refine load_wanted rfl 23 _ rfl _ rfl _ _ _ _ x3_a Tryd.underlying23 rfl (need_info _ rfl) ?_)
    | (refine load_wanted rfl 23 _ rfl _ rfl _ _ _ _ x3_b Tryd.underlying23 rfl (need_info _ rfl) ?_)
    | (go_at_call 17; refine (hA3 _).mono ?_; rintro e w4 ⟨rfl, hb4⟩; clear hA3; have y_a : NBox w4 (w.heap.size) nz := NBox.below x3_a hb4 (NBox.lt x3_a); have y_b : NBox w4 (w.heap.size + 1) b := NBox.below x3_b hb4 (NBox.lt x3_b); have y_c : NBox w4 (w2.heap.size) p := NBox.below x3_c hb4 (NBox.lt x3_c); have y_d : NBox w4 (w3.heap.size) nz := NBox.below x3_d hb4 (NBox.lt x3_d); have HB4 : Below w.heap.size w w4 := HB3.trans (hb4.mono HB3.size); have x4_a : w4.heap[w.heap.size]? = some (.cells #[.int .i64 nz.x, .int .i64 nz.y, .int .i64 nz.z] 23 (0, 0)) := y_a; have x4_b : w4.heap[w.heap.size + 1]? = some (.cells #[.int .i64 b.x, .int .i64 b.y, .int .i64 b.z] 23 (0, 0)) := y_b; have x4_c : w4.heap[w2.heap.size]? = some (.cells #[.int .i64 p.x, .int .i64 p.y, .int .i64 p.z] 23 (0, 0)) := y_c; have x4_d : w4.heap[w3.heap.size]? = some (.cells #[.int .i64 nz.x, .int .i64 nz.y, .int .i64 nz.z] 23 (0, 0)) := y_d; clear hb4 HB3 x3_a x3_b x3_c x3_d y_a y_b y_c y_d)
    | (refine load_wanted rfl 23 _ rfl _ rfl _ _ _ _ x4_d Tryd.underlying23 rfl (need_info _ rfl) ?_)
    | (refine load_wanted rfl 23 _ rfl _ rfl _ _ _ _ x4_a Tryd.underlying23 rfl (need_info _ rfl) ?_)
    | go_in)
  go_ret
  exact ⟨by first | rfl | simp, HB4⟩

set_option maxHeartbeats 8000000 in
set_option maxRecDepth 100000 in
theorem needBack_good (a b : N3) (w : World) (hok : aE a b = 0) (hz : isZ a = false) : Calls Tryd.prog 5 #[(.agg #[.int .i64 a.x, .int .i64 a.y, .int .i64 a.z]), (.agg #[.int .i64 b.x, .int .i64 b.y, .int .i64 b.z])] w fun e w' => e = .returned (.bool true) ∧ Below w.heap.size w w' := by
  obtain ⟨x0_a, x0_b, HB0, hs⟩ := two_boxes w a b
  have hne := needs_any ((w.alloc (.cells #[.int .i64 a.x, .int .i64 a.y, .int .i64 a.z] 23)).alloc (.cells #[.int .i64 b.x, .int .i64 b.y, .int .i64 b.z] 23))
  have hsz := HB0.size
  have heq := eqlN
  obtain ⟨o1, o2, o3, o4⟩ := aE_zero hok
  have s1 := sR_ok o3 o2 (ft_add o1)
  rw [sub_add] at s1
  have hA1 := fun w1 => Add_any a b w1
  have hA2 := fun w1 => Sub_any (addN a b) b w1
  have hA3 := fun w1 => Times_any a b w1
  have e1 : tE a b = 0 := by unfold tE; rw [o1, o2, hz]; rfl
  have e2 : tV a b = tk a b 3 := by unfold tV; rw [o1, o2, hz]; rfl
  rw [o4, hok] at hA1
  rw [s1.1, s1.2] at hA2
  rw [e1, e2] at hA3
  have hbd := tk_bd o1 o2
  obtain ⟨N, hN⟩ : ∃ N : Nat, tk a b 3 = N := ⟨(tk a b 3).toNat, by omega⟩
  have hNb : N ≤ 1099511627776 := by omega
  have hlo : Hid (∀ j : Nat, j ≤ N → okN (lf a b j) = true) := fun j hj => lf_ok o1 o2 (by omega)
  have hlf : Hid (∀ j : Nat, j < N → ftN a (lf a b j) = true) := fun j hj => lf_fits o1 o2 (by omega)
  have hln : Hid (N ≤ 40 → ftN a (lf a b N) = false) := fun hj => lf_not o1 o2 hN.symm (by omega)
  have hoa : Hid (okN a = true) := o1
  rw [hN] at hA3
  clear hok o1 o2 o3 o4 s1 e1 e2 hbd hN hz
  generalize addN a b = p at *
  by_cases h40 : N ≤ 40
  · have hq1 : (N : Int) ≤ 40 := by omega
    have hq2 : ¬ (40 : Int) < (N : Int) := by omega
    go_enter Tryd.func5, Tryd.ntmps5
    go_wp2_with (first
          | (go_at_call 13; refine (hne).mono ?_; rintro e w1 ⟨rfl, hb1⟩; clear hne; have y_a : NBox w1 (w.heap.size) a := NBox.below x0_a hb1 (NBox.lt x0_a); have y_b : NBox w1 (w.heap.size + 1) b := NBox.below x0_b hb1 (NBox.lt x0_b); have HB1 : Below w.heap.size w w1 := HB0.trans (hb1.mono HB0.size); have x1_a : w1.heap[w.heap.size]? = some (.cells #[.int .i64 a.x, .int .i64 a.y, .int .i64 a.z] 23 (0, 0)) := y_a; have x1_b : w1.heap[w.heap.size + 1]? = some (.cells #[.int .i64 b.x, .int .i64 b.y, .int .i64 b.z] 23 (0, 0)) := y_b; clear hb1 HB0 x0_a x0_b y_a y_b)
          | (refine load_wanted rfl 23 _ rfl _ rfl _ _ _ _ x1_a Tryd.underlying23 rfl (need_info _ rfl) ?_)
          | (refine load_wanted rfl 23 _ rfl _ rfl _ _ _ _ x1_b Tryd.underlying23 rfl (need_info _ rfl) ?_)
          | (go_at_call 14; refine (hA1 _).mono ?_; rintro e w2 ⟨rfl, hb2⟩; clear hA1; have y_a : NBox w2 (w.heap.size) a := NBox.below x1_a hb2 (NBox.lt x1_a); have y_b : NBox w2 (w.heap.size + 1) b := NBox.below x1_b hb2 (NBox.lt x1_b); have HB2 : Below w.heap.size w (w2.alloc (.cells #[.int .i64 p.x, .int .i64 p.y, .int .i64 p.z] 23)) := (HB1.trans (hb2.mono HB1.size)).alloc (Nat.le_trans HB1.size hb2.size) _; have x2_a : (w2.alloc (.cells #[.int .i64 p.x, .int .i64 p.y, .int .i64 p.z] 23)).heap[w.heap.size]? = some (.cells #[.int .i64 a.x, .int .i64 a.y, .int .i64 a.z] 23 (0, 0)) := (Below.heap_alloc _ _ _ (NBox.lt y_a)).trans y_a; have x2_b : (w2.alloc (.cells #[.int .i64 p.x, .int .i64 p.y, .int .i64 p.z] 23)).heap[w.heap.size + 1]? = some (.cells #[.int .i64 b.x, .int .i64 b.y, .int .i64 b.z] 23 (0, 0)) := (Below.heap_alloc _ _ _ (NBox.lt y_b)).trans y_b; have x2_c : (w2.alloc (.cells #[.int .i64 p.x, .int .i64 p.y, .int .i64 p.z] 23)).heap[w2.heap.size]? = some (.cells #[.int .i64 p.x, .int .i64 p.y, .int .i64 p.z] 23 (0, 0)) := heap_alloc_new _ _; clear hb2 HB1 x1_a x1_b y_a y_b)
          | (refine load_wanted rfl 23 _ rfl _ rfl _ _ _ _ x2_c Tryd.underlying23 rfl (need_info _ rfl) ?_)
          | (refine load_wanted rfl 23 _ rfl _ rfl _ _ _ _ x2_b Tryd.underlying23 rfl (need_info _ rfl) ?_)
          | (go_at_call 16; refine (hA2 _).mono ?_; rintro e w3 ⟨rfl, hb3⟩; clear hA2; have y_a : NBox w3 (w.heap.size) a := NBox.below x2_a hb3 (NBox.lt x2_a); have y_b : NBox w3 (w.heap.size + 1) b := NBox.below x2_b hb3 (NBox.lt x2_b); have y_c : NBox w3 (w2.heap.size) p := NBox.below x2_c hb3 (NBox.lt x2_c); have HB3 : Below w.heap.size w (w3.alloc (.cells #[.int .i64 a.x, .int .i64 a.y, .int .i64 a.z] 23)) := (HB2.trans (hb3.mono HB2.size)).alloc (Nat.le_trans HB2.size hb3.size) _; have x3_a : (w3.alloc (.cells #[.int .i64 a.x, .int .i64 a.y, .int .i64 a.z] 23)).heap[w.heap.size]? = some (.cells #[.int .i64 a.x, .int .i64 a.y, .int .i64 a.z] 23 (0, 0)) := (Below.heap_alloc _ _ _ (NBox.lt y_a)).trans y_a; have x3_b : (w3.alloc (.cells #[.int .i64 a.x, .int .i64 a.y, .int .i64 a.z] 23)).heap[w.heap.size + 1]? = some (.cells #[.int .i64 b.x, .int .i64 b.y, .int .i64 b.z] 23 (0, 0)) := (Below.heap_alloc _ _ _ (NBox.lt y_b)).trans y_b; have x3_c : (w3.alloc (.cells #[.int .i64 a.x, .int .i64 a.y, .int .i64 a.z] 23)).heap[w2.heap.size]? = some (.cells #[.int .i64 p.x, .int .i64 p.y, .int .i64 p.z] 23 (0, 0)) := (Below.heap_alloc _ _ _ (NBox.lt y_c)).trans y_c; have x3_d : (w3.alloc (.cells #[.int .i64 a.x, .int .i64 a.y, .int .i64 a.z] 23)).heap[w3.heap.size]? = some (.cells #[.int .i64 a.x, .int .i64 a.y, .int .i64 a.z] 23 (0, 0)) := heap_alloc_new _ _; clear hb3 HB2 x2_a x2_b x2_c y_a y_b y_c)
          | (refine load_wanted rfl 23 _ rfl _ rfl _ _ _ _ x3_a Tryd.underlying23 rfl (need_info _ rfl) ?_)
          | (refine load_wanted rfl 23 _ rfl _ rfl _ _ _ _ x3_b Tryd.underlying23 rfl (need_info _ rfl) ?_)
          | (go_at_call 17; refine (hA3 _).mono ?_; rintro e w4 ⟨rfl, hb4⟩; clear hA3; have y_a : NBox w4 (w.heap.size) a := NBox.below x3_a hb4 (NBox.lt x3_a); have y_b : NBox w4 (w.heap.size + 1) b := NBox.below x3_b hb4 (NBox.lt x3_b); have y_c : NBox w4 (w2.heap.size) p := NBox.below x3_c hb4 (NBox.lt x3_c); have y_d : NBox w4 (w3.heap.size) a := NBox.below x3_d hb4 (NBox.lt x3_d); have HB4 : Below w.heap.size w w4 := HB3.trans (hb4.mono HB3.size); have x4_a : w4.heap[w.heap.size]? = some (.cells #[.int .i64 a.x, .int .i64 a.y, .int .i64 a.z] 23 (0, 0)) := y_a; have x4_b : w4.heap[w.heap.size + 1]? = some (.cells #[.int .i64 b.x, .int .i64 b.y, .int .i64 b.z] 23 (0, 0)) := y_b; have x4_c : w4.heap[w2.heap.size]? = some (.cells #[.int .i64 p.x, .int .i64 p.y, .int .i64 p.z] 23 (0, 0)) := y_c; have x4_d : w4.heap[w3.heap.size]? = some (.cells #[.int .i64 a.x, .int .i64 a.y, .int .i64 a.z] 23 (0, 0)) := y_d; clear hb4 HB3 x3_a x3_b x3_c x3_d y_a y_b y_c y_d)
          | (refine load_wanted rfl 23 _ rfl _ rfl _ _ _ _ x4_b Tryd.underlying23 rfl (need_info _ rfl) ?_)
          | go_in)
    have k_a : Hid (NBox (w4.alloc (.cells #[.int .i64 b.x, .int .i64 b.y, .int .i64 b.z] 23)) w.heap.size a) := (Below.heap_alloc _ _ _ (NBox.lt x4_a)).trans x4_a
    have k_d : Hid (NBox (w4.alloc (.cells #[.int .i64 b.x, .int .i64 b.y, .int .i64 b.z] 23)) w3.heap.size a) := (Below.heap_alloc _ _ _ (NBox.lt x4_d)).trans x4_d
    have k_l : Hid (NBox (w4.alloc (.cells #[.int .i64 b.x, .int .i64 b.y, .int .i64 b.z] 23)) w4.heap.size (lf a b 0)) := by rw [lf_zero]; exact heap_alloc_new _ _
    have HB5 : Hid (Below w.heap.size w (w4.alloc (.cells #[.int .i64 b.x, .int .i64 b.y, .int .i64 b.z] 23))) := HB4.alloc HB4.size _
    have hg1 : Hid (w.heap.size < w4.heap.size) := NBox.lt x4_a
    have hg2 : Hid (w3.heap.size < w4.heap.size) := NBox.lt x4_d
    clear x4_a x4_b x4_c x4_d HB4
    generalize w4.alloc (.cells #[.int .i64 b.x, .int .i64 b.y, .int .i64 b.z] 23) = w5 at *
    generalize w4.heap.size = gl at *
    generalize w3.heap.size = gd at *
    go_loopw [12, 57] (fun hv iv wr => ∃ j : Nat, iv = .int .i64 j ∧ hv = .int .i64 0 ∧ j ≤ N ∧ NBox wr w.heap.size a ∧ NBox wr gd a ∧ NBox wr gl (lf a b j) ∧ Below w.heap.size w wr)
      (fun _ iv _ => N - (intOf iv).toNat)
    case atStart => exact ⟨0, rfl, rfl, by omega, k_a.out, k_d.out, k_l.out, HB5.out⟩
    case round =>
      obtain ⟨j, rfl, rfl, hjM, y_a, y_d, y_l, hbl⟩ := hrel
      have HBr : Hid (Below w.heap.size w wr) := hbl
      by_cases hj : j < N
      · have hji : (j : Int) < (N : Int) := by omega
        obtain ⟨r1, r2⟩ := sR_ok (hlo.out j (by omega)) hoa.out (hlf.out j (by omega))
        rw [← lf_succ] at r1
        have hS := fun w1 => Sub_any (lf a b j) a w1
        rw [r1, r2] at hS
        have hj2 : Hid (j ≤ 10000000000000) := by show _ ≤ _; omega
        have z_a : wr.heap[w.heap.size]? = some (.cells #[.int .i64 a.x, .int .i64 a.y, .int .i64 a.z] 23 (0, 0)) := y_a
        have z_dH : Hid (NBox wr gd a) := y_d
        generalize lf a b j = t0 at *
        obtain ⟨t1', ht1⟩ : ∃ t, lf a b (j + 1) = t := ⟨_, rfl⟩
        have ht1H : Hid (lf a b (j + 1) = t1') := ht1
        rw [ht1] at hS
        clear ht1
        have z_l : wr.heap[gl]? = some (.cells #[.int .i64 t0.x, .int .i64 t0.y, .int .i64 t0.z] 23 (0, 0)) := y_l
        clear y_a y_d y_l hbl r1 r2
        go_wp2_with (first
          | (refine load_wanted rfl 23 _ rfl _ rfl _ _ _ _ z_l Tryd.underlying23 rfl (need_info _ rfl) ?_)
          | (refine load_wanted rfl 23 _ rfl _ rfl _ _ _ _ z_a Tryd.underlying23 rfl (need_info _ rfl) ?_)
          | (go_at_call 16; refine (hS _).mono ?_; rintro e w6 ⟨rfl, hb6⟩; clear hS; have q_a : NBox w6 w.heap.size a := NBox.below z_a hb6 (NBox.lt z_a); have q_d : NBox w6 gd a := NBox.below z_dH.out hb6 (NBox.lt z_dH.out); have q_l : w6.heap[gl]? = some (.cells #[.int .i64 t0.x, .int .i64 t0.y, .int .i64 t0.z] 23 (0, 0)) := NBox.below z_l hb6 (NBox.lt z_l); have HB6 : Below w.heap.size w w6 := HBr.out.trans (hb6.mono HBr.out.size); clear z_l z_a hb6)
          | (refine wpList_store_row rfl 23 _ _ rfl _ #[.int .i64 t1'.x, .int .i64 t1'.y, .int .i64 t1'.z] rfl rfl _ _ q_l (need_info _ rfl) rfl (need_one _ _ _) ?_)
          | go_in)
        refine ⟨⟨j + 1, ?_, rfl, by omega, ?_, ?_, by rw [ht1H.out]; exact setRow_heap _ gl _ _ _ _ q_l, below_row HB6 (Nat.le_of_lt hg1.out)⟩, ?_⟩
        · first | exact int_succ j | exact int_wsuccB hj2.out
        · exact (setRow_other _ gl w.heap.size _ (by have := hg1.out; omega)).trans q_a
        · exact (setRow_other _ gl gd _ (by have := hg2.out; omega)).trans q_d
        · first | exact meas_1 hj | exact meas_wB hj hj2.out
      · have hji : ¬ (j : Int) < (N : Int) := by omega
        have hjm : N = j := by omega
        subst hjm
        have hS := fun w1 => Sub_any (lf a b N) a w1
        have hlast : Hid ((N : Int) ≤ 40 → (N : Int) ≤ 40 → sE (lf a b N) a = 10) := fun _ h7 => (sR_no (hlo.out N (Nat.le_refl _)) hoa.out (hln.out (by omega))).2
        have z_a : wr.heap[w.heap.size]? = some (.cells #[.int .i64 a.x, .int .i64 a.y, .int .i64 a.z] 23 (0, 0)) := y_a
        have z_d : wr.heap[gd]? = some (.cells #[.int .i64 a.x, .int .i64 a.y, .int .i64 a.z] 23 (0, 0)) := y_d
        generalize sE (lf a b N) a = ev at *
        generalize sR (lf a b N) a = tv at *
        generalize lf a b N = t0 at *
        have z_l : wr.heap[gl]? = some (.cells #[.int .i64 t0.x, .int .i64 t0.y, .int .i64 t0.z] 23 (0, 0)) := y_l
        have hev : (40 : Int) < (N : Int) ∨ (ev == 10) = true := by
          by_cases h7 : (N : Int) ≤ 40
          · right; rw [hlast.out (by omega) h7]; rfl
          · left; omega
        clear y_a y_d y_l hbl hlast
        have hev2 : (ev == 10) = true := hev.resolve_left (by omega)
        clear hev
        go_wp2_with (first
          | (refine load_wanted rfl 23 _ rfl _ rfl _ _ _ _ z_l Tryd.underlying23 rfl (need_info _ rfl) ?_)
          | (refine load_wanted rfl 23 _ rfl _ rfl _ _ _ _ z_a Tryd.underlying23 rfl (need_info _ rfl) ?_)
          | (go_at_call 16; refine (hS _).mono ?_; rintro e w6 ⟨rfl, hb6⟩; clear hS; have q_a0 : NBox w6 w.heap.size a := NBox.below z_a hb6 (NBox.lt z_a); have q_d0 : NBox w6 gd a := NBox.below z_d hb6 (NBox.lt z_d); have q_a : (w6.alloc (.cells #[.int .i64 tv.x, .int .i64 tv.y, .int .i64 tv.z] 23)).heap[w.heap.size]? = some (.cells #[.int .i64 a.x, .int .i64 a.y, .int .i64 a.z] 23 (0, 0)) := (Below.heap_alloc _ _ _ (NBox.lt q_a0)).trans q_a0; have q_d : (w6.alloc (.cells #[.int .i64 tv.x, .int .i64 tv.y, .int .i64 tv.z] 23)).heap[gd]? = some (.cells #[.int .i64 a.x, .int .i64 a.y, .int .i64 a.z] 23 (0, 0)) := (Below.heap_alloc _ _ _ (NBox.lt q_d0)).trans q_d0; have HB7 : Below w.heap.size w (w6.alloc (.cells #[.int .i64 tv.x, .int .i64 tv.y, .int .i64 tv.z] 23)) := (HBr.out.trans (hb6.mono HBr.out.size)).alloc (Nat.le_trans HBr.out.size hb6.size) _; clear z_l z_a z_d hb6 q_a0 q_d0)
          | (refine load_wanted rfl 23 _ rfl _ rfl _ _ _ _ q_d Tryd.underlying23 rfl (need_info _ rfl) ?_)
          | (refine load_wanted rfl 23 _ rfl _ rfl _ _ _ _ q_a Tryd.underlying23 rfl (need_info _ rfl) ?_)
          | go_in)
        go_ret
        exact ⟨by first | rfl | simp, HB7⟩
  · have hq1 : (40 : Int) < (N : Int) := by omega
    have hq2 : ¬ (N : Int) ≤ 40 := by omega
    go_enter Tryd.func5, Tryd.ntmps5
    go_wp2_with (first
          | (go_at_call 13; refine (hne).mono ?_; rintro e w1 ⟨rfl, hb1⟩; clear hne; have y_a : NBox w1 (w.heap.size) a := NBox.below x0_a hb1 (NBox.lt x0_a); have y_b : NBox w1 (w.heap.size + 1) b := NBox.below x0_b hb1 (NBox.lt x0_b); have HB1 : Below w.heap.size w w1 := HB0.trans (hb1.mono HB0.size); have x1_a : w1.heap[w.heap.size]? = some (.cells #[.int .i64 a.x, .int .i64 a.y, .int .i64 a.z] 23 (0, 0)) := y_a; have x1_b : w1.heap[w.heap.size + 1]? = some (.cells #[.int .i64 b.x, .int .i64 b.y, .int .i64 b.z] 23 (0, 0)) := y_b; clear hb1 HB0 x0_a x0_b y_a y_b)
          | (refine load_wanted rfl 23 _ rfl _ rfl _ _ _ _ x1_a Tryd.underlying23 rfl (need_info _ rfl) ?_)
          | (refine load_wanted rfl 23 _ rfl _ rfl _ _ _ _ x1_b Tryd.underlying23 rfl (need_info _ rfl) ?_)
          | (go_at_call 14; refine (hA1 _).mono ?_; rintro e w2 ⟨rfl, hb2⟩; clear hA1; have y_a : NBox w2 (w.heap.size) a := NBox.below x1_a hb2 (NBox.lt x1_a); have y_b : NBox w2 (w.heap.size + 1) b := NBox.below x1_b hb2 (NBox.lt x1_b); have HB2 : Below w.heap.size w (w2.alloc (.cells #[.int .i64 p.x, .int .i64 p.y, .int .i64 p.z] 23)) := (HB1.trans (hb2.mono HB1.size)).alloc (Nat.le_trans HB1.size hb2.size) _; have x2_a : (w2.alloc (.cells #[.int .i64 p.x, .int .i64 p.y, .int .i64 p.z] 23)).heap[w.heap.size]? = some (.cells #[.int .i64 a.x, .int .i64 a.y, .int .i64 a.z] 23 (0, 0)) := (Below.heap_alloc _ _ _ (NBox.lt y_a)).trans y_a; have x2_b : (w2.alloc (.cells #[.int .i64 p.x, .int .i64 p.y, .int .i64 p.z] 23)).heap[w.heap.size + 1]? = some (.cells #[.int .i64 b.x, .int .i64 b.y, .int .i64 b.z] 23 (0, 0)) := (Below.heap_alloc _ _ _ (NBox.lt y_b)).trans y_b; have x2_c : (w2.alloc (.cells #[.int .i64 p.x, .int .i64 p.y, .int .i64 p.z] 23)).heap[w2.heap.size]? = some (.cells #[.int .i64 p.x, .int .i64 p.y, .int .i64 p.z] 23 (0, 0)) := heap_alloc_new _ _; clear hb2 HB1 x1_a x1_b y_a y_b)
          | (refine load_wanted rfl 23 _ rfl _ rfl _ _ _ _ x2_c Tryd.underlying23 rfl (need_info _ rfl) ?_)
          | (refine load_wanted rfl 23 _ rfl _ rfl _ _ _ _ x2_b Tryd.underlying23 rfl (need_info _ rfl) ?_)
          | (go_at_call 16; refine (hA2 _).mono ?_; rintro e w3 ⟨rfl, hb3⟩; clear hA2; have y_a : NBox w3 (w.heap.size) a := NBox.below x2_a hb3 (NBox.lt x2_a); have y_b : NBox w3 (w.heap.size + 1) b := NBox.below x2_b hb3 (NBox.lt x2_b); have y_c : NBox w3 (w2.heap.size) p := NBox.below x2_c hb3 (NBox.lt x2_c); have HB3 : Below w.heap.size w (w3.alloc (.cells #[.int .i64 a.x, .int .i64 a.y, .int .i64 a.z] 23)) := (HB2.trans (hb3.mono HB2.size)).alloc (Nat.le_trans HB2.size hb3.size) _; have x3_a : (w3.alloc (.cells #[.int .i64 a.x, .int .i64 a.y, .int .i64 a.z] 23)).heap[w.heap.size]? = some (.cells #[.int .i64 a.x, .int .i64 a.y, .int .i64 a.z] 23 (0, 0)) := (Below.heap_alloc _ _ _ (NBox.lt y_a)).trans y_a; have x3_b : (w3.alloc (.cells #[.int .i64 a.x, .int .i64 a.y, .int .i64 a.z] 23)).heap[w.heap.size + 1]? = some (.cells #[.int .i64 b.x, .int .i64 b.y, .int .i64 b.z] 23 (0, 0)) := (Below.heap_alloc _ _ _ (NBox.lt y_b)).trans y_b; have x3_c : (w3.alloc (.cells #[.int .i64 a.x, .int .i64 a.y, .int .i64 a.z] 23)).heap[w2.heap.size]? = some (.cells #[.int .i64 p.x, .int .i64 p.y, .int .i64 p.z] 23 (0, 0)) := (Below.heap_alloc _ _ _ (NBox.lt y_c)).trans y_c; have x3_d : (w3.alloc (.cells #[.int .i64 a.x, .int .i64 a.y, .int .i64 a.z] 23)).heap[w3.heap.size]? = some (.cells #[.int .i64 a.x, .int .i64 a.y, .int .i64 a.z] 23 (0, 0)) := heap_alloc_new _ _; clear hb3 HB2 x2_a x2_b x2_c y_a y_b y_c)
          | (refine load_wanted rfl 23 _ rfl _ rfl _ _ _ _ x3_a Tryd.underlying23 rfl (need_info _ rfl) ?_)
          | (refine load_wanted rfl 23 _ rfl _ rfl _ _ _ _ x3_b Tryd.underlying23 rfl (need_info _ rfl) ?_)
          | (go_at_call 17; refine (hA3 _).mono ?_; rintro e w4 ⟨rfl, hb4⟩; clear hA3; have y_a : NBox w4 (w.heap.size) a := NBox.below x3_a hb4 (NBox.lt x3_a); have y_b : NBox w4 (w.heap.size + 1) b := NBox.below x3_b hb4 (NBox.lt x3_b); have y_c : NBox w4 (w2.heap.size) p := NBox.below x3_c hb4 (NBox.lt x3_c); have y_d : NBox w4 (w3.heap.size) a := NBox.below x3_d hb4 (NBox.lt x3_d); have HB4 : Below w.heap.size w w4 := HB3.trans (hb4.mono HB3.size); have x4_a : w4.heap[w.heap.size]? = some (.cells #[.int .i64 a.x, .int .i64 a.y, .int .i64 a.z] 23 (0, 0)) := y_a; have x4_b : w4.heap[w.heap.size + 1]? = some (.cells #[.int .i64 b.x, .int .i64 b.y, .int .i64 b.z] 23 (0, 0)) := y_b; have x4_c : w4.heap[w2.heap.size]? = some (.cells #[.int .i64 p.x, .int .i64 p.y, .int .i64 p.z] 23 (0, 0)) := y_c; have x4_d : w4.heap[w3.heap.size]? = some (.cells #[.int .i64 a.x, .int .i64 a.y, .int .i64 a.z] 23 (0, 0)) := y_d; clear hb4 HB3 x3_a x3_b x3_c x3_d y_a y_b y_c y_d)
          | (refine load_wanted rfl 23 _ rfl _ rfl _ _ _ _ x4_b Tryd.underlying23 rfl (need_info _ rfl) ?_)
          | go_in)
    have k_a : Hid (NBox (w4.alloc (.cells #[.int .i64 b.x, .int .i64 b.y, .int .i64 b.z] 23)) w.heap.size a) := (Below.heap_alloc _ _ _ (NBox.lt x4_a)).trans x4_a
    have k_d : Hid (NBox (w4.alloc (.cells #[.int .i64 b.x, .int .i64 b.y, .int .i64 b.z] 23)) w3.heap.size a) := (Below.heap_alloc _ _ _ (NBox.lt x4_d)).trans x4_d
    have k_l : Hid (NBox (w4.alloc (.cells #[.int .i64 b.x, .int .i64 b.y, .int .i64 b.z] 23)) w4.heap.size (lf a b 0)) := by rw [lf_zero]; exact heap_alloc_new _ _
    have HB5 : Hid (Below w.heap.size w (w4.alloc (.cells #[.int .i64 b.x, .int .i64 b.y, .int .i64 b.z] 23))) := HB4.alloc HB4.size _
    have hg1 : Hid (w.heap.size < w4.heap.size) := NBox.lt x4_a
    have hg2 : Hid (w3.heap.size < w4.heap.size) := NBox.lt x4_d
    clear x4_a x4_b x4_c x4_d HB4
    generalize w4.alloc (.cells #[.int .i64 b.x, .int .i64 b.y, .int .i64 b.z] 23) = w5 at *
    generalize w4.heap.size = gl at *
    generalize w3.heap.size = gd at *
    go_loopw [12, 57] (fun hv iv wr => ∃ j : Nat, iv = .int .i64 j ∧ hv = .int .i64 0 ∧ j ≤ 40 ∧ NBox wr w.heap.size a ∧ NBox wr gd a ∧ NBox wr gl (lf a b j) ∧ Below w.heap.size w wr)
      (fun _ iv _ => 40 - (intOf iv).toNat)
    case atStart => exact ⟨0, rfl, rfl, by omega, k_a.out, k_d.out, k_l.out, HB5.out⟩
    case round =>
      obtain ⟨j, rfl, rfl, hjM, y_a, y_d, y_l, hbl⟩ := hrel
      have HBr : Hid (Below w.heap.size w wr) := hbl
      by_cases hj : j < 40
      · have hji : (j : Int) < (40 : Int) := by omega
        obtain ⟨r1, r2⟩ := sR_ok (hlo.out j (by omega)) hoa.out (hlf.out j (by omega))
        rw [← lf_succ] at r1
        have hS := fun w1 => Sub_any (lf a b j) a w1
        rw [r1, r2] at hS
        have hj2 : Hid (j ≤ 10000000000000) := by show _ ≤ _; omega
        have z_a : wr.heap[w.heap.size]? = some (.cells #[.int .i64 a.x, .int .i64 a.y, .int .i64 a.z] 23 (0, 0)) := y_a
        have z_dH : Hid (NBox wr gd a) := y_d
        generalize lf a b j = t0 at *
        obtain ⟨t1', ht1⟩ : ∃ t, lf a b (j + 1) = t := ⟨_, rfl⟩
        have ht1H : Hid (lf a b (j + 1) = t1') := ht1
        rw [ht1] at hS
        clear ht1
        have z_l : wr.heap[gl]? = some (.cells #[.int .i64 t0.x, .int .i64 t0.y, .int .i64 t0.z] 23 (0, 0)) := y_l
        clear y_a y_d y_l hbl r1 r2
        go_wp2_with (first
          | (refine load_wanted rfl 23 _ rfl _ rfl _ _ _ _ z_l Tryd.underlying23 rfl (need_info _ rfl) ?_)
          | (refine load_wanted rfl 23 _ rfl _ rfl _ _ _ _ z_a Tryd.underlying23 rfl (need_info _ rfl) ?_)
          | (go_at_call 16; refine (hS _).mono ?_; rintro e w6 ⟨rfl, hb6⟩; clear hS; have q_a : NBox w6 w.heap.size a := NBox.below z_a hb6 (NBox.lt z_a); have q_d : NBox w6 gd a := NBox.below z_dH.out hb6 (NBox.lt z_dH.out); have q_l : w6.heap[gl]? = some (.cells #[.int .i64 t0.x, .int .i64 t0.y, .int .i64 t0.z] 23 (0, 0)) := NBox.below z_l hb6 (NBox.lt z_l); have HB6 : Below w.heap.size w w6 := HBr.out.trans (hb6.mono HBr.out.size); clear z_l z_a hb6)
          | (refine wpList_store_row rfl 23 _ _ rfl _ #[.int .i64 t1'.x, .int .i64 t1'.y, .int .i64 t1'.z] rfl rfl _ _ q_l (need_info _ rfl) rfl (need_one _ _ _) ?_)
          | go_in)
        refine ⟨⟨j + 1, ?_, rfl, by omega, ?_, ?_, by rw [ht1H.out]; exact setRow_heap _ gl _ _ _ _ q_l, below_row HB6 (Nat.le_of_lt hg1.out)⟩, ?_⟩
        · first | exact int_succ j | exact int_wsuccB hj2.out
        · exact (setRow_other _ gl w.heap.size _ (by have := hg1.out; omega)).trans q_a
        · exact (setRow_other _ gl gd _ (by have := hg2.out; omega)).trans q_d
        · first | exact meas_1 hj | exact meas_wB hj hj2.out
      · have hji : ¬ (j : Int) < (40 : Int) := by omega
        have hjm : 40 = j := by omega
        subst hjm
        have hS := fun w1 => Sub_any (lf a b 40) a w1
        have hlast : Hid ((40 : Int) ≤ 40 → (N : Int) ≤ 40 → sE (lf a b 40) a = 10) := fun _ h7 => absurd h7 (by omega)
        have z_a : wr.heap[w.heap.size]? = some (.cells #[.int .i64 a.x, .int .i64 a.y, .int .i64 a.z] 23 (0, 0)) := y_a
        have z_d : wr.heap[gd]? = some (.cells #[.int .i64 a.x, .int .i64 a.y, .int .i64 a.z] 23 (0, 0)) := y_d
        generalize sE (lf a b 40) a = ev at *
        generalize sR (lf a b 40) a = tv at *
        generalize lf a b 40 = t0 at *
        have z_l : wr.heap[gl]? = some (.cells #[.int .i64 t0.x, .int .i64 t0.y, .int .i64 t0.z] 23 (0, 0)) := y_l
        have hev : (40 : Int) < (N : Int) ∨ (ev == 10) = true := by
          by_cases h7 : (N : Int) ≤ 40
          · right; rw [hlast.out (by omega) h7]; rfl
          · left; omega
        clear y_a y_d y_l hbl hlast
        clear hev
        go_wp2_with (first
          | (refine load_wanted rfl 23 _ rfl _ rfl _ _ _ _ z_l Tryd.underlying23 rfl (need_info _ rfl) ?_)
          | (refine load_wanted rfl 23 _ rfl _ rfl _ _ _ _ z_a Tryd.underlying23 rfl (need_info _ rfl) ?_)
          | (go_at_call 16; refine (hS _).mono ?_; rintro e w6 ⟨rfl, hb6⟩; clear hS; have q_a0 : NBox w6 w.heap.size a := NBox.below z_a hb6 (NBox.lt z_a); have q_d0 : NBox w6 gd a := NBox.below z_d hb6 (NBox.lt z_d); have q_a : (w6.alloc (.cells #[.int .i64 tv.x, .int .i64 tv.y, .int .i64 tv.z] 23)).heap[w.heap.size]? = some (.cells #[.int .i64 a.x, .int .i64 a.y, .int .i64 a.z] 23 (0, 0)) := (Below.heap_alloc _ _ _ (NBox.lt q_a0)).trans q_a0; have q_d : (w6.alloc (.cells #[.int .i64 tv.x, .int .i64 tv.y, .int .i64 tv.z] 23)).heap[gd]? = some (.cells #[.int .i64 a.x, .int .i64 a.y, .int .i64 a.z] 23 (0, 0)) := (Below.heap_alloc _ _ _ (NBox.lt q_d0)).trans q_d0; have HB7 : Below w.heap.size w (w6.alloc (.cells #[.int .i64 tv.x, .int .i64 tv.y, .int .i64 tv.z] 23)) := (HBr.out.trans (hb6.mono HBr.out.size)).alloc (Nat.le_trans HBr.out.size hb6.size) _; clear z_l z_a z_d hb6 q_a0 q_d0)
          | (refine load_wanted rfl 23 _ rfl _ rfl _ _ _ _ q_d Tryd.underlying23 rfl (need_info _ rfl) ?_)
          | (refine load_wanted rfl 23 _ rfl _ rfl _ _ _ _ q_a Tryd.underlying23 rfl (need_info _ rfl) ?_)
          | go_in)
        go_ret
        exact ⟨by first | rfl | simp, HB7⟩

theorem needBack_walk (a b : N3) (w : World) : Calls Tryd.prog 5 #[(.agg #[.int .i64 a.x, .int .i64 a.y, .int .i64 a.z]), (.agg #[.int .i64 b.x, .int .i64 b.y, .int .i64 b.z])] w fun e w' => e = .returned (.bool true) ∧ Below w.heap.size w w' := by
  by_cases hok : aE a b = 0
  · cases hz : isZ a with
    | false => exact needBack_good a b w hok hz
    | true =>
      obtain rfl := isZ_nz hz
      exact needBack_zero b w hok
  · exact needBack_bad a b w hok
end Go.Proofs.YtlbnoggnnibmjaaDoor
