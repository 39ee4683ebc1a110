/- NeedTells, walked. -/
import Derived.Test.YtlbnoggnnibmjaaNdu
import Derived.Test.YtlbnoggnnibmjaaNsm
namespace Go.Proofs.Ytlbnoggnnibmjaa
open Go.RowKit Ndm
set_option linter.unusedSectionVars false
set_option linter.unusedVariables false

theorem Check_any (a : N3) (w : World) : Calls Try.prog 11 #[(.agg #[.int .i64 a.x, .int .i64 a.y, .int .i64 a.z])] w fun e w' => e = .returned (.int .i64 (ce (okN a))) ∧ Below w.heap.size w w' := by
  have h1 : (w.alloc (.cells #[.int .i64 a.x, .int .i64 a.y, .int .i64 a.z] 23)).heap[w.heap.size]? = some (.cells #[.int .i64 a.x, .int .i64 a.y, .int .i64 a.z] 23 (0, 0)) := heap_alloc_new _ _
  have hB0 : Below w.heap.size w (w.alloc (.cells #[.int .i64 a.x, .int .i64 a.y, .int .i64 a.z] 23)) := (Below.refl _ _).alloc (Nat.le_refl _) _
  have hck := check_one (w.alloc (.cells #[.int .i64 a.x, .int .i64 a.y, .int .i64 a.z] 23)) a (w.heap.size + 1) (by simp)
  go_enter Try.func11, Try.ntmps11
  go_wp2_with (first
    | (refine load_wanted rfl 23 _ rfl _ rfl _ _ _ _ h1 Try.underlying23 rfl (need_info _ rfl) ?_)
    | (go_at_call 14; refine hck.mono ?_; rintro e w2 ⟨rfl, hb2⟩; clear hck)
    | go_in)
  go_ret
  exact ⟨rfl, hB0.trans (hb2.mono hB0.size)⟩
theorem neqN (x y z x' y' z' : Int) (w : World) : (binOp .neq 23 (.agg #[.int .i64 x, .int .i64 y, .int .i64 z]) (.agg #[.int .i64 x', .int .i64 y', .int .i64 z'])).run Try.prog w = .ok (.bool (!(decide (x = x') && (decide (y = y') && decide (z = z'))))) w := by
  have u3 := Try.underlying2
  have a3 := Try.isAgg2
  have z3 := Try.sizeOf2
  have hS : Try.prog.underlying 23 = some (.struct (Try.prog.fieldsOf 23)) := by kernel_rfl
  have hp : Try.prog.stoodInHeld 23 = false := by kernel_rfl
  rw [run_neq_struct, show (10000 : Nat) = 9999 + 1 from rfl, run_equalIn_agg w 9999 23 _ _ hS hp]
  simp only [Program.fieldsOf, Try.underlying23]
  by_cases h1 : x = x' <;> by_cases h2 : y = y' <;> by_cases h3 : z = z' <;> simp only [h1, h2, h3] <;> go_simp
theorem ce_take {l : List N3} {k : Nat} (hk : k < l.length) : ce (okL (l.take (k + 1))) = if ce (okL (l.take k)) = 0 then ce (okN (nE l k)) else 4 := by
  have e : okL (l.take (k + 1)) = (okL (l.take k) && okN (nE l k)) := by
    unfold okL
    rw [take_nE hk, List.all_append]
    simp
  rw [e]
  cases okL (l.take k) <;> cases okN (nE l k) <;> rfl
theorem t1_le {s x y : Int} : t1 s x y ≤ s ∧ (x ≠ 0 → t1 s x y ≤ y / x) := by
  unfold t1
  split
  · exact ⟨Int.le_refl _, fun h => absurd ‹x = 0› h⟩
  · split
    · exact ⟨by omega, fun _ => Int.le_refl _⟩
    · exact ⟨Int.le_refl _, fun _ => by omega⟩
theorem t1_or {s x y : Int} : t1 s x y = s ∨ (x ≠ 0 ∧ t1 s x y = y / x) := by
  unfold t1
  split
  · exact Or.inl rfl
  · split
    · exact Or.inr ⟨‹_›, rfl⟩
    · exact Or.inl rfl
/-- So often it can be taken off, and no more often. -/
theorem tk_le {a b : N3} : (a.x ≠ 0 → tk a b 3 ≤ b.x / a.x) ∧ (a.y ≠ 0 → tk a b 3 ≤ b.y / a.y) ∧ (a.z ≠ 0 → tk a b 3 ≤ b.z / a.z) := by
  have h1 := t1_le (s := 1099511627776) (x := a.x) (y := b.x)
  have h2 := t1_le (s := t1 1099511627776 a.x b.x) (x := a.y) (y := b.y)
  have h3 := t1_le (s := t1 (t1 1099511627776 a.x b.x) a.y b.y) (x := a.z) (y := b.z)
  show (a.x ≠ 0 → t1 (t1 (t1 1099511627776 a.x b.x) a.y b.y) a.z b.z ≤ _) ∧ (a.y ≠ 0 → t1 (t1 (t1 1099511627776 a.x b.x) a.y b.y) a.z b.z ≤ _) ∧ (a.z ≠ 0 → t1 (t1 (t1 1099511627776 a.x b.x) a.y b.y) a.z b.z ≤ _)
  exact ⟨fun h => by have := h1.2 h; omega, fun h => by have := h2.2 h; omega, fun h => h3.2 h⟩
theorem tk_bd {a b : N3} (ha : okN a = true) (hb : okN b = true) : 0 ≤ tk a b 3 ∧ tk a b 3 ≤ 1099511627776 := by
  rw [okN_iff] at ha hb
  exact t1_bd (t1_bd (t1_bd ⟨by omega, Int.le_refl _⟩ ha.1.1 hb.1.1) ha.2.1.1 hb.2.1.1) ha.2.2.1 hb.2.2.1
theorem tk_why {a b : N3} : tk a b 3 = 1099511627776 ∨ (a.x ≠ 0 ∧ tk a b 3 = b.x / a.x) ∨ (a.y ≠ 0 ∧ tk a b 3 = b.y / a.y) ∨ (a.z ≠ 0 ∧ tk a b 3 = b.z / a.z) := by
  rcases t1_or (s := t1 (t1 1099511627776 a.x b.x) a.y b.y) (x := a.z) (y := b.z) with h3 | ⟨h, h3⟩
  · rcases t1_or (s := t1 1099511627776 a.x b.x) (x := a.y) (y := b.y) with h2 | ⟨h, h2⟩
    · rcases t1_or (s := 1099511627776) (x := a.x) (y := b.x) with h1 | ⟨h, h1⟩
      · exact Or.inl (h3.trans (h2.trans h1))
      · exact Or.inr (Or.inl ⟨h, h3.trans (h2.trans h1)⟩)
    · exact Or.inr (Or.inr (Or.inl ⟨h, h3.trans h2⟩))
  · exact Or.inr (Or.inr (Or.inr ⟨h, h3⟩))
theorem tm_yes {a b : N3} : tmB a b (tk a b 3) = true := by
  obtain ⟨h1, h2, h3⟩ := tk_le (a := a) (b := b)
  have key : ∀ x y : Int, (x ≠ 0 → tk a b 3 ≤ y / x) → t2 x y (tk a b 3) = false := fun x y h => decide_eq_false fun ⟨hx, hy⟩ => by have := h (by omega); omega
  unfold tmB
  rw [key _ _ h1, key _ _ h2, key _ _ h3]
  rfl
theorem tm_no {a b : N3} (ha : okN a = true) (hb : okN b = true) (hz : isZ a = false) : tmB a b (tk a b 3 + 1) = false := by
  have h1 := okN_iff.1 ha
  have h2 := okN_iff.1 hb
  have key : ∀ x y : Int, 0 ≤ x → x ≠ 0 → y / x < tk a b 3 + 1 → t2 x y (tk a b 3 + 1) = true := fun x y h0 hx hy => decide_eq_true ⟨by omega, hy⟩
  have hsome : t2 a.x b.x (tk a b 3 + 1) = true ∨ t2 a.y b.y (tk a b 3 + 1) = true ∨ t2 a.z b.z (tk a b 3 + 1) = true := by
    rcases tk_why (a := a) (b := b) with h | ⟨h, e⟩ | ⟨h, e⟩ | ⟨h, e⟩
    · have big : ∀ x y : Int, 0 < x → 0 ≤ y → y ≤ 1099511627776 → y / x < tk a b 3 + 1 := fun x y hx hy hm => by
        have := Int.ediv_le_self (a := y) x hy
        omega
      have hnz : a.x ≠ 0 ∨ a.y ≠ 0 ∨ a.z ≠ 0 := by
        refine Classical.byContradiction fun hn => ?_
        have : isZ a = true := by
          simp only [isZ, Bool.and_eq_true, decide_eq_true_eq]
          omega
        rw [this] at hz
        cases hz
      rcases hnz with h3 | h3 | h3
      · exact Or.inl (key _ _ h1.1.1 h3 (big _ _ (by omega) h2.1.1 h2.1.2))
      · exact Or.inr (Or.inl (key _ _ h1.2.1.1 h3 (big _ _ (by omega) h2.2.1.1 h2.2.1.2)))
      · exact Or.inr (Or.inr (key _ _ h1.2.2.1 h3 (big _ _ (by omega) h2.2.2.1 h2.2.2.2)))
    · exact Or.inl (key _ _ h1.1.1 h (by omega))
    · exact Or.inr (Or.inl (key _ _ h1.2.1.1 h (by omega)))
    · exact Or.inr (Or.inr (key _ _ h1.2.2.1 h (by omega)))
  unfold tmB
  rcases hsome with h | h | h <;> rw [h] <;> simp
/-- Where the law's own sum stands. -/
structure TeI (l : List N3) (k : Nat) (bad : Int) (s : N3) : Prop where
  ok : okL l = true → (smL (l.take k) nz = some s ∧ bad = 0 ∧ okN s = true) ∨ (smL (l.take k) nz = none ∧ bad = 2)
  no : okL l = false → bad = 4 ∧ s = nz
theorem TeI.end' {l : List N3} {bad : Int} {s : N3} (h : TeI l l.length bad s) : bad = uE l ∧ (uE l = 0 → s = uR l) ∧ (uE l ≠ 0 → uR l = nz) := by
  unfold uE uR
  cases hk : okL l with
  | false => exact ⟨(h.no hk).1, fun h => by simp at h, fun _ => rfl⟩
  | true =>
    rcases h.ok hk with ⟨h1, h2, _⟩ | ⟨h1, h2⟩
    · rw [List.take_length] at h1
      rw [h1]
      exact ⟨h2, fun _ => rfl, fun h => absurd rfl h⟩
    · rw [List.take_length] at h1
      rw [h1]
      exact ⟨h2, fun h => by simp at h, fun _ => rfl⟩
theorem TeI.zero {l : List N3} {k : Nat} {s : N3} (h : TeI l k 0 s) (hk : k < l.length) : okL l = true ∧ smL (l.take k) nz = some s ∧ okN s = true ∧ okN (nE l k) = true := by
  cases hl : okL l with
  | false => have := (h.no hl).1; omega
  | true =>
    rcases h.ok hl with ⟨h1, _, h3⟩ | ⟨_, h2⟩
    · exact ⟨rfl, h1, h3, okL_mem hl hk⟩
    · omega
theorem TeI.step1 {l : List N3} {k : Nat} {s : N3} (h : TeI l k 0 s) (hk : k < l.length) (ho : okN (addN s (nE l k)) = true) : TeI l (k + 1) 0 (addN s (nE l k)) := by
  obtain ⟨h1, h2, h3, h4⟩ := h.zero hk
  refine ⟨fun _ => Or.inl ⟨by rw [smL_step hk h2, if_pos ho], rfl, ho⟩, fun h => by rw [h1] at h; cases h⟩
theorem TeI.step2 {l : List N3} {k : Nat} {s : N3} (h : TeI l k 0 s) (hk : k < l.length) (ho : okN (addN s (nE l k)) = false) : TeI l (k + 1) 2 (addN s (nE l k)) := by
  obtain ⟨h1, h2, h3, h4⟩ := h.zero hk
  refine ⟨fun _ => Or.inr ⟨by rw [smL_step hk h2, if_neg (by rw [ho]; exact Bool.false_ne_true)], rfl⟩, fun h => by rw [h1] at h; cases h⟩
theorem TeI.skip {l : List N3} {k : Nat} {bad : Int} {s : N3} (h : TeI l k bad s) (hk : k < l.length) (hb : bad ≠ 0) : TeI l (k + 1) bad s := by
  refine ⟨fun hl => ?_, h.no⟩
  rcases h.ok hl with ⟨_, h2, _⟩ | ⟨h1, h2⟩
  · exact absurd h2 hb
  · exact Or.inr ⟨by rw [take_nE hk, smL_append, h1]; rfl, h2⟩
theorem TeI.start (l : List N3) : TeI l 0 (ce (okL l)) nz := ⟨fun h => Or.inl ⟨rfl, by rw [h]; rfl, rfl⟩, fun h => ⟨by rw [h]; rfl, rfl⟩⟩

set_option maxHeartbeats 16000000 in
set_option maxRecDepth 100000 in
theorem needTells_walk (a b : N3) (q : Option Addr) (l : List N3) (cap : Nat) (w : World) (h : Nds w q l) (hl : l.length ≤ 10000000000000) : Calls Try.prog 3 #[(.agg #[.int .i64 a.x, .int .i64 a.y, .int .i64 a.z]), (.agg #[.int .i64 b.x, .int .i64 b.y, .int .i64 b.z]), .slice q l.length cap] w fun e w' => e = .returned (.bool true) ∧ Below w.heap.size w w' := by
  obtain ⟨x0_a, x0_b, HB0, hs⟩ := two_boxes w a b
  have hsz := HB0.size
  obtain ⟨n, hn⟩ : ∃ n, l.length = n := ⟨_, rfl⟩
  have hlH : Hid (n ≤ 10000000000000) := by rw [hn] at hl; exact hl
  have hnH : Hid (l.length = n) := hn
  have hEb : Hid (∀ w1, Below w.heap.size w w1 → Nds w1 q l) := fun w1 hb => h.below hb (Nat.le_refl _)
  have hSm : Hid (∀ w1, Below w.heap.size w w1 → _) := fun w1 hb => Sum_any (cap := cap) hnH.out (hEb.out w1 hb) hlH.out
  have hF := fun w1 => Fits_any a b w1
  have hA := fun w1 => Add_any a b w1
  have hS := fun w1 => Sub_any a b w1
  have hT := fun w1 => Times_any a b w1
  rw [hn]
  clear hn hl h
  obtain ⟨X, hX⟩ : ∃ X, aR a b = X := ⟨_, rfl⟩
  obtain ⟨Y, hY⟩ : ∃ Y, sR a b = Y := ⟨_, rfl⟩
  obtain ⟨S, hSe⟩ : ∃ S, uR l = S := ⟨_, rfl⟩
  obtain ⟨xe, hxe⟩ : ∃ x, aE a b = x := ⟨_, rfl⟩
  obtain ⟨ye, hye⟩ : ∃ x, sE a b = x := ⟨_, rfl⟩
  obtain ⟨te, hte⟩ : ∃ x, tE a b = x := ⟨_, rfl⟩
  obtain ⟨tv, htv⟩ : ∃ x, tV a b = x := ⟨_, rfl⟩
  obtain ⟨ue, hue⟩ : ∃ x, uE l = x := ⟨_, rfl⟩
  obtain ⟨fv, hfv⟩ : ∃ x, (okN a && okN b && ftN a b) = x := ⟨_, rfl⟩
  obtain ⟨fe, hfe⟩ : ∃ x, ce (okN a && okN b) = x := ⟨_, rfl⟩
  have XH : Hid (aR a b = X ∧ aE a b = xe) := ⟨hX, hxe⟩
  have YH : Hid (sR a b = Y ∧ sE a b = ye) := ⟨hY, hye⟩
  have TH : Hid (tV a b = tv ∧ tE a b = te) := ⟨htv, hte⟩
  have FH : Hid ((okN a && okN b && ftN a b) = fv ∧ ce (okN a && okN b) = fe) := ⟨hfv, hfe⟩
  have UH : Hid (uR l = S ∧ uE l = ue) := ⟨hSe, hue⟩
  rw [hX, hxe] at hA
  rw [hY, hye] at hS
  rw [htv, hte] at hT
  rw [hfv, hfe] at hF
  have hSm2 : Hid (∀ w1, Below w.heap.size w w1 → Calls Try.prog 8 #[.slice q n cap] w1 fun e w' => e = .returned (.tuple #[.agg #[.int .i64 S.x, .int .i64 S.y, .int .i64 S.z], .int .i64 ue]) ∧ Below w1.heap.size w1 w') := fun w1 hb => by
    have := hSm.out w1 hb
    rw [hSe, hue] at this
    exact this
  clear hX hY hSe hxe hye hte htv hue hfv hfe hSm
  go_enter Try.func3, Try.ntmps3
  go_wp2_with (first
    | (refine load_wanted rfl 23 _ rfl _ rfl _ _ _ _ x0_a Try.underlying23 rfl (need_info _ rfl) ?_)
    | (refine load_wanted rfl 23 _ rfl _ rfl _ _ _ _ x0_b Try.underlying23 rfl (need_info _ rfl) ?_)
    | (go_at_call 4; refine (hF _).mono ?_; rintro e w1 ⟨rfl, hb1⟩; clear hF; have y_a : NBox w1 (w.heap.size) a := NBox.below (a := a) x0_a hb1 (NBox.lt (a := a) x0_a); have y_b : NBox w1 (w.heap.size + 1) b := NBox.below (a := b) x0_b hb1 (NBox.lt (a := b) x0_b); have HB1 : Below w.heap.size w w1 := HB0.trans (hb1.mono HB0.size); have x1_a : w1.heap[w.heap.size]? = some (.cells #[.int .i64 a.x, .int .i64 a.y, .int .i64 a.z] 23 (0, 0)) := y_a; have x1_b : w1.heap[w.heap.size + 1]? = some (.cells #[.int .i64 b.x, .int .i64 b.y, .int .i64 b.z] 23 (0, 0)) := y_b; clear hb1 HB0 x0_a x0_b y_a y_b)
    | (refine load_wanted rfl 23 _ rfl _ rfl _ _ _ _ x1_a Try.underlying23 rfl (need_info _ rfl) ?_)
    | (refine load_wanted rfl 23 _ rfl _ rfl _ _ _ _ x1_b Try.underlying23 rfl (need_info _ rfl) ?_)
    | (go_at_call 5; refine (hA _).mono ?_; rintro e w2 ⟨rfl, hb2⟩; clear hA; have y_a : NBox w2 (w.heap.size) a := NBox.below (a := a) x1_a hb2 (NBox.lt (a := a) x1_a); have y_b : NBox w2 (w.heap.size + 1) b := NBox.below (a := b) x1_b hb2 (NBox.lt (a := b) x1_b); have HB2 : Below w.heap.size w (w2.alloc (.cells #[.int .i64 X.x, .int .i64 X.y, .int .i64 X.z] 23)) := (HB1.trans (hb2.mono HB1.size)).alloc (Nat.le_trans HB1.size hb2.size) _; have x2_a : (w2.alloc (.cells #[.int .i64 X.x, .int .i64 X.y, .int .i64 X.z] 23)).heap[w.heap.size]? = some (.cells #[.int .i64 a.x, .int .i64 a.y, .int .i64 a.z] 23 (0, 0)) := (Below.heap_alloc _ _ _ (NBox.lt y_a)).trans y_a; have x2_b : (w2.alloc (.cells #[.int .i64 X.x, .int .i64 X.y, .int .i64 X.z] 23)).heap[w.heap.size + 1]? = some (.cells #[.int .i64 b.x, .int .i64 b.y, .int .i64 b.z] 23 (0, 0)) := (Below.heap_alloc _ _ _ (NBox.lt y_b)).trans y_b; have x2_x : (w2.alloc (.cells #[.int .i64 X.x, .int .i64 X.y, .int .i64 X.z] 23)).heap[w2.heap.size]? = some (.cells #[.int .i64 X.x, .int .i64 X.y, .int .i64 X.z] 23 (0, 0)) := heap_alloc_new _ _; clear hb2 HB1 x1_a x1_b y_a y_b)
    | (refine load_wanted rfl 23 _ rfl _ rfl _ _ _ _ x2_a Try.underlying23 rfl (need_info _ rfl) ?_)
    | (refine load_wanted rfl 23 _ rfl _ rfl _ _ _ _ x2_b Try.underlying23 rfl (need_info _ rfl) ?_)
    | (go_at_call 6; refine (hS _).mono ?_; rintro e w3 ⟨rfl, hb3⟩; clear hS; have y_a : NBox w3 (w.heap.size) a := NBox.below (a := a) x2_a hb3 (NBox.lt (a := a) x2_a); have y_b : NBox w3 (w.heap.size + 1) b := NBox.below (a := b) x2_b hb3 (NBox.lt (a := b) x2_b); have y_x : NBox w3 (w2.heap.size) X := NBox.below (a := X) x2_x hb3 (NBox.lt (a := X) x2_x); have HB3 : Below w.heap.size w (w3.alloc (.cells #[.int .i64 Y.x, .int .i64 Y.y, .int .i64 Y.z] 23)) := (HB2.trans (hb3.mono HB2.size)).alloc (Nat.le_trans HB2.size hb3.size) _; have x3_a : (w3.alloc (.cells #[.int .i64 Y.x, .int .i64 Y.y, .int .i64 Y.z] 23)).heap[w.heap.size]? = some (.cells #[.int .i64 a.x, .int .i64 a.y, .int .i64 a.z] 23 (0, 0)) := (Below.heap_alloc _ _ _ (NBox.lt y_a)).trans y_a; have x3_b : (w3.alloc (.cells #[.int .i64 Y.x, .int .i64 Y.y, .int .i64 Y.z] 23)).heap[w.heap.size + 1]? = some (.cells #[.int .i64 b.x, .int .i64 b.y, .int .i64 b.z] 23 (0, 0)) := (Below.heap_alloc _ _ _ (NBox.lt y_b)).trans y_b; have x3_x : (w3.alloc (.cells #[.int .i64 Y.x, .int .i64 Y.y, .int .i64 Y.z] 23)).heap[w2.heap.size]? = some (.cells #[.int .i64 X.x, .int .i64 X.y, .int .i64 X.z] 23 (0, 0)) := (Below.heap_alloc _ _ _ (NBox.lt y_x)).trans y_x; have x3_y : (w3.alloc (.cells #[.int .i64 Y.x, .int .i64 Y.y, .int .i64 Y.z] 23)).heap[w3.heap.size]? = some (.cells #[.int .i64 Y.x, .int .i64 Y.y, .int .i64 Y.z] 23 (0, 0)) := heap_alloc_new _ _; clear hb3 HB2 x2_a x2_b x2_x y_a y_b y_x)
    | (refine load_wanted rfl 23 _ rfl _ rfl _ _ _ _ x3_a Try.underlying23 rfl (need_info _ rfl) ?_)
    | (refine load_wanted rfl 23 _ rfl _ rfl _ _ _ _ x3_b Try.underlying23 rfl (need_info _ rfl) ?_)
    | (go_at_call 7; refine (hT _).mono ?_; rintro e w4 ⟨rfl, hb4⟩; clear hT; have y_a : NBox w4 (w.heap.size) a := NBox.below (a := a) x3_a hb4 (NBox.lt (a := a) x3_a); have y_b : NBox w4 (w.heap.size + 1) b := NBox.below (a := b) x3_b hb4 (NBox.lt (a := b) x3_b); have y_x : NBox w4 (w2.heap.size) X := NBox.below (a := X) x3_x hb4 (NBox.lt (a := X) x3_x); have y_y : NBox w4 (w3.heap.size) Y := NBox.below (a := Y) x3_y hb4 (NBox.lt (a := Y) x3_y); have HB4 : Below w.heap.size w w4 := HB3.trans (hb4.mono HB3.size); have x4_a : w4.heap[w.heap.size]? = some (.cells #[.int .i64 a.x, .int .i64 a.y, .int .i64 a.z] 23 (0, 0)) := y_a; have x4_b : w4.heap[w.heap.size + 1]? = some (.cells #[.int .i64 b.x, .int .i64 b.y, .int .i64 b.z] 23 (0, 0)) := y_b; have x4_x : w4.heap[w2.heap.size]? = some (.cells #[.int .i64 X.x, .int .i64 X.y, .int .i64 X.z] 23 (0, 0)) := y_x; have x4_y : w4.heap[w3.heap.size]? = some (.cells #[.int .i64 Y.x, .int .i64 Y.y, .int .i64 Y.z] 23 (0, 0)) := y_y; clear hb4 HB3 x3_a x3_b x3_x x3_y y_a y_b y_x y_y)
    | (go_at_call 8; refine (hSm2.out _ HB4).mono ?_; rintro e w5 ⟨rfl, hb5⟩; clear hSm2; have y_a : NBox w5 (w.heap.size) a := NBox.below (a := a) x4_a hb5 (NBox.lt (a := a) x4_a); have y_b : NBox w5 (w.heap.size + 1) b := NBox.below (a := b) x4_b hb5 (NBox.lt (a := b) x4_b); have y_x : NBox w5 (w2.heap.size) X := NBox.below (a := X) x4_x hb5 (NBox.lt (a := X) x4_x); have y_y : NBox w5 (w3.heap.size) Y := NBox.below (a := Y) x4_y hb5 (NBox.lt (a := Y) x4_y); have HB5 : Below w.heap.size w (w5.alloc (.cells #[.int .i64 S.x, .int .i64 S.y, .int .i64 S.z] 23)) := (HB4.trans (hb5.mono HB4.size)).alloc (Nat.le_trans HB4.size hb5.size) _; have x5_a : (w5.alloc (.cells #[.int .i64 S.x, .int .i64 S.y, .int .i64 S.z] 23)).heap[w.heap.size]? = some (.cells #[.int .i64 a.x, .int .i64 a.y, .int .i64 a.z] 23 (0, 0)) := (Below.heap_alloc _ _ _ (NBox.lt y_a)).trans y_a; have x5_b : (w5.alloc (.cells #[.int .i64 S.x, .int .i64 S.y, .int .i64 S.z] 23)).heap[w.heap.size + 1]? = some (.cells #[.int .i64 b.x, .int .i64 b.y, .int .i64 b.z] 23 (0, 0)) := (Below.heap_alloc _ _ _ (NBox.lt y_b)).trans y_b; have x5_x : (w5.alloc (.cells #[.int .i64 S.x, .int .i64 S.y, .int .i64 S.z] 23)).heap[w2.heap.size]? = some (.cells #[.int .i64 X.x, .int .i64 X.y, .int .i64 X.z] 23 (0, 0)) := (Below.heap_alloc _ _ _ (NBox.lt y_x)).trans y_x; have x5_y : (w5.alloc (.cells #[.int .i64 S.x, .int .i64 S.y, .int .i64 S.z] 23)).heap[w3.heap.size]? = some (.cells #[.int .i64 Y.x, .int .i64 Y.y, .int .i64 Y.z] 23 (0, 0)) := (Below.heap_alloc _ _ _ (NBox.lt y_y)).trans y_y; have x5_s : (w5.alloc (.cells #[.int .i64 S.x, .int .i64 S.y, .int .i64 S.z] 23)).heap[w5.heap.size]? = some (.cells #[.int .i64 S.x, .int .i64 S.y, .int .i64 S.z] 23 (0, 0)) := heap_alloc_new _ _; clear hb5 HB4 x4_a x4_b x4_x x4_y y_a y_b y_x y_y)
    | go_in)
  have hp1 : Hid (NBox ((w5.alloc (.cells #[.int .i64 S.x, .int .i64 S.y, .int .i64 S.z] 23)).alloc (.cells #[.int .i64 0, .int .i64 0, .int .i64 0] 23)) w.heap.size a ∧ NBox ((w5.alloc (.cells #[.int .i64 S.x, .int .i64 S.y, .int .i64 S.z] 23)).alloc (.cells #[.int .i64 0, .int .i64 0, .int .i64 0] 23)) (w.heap.size + 1) b ∧ NBox ((w5.alloc (.cells #[.int .i64 S.x, .int .i64 S.y, .int .i64 S.z] 23)).alloc (.cells #[.int .i64 0, .int .i64 0, .int .i64 0] 23)) w2.heap.size X ∧ NBox ((w5.alloc (.cells #[.int .i64 S.x, .int .i64 S.y, .int .i64 S.z] 23)).alloc (.cells #[.int .i64 0, .int .i64 0, .int .i64 0] 23)) w3.heap.size Y ∧ NBox ((w5.alloc (.cells #[.int .i64 S.x, .int .i64 S.y, .int .i64 S.z] 23)).alloc (.cells #[.int .i64 0, .int .i64 0, .int .i64 0] 23)) w5.heap.size S) :=
    ⟨(Below.heap_alloc _ _ _ (NBox.lt x5_a)).trans x5_a, (Below.heap_alloc _ _ _ (NBox.lt x5_b)).trans x5_b, (Below.heap_alloc _ _ _ (NBox.lt x5_x)).trans x5_x, (Below.heap_alloc _ _ _ (NBox.lt x5_y)).trans x5_y, (Below.heap_alloc _ _ _ (NBox.lt x5_s)).trans x5_s⟩
  have hp2 : Hid (NBox ((w5.alloc (.cells #[.int .i64 S.x, .int .i64 S.y, .int .i64 S.z] 23)).alloc (.cells #[.int .i64 0, .int .i64 0, .int .i64 0] 23)) (w5.heap.size + 1) nz) := by
    have e : (w5.alloc (.cells #[.int .i64 S.x, .int .i64 S.y, .int .i64 S.z] 23)).heap.size = w5.heap.size + 1 := by simp
    have h7 := heap_alloc_new (w5.alloc (.cells #[.int .i64 S.x, .int .i64 S.y, .int .i64 S.z] 23)) (.cells #[.int .i64 0, .int .i64 0, .int .i64 0] 23)
    rw [e] at h7
    exact h7
  have hp3 : Hid (Below w.heap.size w ((w5.alloc (.cells #[.int .i64 S.x, .int .i64 S.y, .int .i64 S.z] 23)).alloc (.cells #[.int .i64 0, .int .i64 0, .int .i64 0] 23))) := HB5.alloc HB5.size _
  have hlt : Hid (w.heap.size + 1 < w5.heap.size + 1 ∧ w2.heap.size < w5.heap.size + 1 ∧ w3.heap.size < w5.heap.size + 1) := by
    have e : (w5.alloc (.cells #[.int .i64 S.x, .int .i64 S.y, .int .i64 S.z] 23)).heap.size = w5.heap.size + 1 := by simp
    have h1 := NBox.lt x5_b
    have h2 := NBox.lt x5_x
    have h3 := NBox.lt x5_y
    rw [e] at h1 h2 h3
    exact ⟨h1, h2, h3⟩
  clear x5_a x5_b x5_x x5_y x5_s HB5
  generalize ((w5.alloc (.cells #[.int .i64 S.x, .int .i64 S.y, .int .i64 S.z] 23)).alloc (.cells #[.int .i64 0, .int .i64 0, .int .i64 0] 23)) = v0 at *
  generalize w2.heap.size = gx at *
  generalize w3.heap.size = gy at *
  generalize w5.heap.size = gs at *
  go_loopw [18, 56] (fun bv iv wr => ∃ k : Nat, iv = .int .i64 k ∧ bv = .int .i64 (ce (okL (l.take k))) ∧ k ≤ n ∧ Below v0.heap.size v0 wr)
    (fun _ iv _ => n - (intOf iv).toNat)
  case atStart => exact ⟨0, rfl, rfl, Nat.zero_le _, Below.refl _ _⟩
  case round =>
    obtain ⟨k, rfl, rfl, hkn, hbl⟩ := hrel
    have hBr : Hid (Below w.heap.size w wr) := hp3.out.trans (hbl.mono hp3.out.size)
    by_cases hk : k < n
    · rcases hEb.out wr hBr.out with h0 | ⟨b0, o0, rfl, hA0⟩
      · have := hnH.out; omega
      have z0 := hA0.cx k (by have := hnH.out; omega)
      have z1 := hA0.cy k (by have := hnH.out; omega)
      have z2 := hA0.cz k (by have := hnH.out; omega)
      have hct : Hid (ce (okL (l.take (k + 1))) = if ce (okL (l.take k)) = 0 then ce (okN (nE l k)) else 4) := ce_take (by have := hnH.out; omega)
      have hki : (k : Int) < (n : Int) := by omega
      have hk2 : Hid (k ≤ 10000000000000) := by have := hlH.out; show _ ≤ _; omega
      have hblH : Hid (Below v0.heap.size v0 wr) := hbl
      have hNF := fun w1 => faultR_any (nE l k) w1
      have hf4 : Hid (ce (okL (l.take k)) = 0 ∨ ce (okL (l.take k)) = 4) := by
        show _ ∨ _
        cases okL (l.take k)
        · exact Or.inr rfl
        · exact Or.inl rfl
      generalize nE l k = t at *
      generalize ce (okL (l.take k)) = bv at *
      generalize ce (okN t) = ct at *
      have pa : (wr.alloc (.cells #[.int .i64 t.x, .int .i64 t.y, .int .i64 t.z] 23)).heap[wr.heap.size]? = some (.cells #[.int .i64 t.x, .int .i64 t.y, .int .i64 t.z] 23 (0, 0)) := heap_alloc_new _ _
      have hbx : Hid (Below wr.heap.size wr (wr.alloc (.cells #[.int .i64 t.x, .int .i64 t.y, .int .i64 t.z] 23))) := (Below.refl _ _).alloc (Nat.le_refl _) _
      have hsx : Hid (wr.heap.size ≤ (wr.alloc (.cells #[.int .i64 t.x, .int .i64 t.y, .int .i64 t.z] 23)).heap.size) := hbx.out.size
      clear hbl hA0
      by_cases hb0 : bv = 0
      · have hct2 : Hid (ce (okL (l.take (k + 1))) = ct) := by show _ = _; rw [hct.out, if_pos hb0]
        subst hb0
        clear hct hf4
        go_wp2_with (first
          | (refine load_wanted rfl 23 _ rfl _ rfl _ _ _ _ pa Try.underlying23 rfl (need_info _ rfl) ?_)
          | (go_at_call 9; refine (hNF _).mono ?_; rintro e w6 ⟨rfl, hb6⟩; clear hNF pa; have hb6' : Below wr.heap.size wr w6 := hbx.out.trans (hb6.mono hsx.out))
          | go_in)
        refine ⟨⟨k + 1, ?_, by rw [hct2.out], hk, hblH.out.trans (hb6'.mono hblH.out.size)⟩, ?_⟩
        · first | exact int_succ k | exact int_wsuccB hk2.out
        · first | exact meas_1 hk | exact meas_wB hk hk2.out
      · have hb4 : bv = 4 := by have := hf4.out; omega
        have hct2 : Hid (ce (okL (l.take (k + 1))) = 4) := by show _ = _; rw [hct.out, if_neg hb0]
        subst hb4
        clear hct hf4 hNF pa hb0
        go_wp2
        refine ⟨⟨k + 1, ?_, by rw [hct2.out], hk, hblH.out.trans (hbx.out.mono hblH.out.size)⟩, ?_⟩
        · first | exact int_succ k | exact int_wsuccB hk2.out
        · first | exact meas_1 hk | exact meas_wB hk hk2.out
    · have hki : ¬ (k : Int) < (n : Int) := by omega
      have e : k = n := by omega
      have hbe : ce (okL (l.take k)) = ce (okL l) := by rw [e, ← hnH.out, List.take_length]
      rw [hbe]
      have r1 : Hid (NBox wr w.heap.size a ∧ NBox wr (w.heap.size + 1) b ∧ NBox wr gx X ∧ NBox wr gy Y ∧ NBox wr gs S) := ⟨hp1.out.1.below hbl hp1.out.1.lt, hp1.out.2.1.below hbl hp1.out.2.1.lt, hp1.out.2.2.1.below hbl hp1.out.2.2.1.lt, hp1.out.2.2.2.1.below hbl hp1.out.2.2.2.1.lt, hp1.out.2.2.2.2.below hbl hp1.out.2.2.2.2.lt⟩
      have r2 : Hid (NBox wr (gs + 1) nz) := hp2.out.below hbl hp2.out.lt
      clear hbl hbe e hkn hk
      go_wp2
      rename World => v1
      go_loopw [18, 67] (fun bv iv wr => ∃ (k : Nat) (bad : Int) (s : N3), iv = .int .i64 k ∧ bv = .int .i64 bad ∧ k ≤ n ∧ Hid (TeI l k bad s) ∧ NBox wr (gs + 1) s ∧ Below (gs + 1) v1 wr)
        (fun _ iv _ => n - (intOf iv).toNat)
      case atStart => exact ⟨0, _, nz, rfl, rfl, Nat.zero_le _, TeI.start l, r2.out, Below.refl _ _⟩
      case round =>
        obtain ⟨k, bad, s, rfl, rfl, hkn, hTe, y5, hbl⟩ := hrel
        have hgl : Hid (w.heap.size ≤ gs + 1) := by have := hlt.out.1; show _ ≤ _; omega
        have hBw : Hid (Below w.heap.size w wr) := hBr.out.trans (hbl.mono hgl.out)
        by_cases hk : k < n
        · rcases hEb.out wr hBw.out with h0 | ⟨b0, o0, rfl, hA0⟩
          · have := hnH.out; omega
          have z0 := hA0.cx k (by have := hnH.out; omega)
          have z1 := hA0.cy k (by have := hnH.out; omega)
          have z2 := hA0.cz k (by have := hnH.out; omega)
          have hki : (k : Int) < (n : Int) := by omega
          have hk2 : Hid (k ≤ 10000000000000) := by have := hlH.out; show _ ≤ _; omega
          have hblH : Hid (Below (gs + 1) v1 wr) := hbl
          have hgw : Hid (gs + 1 < wr.heap.size) := y5.lt
          have y5H : Hid (NBox wr (gs + 1) s) := y5
          have hkl : Hid (k < l.length) := by rw [hnH.out]; exact hk
          by_cases hb0 : bad = 0
          · subst hb0
            obtain ⟨f1, f2, f3, f4⟩ := hTe.out.zero hkl.out
            have hs1 : Hid (okN (addN s (nE l k)) = true → TeI l (k + 1) 0 (addN s (nE l k))) := fun h => hTe.out.step1 hkl.out h
            have hs2 : Hid (okN (addN s (nE l k)) = false → TeI l (k + 1) 2 (addN s (nE l k))) := fun h => hTe.out.step2 hkl.out h
            have hPl := fun w1 => plusR_add s (nE l k) w1 f3 f4
            have hNF := fun w1 => faultR_any (addN s (nE l k)) w1
            generalize nE l k = t at *
            generalize addN s t = r at *
            have pa : (wr.alloc (.cells #[.int .i64 t.x, .int .i64 t.y, .int .i64 t.z] 23)).heap[wr.heap.size]? = some (.cells #[.int .i64 t.x, .int .i64 t.y, .int .i64 t.z] 23 (0, 0)) := heap_alloc_new _ _
            have p5 : (wr.alloc (.cells #[.int .i64 t.x, .int .i64 t.y, .int .i64 t.z] 23)).heap[gs + 1]? = some (.cells #[.int .i64 s.x, .int .i64 s.y, .int .i64 s.z] 23 (0, 0)) := (Below.heap_alloc _ _ _ hgw.out).trans y5
            have hbx : Hid (Below (gs + 1) wr (wr.alloc (.cells #[.int .i64 t.x, .int .i64 t.y, .int .i64 t.z] 23))) := (Below.refl _ _).alloc (Nat.le_of_lt hgw.out) _
            have hsx : Hid (gs + 1 ≤ (wr.alloc (.cells #[.int .i64 t.x, .int .i64 t.y, .int .i64 t.z] 23)).heap.size) := Nat.le_trans (Nat.le_of_lt hgw.out) hbx.out.size
            clear hbl hA0 y5 f1 f2 f3 f4 hTe
            cases hr : okN r with
            | true =>
              have hte : Hid (TeI l (k + 1) 0 r) := hs1.out hr
              rw [hr, show ce true = 0 from rfl] at hNF
              clear hs1 hs2 hr
              go_wp2_with (first
                | (refine load_wanted rfl 23 _ rfl _ rfl _ _ _ _ p5 Try.underlying23 rfl (need_info _ rfl) ?_)
                | (refine load_wanted rfl 23 _ rfl _ rfl _ _ _ _ pa Try.underlying23 rfl (need_info _ rfl) ?_)
                | (go_at_call 10; refine (hPl _).mono ?_; rintro e w6 ⟨rfl, hb6⟩; clear hPl pa; have q5 : w6.heap[gs + 1]? = some (.cells #[.int .i64 s.x, .int .i64 s.y, .int .i64 s.z] 23 (0, 0)) := NBox.below p5 hb6 (NBox.lt p5); have hb6' : Below (gs + 1) wr w6 := hbx.out.trans (hb6.mono hsx.out); clear p5 hb6)
                | (refine wpList_store_row rfl 23 _ _ rfl _ #[.int .i64 r.x, .int .i64 r.y, .int .i64 r.z] rfl rfl _ _ q5 (need_info _ rfl) rfl (need_one _ _ _) ?_)
                | (refine load_wanted rfl 23 _ rfl _ rfl _ _ _ _ (setRow_heap _ _ _ _ _ _ q5) Try.underlying23 rfl (need_info _ rfl) ?_)
                | (go_at_call 9; refine (hNF _).mono ?_; rintro e w7 ⟨rfl, hb7⟩; clear hNF; have q7 : NBox w7 (gs + 1) r := NBox.below (setRow_heap _ _ _ _ _ _ q5) hb7 (NBox.lt (setRow_heap _ _ _ _ _ _ q5)); have hb7' : Below (gs + 1) wr w7 := (below_row hb6' (Nat.le_refl _)).trans (hb7.mono (Nat.le_of_lt (NBox.lt (setRow_heap _ _ _ _ _ _ q5)))); clear hb7)
                | go_in)
              refine ⟨⟨k + 1, 0, r, ?_, rfl, hk, hte, q7, hblH.out.trans hb7'⟩, ?_⟩
              · first | exact int_succ k | exact int_wsuccB hk2.out
              · first | exact meas_1 hk | exact meas_wB hk hk2.out
            | false =>
              have hte : Hid (TeI l (k + 1) 2 r) := hs2.out hr
              rw [hr, show ce false = 4 from rfl] at hNF
              clear hs1 hs2 hr
              go_wp2_with (first
                | (refine load_wanted rfl 23 _ rfl _ rfl _ _ _ _ p5 Try.underlying23 rfl (need_info _ rfl) ?_)
                | (refine load_wanted rfl 23 _ rfl _ rfl _ _ _ _ pa Try.underlying23 rfl (need_info _ rfl) ?_)
                | (go_at_call 10; refine (hPl _).mono ?_; rintro e w6 ⟨rfl, hb6⟩; clear hPl pa; have q5 : w6.heap[gs + 1]? = some (.cells #[.int .i64 s.x, .int .i64 s.y, .int .i64 s.z] 23 (0, 0)) := NBox.below p5 hb6 (NBox.lt p5); have hb6' : Below (gs + 1) wr w6 := hbx.out.trans (hb6.mono hsx.out); clear p5 hb6)
                | (refine wpList_store_row rfl 23 _ _ rfl _ #[.int .i64 r.x, .int .i64 r.y, .int .i64 r.z] rfl rfl _ _ q5 (need_info _ rfl) rfl (need_one _ _ _) ?_)
                | (refine load_wanted rfl 23 _ rfl _ rfl _ _ _ _ (setRow_heap _ _ _ _ _ _ q5) Try.underlying23 rfl (need_info _ rfl) ?_)
                | (go_at_call 9; refine (hNF _).mono ?_; rintro e w7 ⟨rfl, hb7⟩; clear hNF; have q7 : NBox w7 (gs + 1) r := NBox.below (setRow_heap _ _ _ _ _ _ q5) hb7 (NBox.lt (setRow_heap _ _ _ _ _ _ q5)); have hb7' : Below (gs + 1) wr w7 := (below_row hb6' (Nat.le_refl _)).trans (hb7.mono (Nat.le_of_lt (NBox.lt (setRow_heap _ _ _ _ _ _ q5)))); clear hb7)
                | go_in)
              refine ⟨⟨k + 1, 2, r, ?_, rfl, hk, hte, q7, hblH.out.trans hb7'⟩, ?_⟩
              · first | exact int_succ k | exact int_wsuccB hk2.out
              · first | exact meas_1 hk | exact meas_wB hk hk2.out
          · have hte : Hid (TeI l (k + 1) bad s) := hTe.out.skip hkl.out hb0
            have hb1 : (bad == 0) = false := by simpa using hb0
            have hbx : Hid (∀ o, Below (gs + 1) wr (wr.alloc o)) := fun o => (Below.refl _ _).alloc (Nat.le_of_lt hgw.out) _
            clear hbl hA0 y5 hTe hb0
            generalize nE l k = t at *
            go_wp2
            refine ⟨⟨k + 1, bad, s, ?_, rfl, hk, hte, (Below.heap_alloc _ _ _ hgw.out).trans y5H.out, hblH.out.trans (hbx.out _)⟩, ?_⟩
            · first | exact int_succ k | exact int_wsuccB hk2.out
            · first | exact meas_1 hk | exact meas_wB hk hk2.out
        · have hki : ¬ (k : Int) < (n : Int) := by omega
          have e : k = l.length := by have := hnH.out; omega
          subst e
          obtain ⟨j1, j2, j3⟩ := hTe.out.end'
          rw [UH.out.2] at j1 j2 j3
          rw [UH.out.1] at j2 j3
          subst j1
          have m1 : Hid (NBox wr w.heap.size a ∧ NBox wr (w.heap.size + 1) b ∧ NBox wr gx X ∧ NBox wr gy Y ∧ NBox wr gs S) := ⟨r1.out.1.below hbl (by have := hlt.out.1; omega), r1.out.2.1.below hbl hlt.out.1, r1.out.2.2.1.below hbl hlt.out.2.1, r1.out.2.2.2.1.below hbl hlt.out.2.2, r1.out.2.2.2.2.below hbl (by omega)⟩
          have y5' : wr.heap[gs + 1]? = some (.cells #[.int .i64 s.x, .int .i64 s.y, .int .i64 s.z] 23 (0, 0)) := y5
          have hs3 : Hid (bad = 0 → s = S) := j2
          have hs4 : Hid (bad ≠ 0 → S = nz) := j3
          clear hbl hkn hTe j2 j3 y5
          go_upto_if 81 with fail
          go_cut [] from 81 to 82 (fun wx => (NBox wx w.heap.size a ∧ NBox wx (w.heap.size + 1) b ∧ NBox wx gx X ∧ NBox wx gy Y ∧ NBox wx gs S) ∧ NBox wx (gs + 1) S ∧ Below w.heap.size w wx)
          case first =>
            by_cases hb0 : bad = 0
            · have hss := hs3.out hb0
              have hb1 : (bad != 0) = false := by simpa using hb0
              subst hss
              clear hb0 hs3 hs4
              go_wp2
              go_meet
              exact ⟨m1.out, y5', hBw.out⟩
            · have hss := hs4.out hb0
              have hb1 : (bad != 0) = true := by simpa using hb0
              subst hss
              have hgl2 := hlt.out
              go_wp2_with (first
                | (refine wpList_store_row rfl 23 _ _ rfl _ #[.int .i64 0, .int .i64 0, .int .i64 0] rfl rfl _ _ y5' (need_info _ rfl) rfl (need_one _ _ _) ?_)
                | go_in)
              go_meet
              exact ⟨⟨(setRow_other _ (gs + 1) _ _ (by omega)).trans m1.out.1, (setRow_other _ (gs + 1) _ _ (by omega)).trans m1.out.2.1, (setRow_other _ (gs + 1) _ _ (by omega)).trans m1.out.2.2.1, (setRow_other _ (gs + 1) _ _ (by omega)).trans m1.out.2.2.2.1, (setRow_other _ (gs + 1) _ _ (by omega)).trans m1.out.2.2.2.2⟩, setRow_heap _ _ _ _ _ _ y5', below_row hBw.out hgl.out⟩
          case rest =>
            obtain ⟨hm, hq17, hB⟩ := hcut
            have hBH : Hid (Below w.heap.size w wc) := hB
            have hmH : Hid (NBox wc w.heap.size a ∧ NBox wc (w.heap.size + 1) b ∧ NBox wc gx X ∧ NBox wc gy Y ∧ NBox wc gs S) := hm
            have hq17H : Hid (NBox wc (gs + 1) S) := hq17
            clear hm hq17 hB y5' m1 hs3 hs4 r1 r2 hp1 hp2 hp3
            have hnq := neqN
            have hCk := fun w1 => Check_any a w1
            have hNF := fun w1 => faultR_any a w1
            obtain ⟨ca, hca⟩ : ∃ x, ce (okN a) = x := ⟨_, rfl⟩
            rw [hca] at hCk hNF
            have hcaH : Hid (ce (okN a) = ca) := hca
            clear hca
            have hee : (bad != bad) = false := by simp
            have hee2 : (ca != ca) = false := by simp
            have hss : (decide (S.x = S.x) && (decide (S.y = S.y) && decide (S.z = S.z))) = true := by simp
            go_upto_region 24 with fail
            have hc : NBox wc.drew w.heap.size a ∧ NBox wc.drew gs S ∧ NBox wc.drew (gs + 1) S := ⟨hmH.out.1, hmH.out.2.2.2.2, hq17H.out⟩
            have hBx : Hid (Below wc.heap.size wc wc.drew) := (Below.refl _ _).drew
            refine Tkc.region_anyC (C := fun w' => NBox w' w.heap.size a ∧ NBox w' gs S ∧ NBox w' (gs + 1) S) (s := 15) (by kernel_rfl) ?_
            generalize wc.drew = wd at *
            refine Tkc.takeC (i := 0) (v := (.agg #[.int .i64 S.x, .int .i64 S.y, .int .i64 S.z])) rfl (by kernel_rfl) (by kernel_rfl) (by kernel_rfl) (fun _ _ _ h => h) (by decide) (by kernel_rfl) (by kernel_rfl) hc ⟨by rfl, fun w hw => by have k0 := hw.1.c0; have k1 := hw.1.c1; have k2 := hw.1.c2; have k3 := hw.2.1.c0; have k4 := hw.2.1.c1; have k5 := hw.2.1.c2; have k6 := hw.2.2.c0; have k7 := hw.2.2.c1; have k8 := hw.2.2.c2; go_simp⟩ ?_
            try go_frame
            refine Tkc.takeC (i := 1) (v := (.agg #[.int .i64 S.x, .int .i64 S.y, .int .i64 S.z])) rfl (by kernel_rfl) (by kernel_rfl) (by kernel_rfl) (fun _ _ _ h => h) (by decide) (by kernel_rfl) (by kernel_rfl) hc ⟨by rfl, fun w hw => by have k0 := hw.1.c0; have k1 := hw.1.c1; have k2 := hw.1.c2; have k3 := hw.2.1.c0; have k4 := hw.2.1.c1; have k5 := hw.2.1.c2; have k6 := hw.2.2.c0; have k7 := hw.2.2.c1; have k8 := hw.2.2.c2; go_simp⟩ ?_
            try go_frame
            refine Tkc.onlyC (i := 2) rfl (by kernel_rfl) (fun _ => hc) (by rfl) (fun K hK => ?_)
            go_simp
            refine hK _ _ ?_
            clear hK K
            try go_frame
            refine Tkc.onlyC (i := 3) rfl (by kernel_rfl) (fun _ => hc) (by rfl) (fun K hK => ?_)
            go_simp
            refine hK _ _ ?_
            clear hK K
            try go_frame
            refine Tkc.takeC (i := 4) (v := .int .i64 bad) rfl (by kernel_rfl) (by kernel_rfl) (by kernel_rfl) (fun _ _ _ h => h) (by decide) (by kernel_rfl) (by kernel_rfl) hc ⟨by rfl, fun w hw => by have k0 := hw.1.c0; have k1 := hw.1.c1; have k2 := hw.1.c2; have k3 := hw.2.1.c0; have k4 := hw.2.1.c1; have k5 := hw.2.1.c2; have k6 := hw.2.2.c0; have k7 := hw.2.2.c1; have k8 := hw.2.2.c2; go_simp⟩ ?_
            try go_frame
            refine Tkc.takeC (i := 5) (v := .int .i64 bad) rfl (by kernel_rfl) (by kernel_rfl) (by kernel_rfl) (fun _ _ _ h => h) (by decide) (by kernel_rfl) (by kernel_rfl) hc ⟨by rfl, fun w hw => by have k0 := hw.1.c0; have k1 := hw.1.c1; have k2 := hw.1.c2; have k3 := hw.2.1.c0; have k4 := hw.2.1.c1; have k5 := hw.2.1.c2; have k6 := hw.2.2.c0; have k7 := hw.2.2.c1; have k8 := hw.2.2.c2; go_simp⟩ ?_
            try go_frame
            refine Tkc.onlyC (i := 6) rfl (by kernel_rfl) (fun _ => hc) (by rfl) (fun K hK => ?_)
            go_simp
            refine hK _ _ ?_
            clear hK K
            try go_frame
            refine Tkc.onlyC (i := 7) rfl (by kernel_rfl) (fun _ => hc) (by rfl) (fun K hK => ?_)
            go_simp
            refine hK _ _ ?_
            clear hK K
            try go_frame
            refine Tkc.onlyC (i := 8) rfl (by kernel_rfl) (fun _ => hc) (by rfl) (fun K hK => ?_)
            go_simp
            refine hK _ _ ?_
            clear hK K
            try go_frame
            refine Tkc.takeC (i := 9) (v := (.agg #[.int .i64 a.x, .int .i64 a.y, .int .i64 a.z])) rfl (by kernel_rfl) (by kernel_rfl) (by kernel_rfl) (fun _ _ _ h => h) (by decide) (by kernel_rfl) (by kernel_rfl) hc ⟨by rfl, fun w hw => by have k0 := hw.1.c0; have k1 := hw.1.c1; have k2 := hw.1.c2; have k3 := hw.2.1.c0; have k4 := hw.2.1.c1; have k5 := hw.2.1.c2; have k6 := hw.2.2.c0; have k7 := hw.2.2.c1; have k8 := hw.2.2.c2; go_simp⟩ ?_
            try go_frame
            refine Tkc.takeC (i := 11) (v := (.agg #[.int .i64 a.x, .int .i64 a.y, .int .i64 a.z])) rfl (by kernel_rfl) (by kernel_rfl) (by kernel_rfl) (fun _ _ _ h => h) (by decide) (by kernel_rfl) (by kernel_rfl) hc ⟨by rfl, fun w hw => by have k0 := hw.1.c0; have k1 := hw.1.c1; have k2 := hw.1.c2; have k3 := hw.2.1.c0; have k4 := hw.2.1.c1; have k5 := hw.2.1.c2; have k6 := hw.2.2.c0; have k7 := hw.2.2.c1; have k8 := hw.2.2.c2; go_simp⟩ ?_
            try go_frame
            refine Tkc.onlyC (i := 10) rfl (by kernel_rfl) (fun _ => hc) (by rfl) (fun K hK => ?_)
            go_simp
            refine (hCk _).mono ?_
            rintro e wn ⟨rfl, hb⟩
            refine hK _ _ ?_
            clear hK K
            have hc : NBox wn w.heap.size a ∧ NBox wn gs S ∧ NBox wn (gs + 1) S := ⟨hc.1.below hb hc.1.lt, hc.2.1.below hb hc.2.1.lt, hc.2.2.below hb hc.2.2.lt⟩
            have hBx : Hid (Below wc.heap.size wc wn) := hBx.out.trans (hb.mono hBx.out.size)
            clear hb
            try go_frame
            refine Tkc.onlyC (i := 12) rfl (by kernel_rfl) (fun _ => hc) (by rfl) (fun K hK => ?_)
            go_simp
            refine (hNF _).mono ?_
            rintro e wn ⟨rfl, hb⟩
            refine hK _ _ ?_
            clear hK K
            have hc : NBox wn w.heap.size a ∧ NBox wn gs S ∧ NBox wn (gs + 1) S := ⟨hc.1.below hb hc.1.lt, hc.2.1.below hb hc.2.1.lt, hc.2.2.below hb hc.2.2.lt⟩
            have hBx : Hid (Below wc.heap.size wc wn) := hBx.out.trans (hb.mono hBx.out.size)
            clear hb
            try go_frame
            refine Tkc.onlyC (i := 13) rfl (by kernel_rfl) (fun _ => hc) (by rfl) (fun K hK => ?_)
            go_simp
            refine hK _ _ ?_
            clear hK K
            try go_frame
            refine Tkc.onlyC (i := 14) rfl (by kernel_rfl) (fun _ => hc) (by rfl) (fun K hK => ?_)
            go_simp
            refine hK _ _ ?_
            clear hK K
            try go_frame
            refine Tkc.doneC (by kernel_rfl) (fun _ => hc) ?_
            have w_a : NBox wn w.heap.size a := hmH.out.1.below hBx.out hmH.out.1.lt
            have w_b : NBox wn (w.heap.size + 1) b := hmH.out.2.1.below hBx.out hmH.out.2.1.lt
            have w_x : NBox wn gx X := hmH.out.2.2.1.below hBx.out hmH.out.2.2.1.lt
            have w_y : NBox wn gy Y := hmH.out.2.2.2.1.below hBx.out hmH.out.2.2.2.1.lt
            have x0_a : wn.heap[w.heap.size]? = some (.cells #[.int .i64 a.x, .int .i64 a.y, .int .i64 a.z] 23 (0, 0)) := w_a
            have x0_b : wn.heap[w.heap.size + 1]? = some (.cells #[.int .i64 b.x, .int .i64 b.y, .int .i64 b.z] 23 (0, 0)) := w_b
            have HB0 : Below w.heap.size w wn := hBH.out.trans (hBx.out.mono hBH.out.size)
            clear w_a w_b hc hBx hmH hq17H hCk hss hee hee2
            have heq := eqlN
            have hG1 := fun w1 => faultR_any a w1
            have hG2 := fun w1 => faultR_any b w1
            by_cases oa : okN a = true
            · by_cases ob : okN b = true
              · obtain ⟨P, hPe⟩ : ∃ P, addN a b = P := ⟨_, rfl⟩
                obtain ⟨M, hMe⟩ : ∃ M, subN a b = M := ⟨_, rfl⟩
                have hP := fun w1 => plusR_add a b w1 oa ob
                have hM := fun w1 => plusR_sub a b w1 oa ob
                have hG3 := fun w1 => faultR_any (addN a b) w1
                have hFt1 := fun w1 => fitsR_any a b w1
                have hFt2 := fun w1 => fitsR_any b a w1
                rw [oa, show ce true = 0 from rfl] at hG1
                rw [ob, show ce true = 0 from rfl] at hG2
                have cab : (okN a && okN b) = true := by rw [oa, ob]; rfl
                have v1 : ftN a b = fv := by rw [← FH.out.1, cab]; rfl
                have v2 : fe = 0 := by rw [← FH.out.2, cab]; rfl
                subst v2
                rw [v1] at hFt1
                have hvv : (fv != fv) = false := by simp
                have XH2 : X = (if okN P then P else nz) ∧ xe = (if okN P then 0 else 2) := by
                  rw [← XH.out.1, ← XH.out.2]
                  unfold aR aE
                  rw [if_pos cab, if_pos cab, hPe]
                  exact ⟨rfl, rfl⟩
                have YH2 : Y = (if ftN b a then M else nz) ∧ ye = (if ftN b a then 0 else 10) := by
                  rw [← YH.out.1, ← YH.out.2]
                  unfold sR sE
                  rw [if_pos cab, if_pos cab, hMe]
                  exact ⟨rfl, rfl⟩
                have TH2 : tv = (if isZ a then 0 else tk a b 3) ∧ te = (if isZ a then 1 else 0) := by
                  rw [← TH.out.1, ← TH.out.2]
                  unfold tV tE
                  rw [if_pos cab, if_pos cab]
                  exact ⟨rfl, rfl⟩
                have hbd := tk_bd oa ob
                have hT1 := fun w1 => timesL_any a b (tk a b 3) w1 oa ob
                have hT2 := fun w1 => timesL_any a b (tk a b 3 + 1) w1 oa ob
                have hzn : isZ a = false → tmB a b (tk a b 3 + 1) = false := fun h => tm_no oa ob h
                rw [tm_yes] at hT1
                rw [hPe] at hP hG3
                rw [hMe] at hM
                clear XH YH TH FH cab v1 hPe hMe oa ob hNF
                rcases Bool.eq_false_or_eq_true (okN P) with op | op
                · skip
                  rw [op] at XH2 hG3
                  obtain ⟨u1, u2⟩ := XH2
                  simp only [if_true] at u1 u2
                  have u1s := u1.symm
                  clear u1
                  subst u1s u2
                  rw [show ce true = 0 from rfl] at hG3
                  clear op
                  rcases Bool.eq_false_or_eq_true (ftN b a) with of | of
                  · skip
                    rw [of] at YH2 hFt2
                    obtain ⟨u3, u4⟩ := YH2
                    simp only [if_true] at u3 u4
                    have u3s := u3.symm
                    clear u3
                    subst u3s u4
                    clear of
                    rcases Bool.eq_false_or_eq_true (isZ a) with oz | oz
                    · skip
                      rw [oz] at TH2
                      obtain ⟨u5, u6⟩ := TH2
                      simp only [if_true] at u5 u6
                      subst u5 u6
                      have hz : (decide (a.x = 0) && (decide (a.y = 0) && decide (a.z = 0))) = true := oz
                      clear oz hT1 hT2 hzn hbd
                      have x0_x : wn.heap[gx]? = some (.cells #[.int .i64 P.x, .int .i64 P.y, .int .i64 P.z] 23 (0, 0)) := w_x
                      have x0_y : wn.heap[gy]? = some (.cells #[.int .i64 M.x, .int .i64 M.y, .int .i64 M.z] 23 (0, 0)) := w_y
                      clear w_x w_y
                      go_wp2_with (first
                        | (refine load_wanted rfl 23 _ rfl _ rfl _ _ _ _ x0_a Try.underlying23 rfl (need_info _ rfl) ?_)
                        | (go_at_call 9; refine (hG1 _).mono ?_; rintro e w1 ⟨rfl, hb1⟩; clear hG1; have y_a : NBox w1 (w.heap.size) a := NBox.below (a := a) x0_a hb1 (NBox.lt (a := a) x0_a); have y_b : NBox w1 (w.heap.size + 1) b := NBox.below (a := b) x0_b hb1 (NBox.lt (a := b) x0_b); have y_x : NBox w1 (gx) P := NBox.below (a := P) x0_x hb1 (NBox.lt (a := P) x0_x); have y_y : NBox w1 (gy) M := NBox.below (a := M) x0_y hb1 (NBox.lt (a := M) x0_y); have HB1 : Below w.heap.size w w1 := HB0.trans (hb1.mono HB0.size); have x1_a : w1.heap[w.heap.size]? = some (.cells #[.int .i64 a.x, .int .i64 a.y, .int .i64 a.z] 23 (0, 0)) := y_a; have x1_b : w1.heap[w.heap.size + 1]? = some (.cells #[.int .i64 b.x, .int .i64 b.y, .int .i64 b.z] 23 (0, 0)) := y_b; have x1_x : w1.heap[gx]? = some (.cells #[.int .i64 P.x, .int .i64 P.y, .int .i64 P.z] 23 (0, 0)) := y_x; have x1_y : w1.heap[gy]? = some (.cells #[.int .i64 M.x, .int .i64 M.y, .int .i64 M.z] 23 (0, 0)) := y_y; clear hb1 HB0 x0_a x0_b x0_x x0_y y_a y_b y_x y_y)
                        | (refine load_wanted rfl 23 _ rfl _ rfl _ _ _ _ x1_b Try.underlying23 rfl (need_info _ rfl) ?_)
                        | (go_at_call 9; refine (hG2 _).mono ?_; rintro e w2 ⟨rfl, hb2⟩; clear hG2; have y_a : NBox w2 (w.heap.size) a := NBox.below (a := a) x1_a hb2 (NBox.lt (a := a) x1_a); have y_b : NBox w2 (w.heap.size + 1) b := NBox.below (a := b) x1_b hb2 (NBox.lt (a := b) x1_b); have y_x : NBox w2 (gx) P := NBox.below (a := P) x1_x hb2 (NBox.lt (a := P) x1_x); have y_y : NBox w2 (gy) M := NBox.below (a := M) x1_y hb2 (NBox.lt (a := M) x1_y); have HB2 : Below w.heap.size w (w2.alloc (.cells #[.int .i64 0, .int .i64 0, .int .i64 0] 23)) := (HB1.trans (hb2.mono HB1.size)).alloc (Nat.le_trans HB1.size hb2.size) _; have x2_a : (w2.alloc (.cells #[.int .i64 0, .int .i64 0, .int .i64 0] 23)).heap[w.heap.size]? = some (.cells #[.int .i64 a.x, .int .i64 a.y, .int .i64 a.z] 23 (0, 0)) := (Below.heap_alloc _ _ _ (NBox.lt y_a)).trans y_a; have x2_b : (w2.alloc (.cells #[.int .i64 0, .int .i64 0, .int .i64 0] 23)).heap[w.heap.size + 1]? = some (.cells #[.int .i64 b.x, .int .i64 b.y, .int .i64 b.z] 23 (0, 0)) := (Below.heap_alloc _ _ _ (NBox.lt y_b)).trans y_b; have x2_x : (w2.alloc (.cells #[.int .i64 0, .int .i64 0, .int .i64 0] 23)).heap[gx]? = some (.cells #[.int .i64 P.x, .int .i64 P.y, .int .i64 P.z] 23 (0, 0)) := (Below.heap_alloc _ _ _ (NBox.lt y_x)).trans y_x; have x2_y : (w2.alloc (.cells #[.int .i64 0, .int .i64 0, .int .i64 0] 23)).heap[gy]? = some (.cells #[.int .i64 M.x, .int .i64 M.y, .int .i64 M.z] 23 (0, 0)) := (Below.heap_alloc _ _ _ (NBox.lt y_y)).trans y_y; have x2_none : (w2.alloc (.cells #[.int .i64 0, .int .i64 0, .int .i64 0] 23)).heap[w2.heap.size]? = some (.cells #[.int .i64 0, .int .i64 0, .int .i64 0] 23 (0, 0)) := heap_alloc_new _ _; clear hb2 HB1 x1_a x1_b x1_x x1_y y_a y_b y_x y_y)
                        | (refine load_wanted rfl 23 _ rfl _ rfl _ _ _ _ x2_a Try.underlying23 rfl (need_info _ rfl) ?_)
                        | (refine load_wanted rfl 23 _ rfl _ rfl _ _ _ _ x2_b Try.underlying23 rfl (need_info _ rfl) ?_)
                        | (go_at_call 12; refine (hFt1 _).mono ?_; rintro e w3 ⟨rfl, hb3⟩; clear hFt1; have y_a : NBox w3 (w.heap.size) a := NBox.below (a := a) x2_a hb3 (NBox.lt (a := a) x2_a); have y_b : NBox w3 (w.heap.size + 1) b := NBox.below (a := b) x2_b hb3 (NBox.lt (a := b) x2_b); have y_x : NBox w3 (gx) P := NBox.below (a := P) x2_x hb3 (NBox.lt (a := P) x2_x); have y_y : NBox w3 (gy) M := NBox.below (a := M) x2_y hb3 (NBox.lt (a := M) x2_y); have y_none : NBox w3 (w2.heap.size) nz := NBox.below (a := nz) x2_none hb3 (NBox.lt (a := nz) x2_none); have HB3 : Below w.heap.size w w3 := HB2.trans (hb3.mono HB2.size); have x3_a : w3.heap[w.heap.size]? = some (.cells #[.int .i64 a.x, .int .i64 a.y, .int .i64 a.z] 23 (0, 0)) := y_a; have x3_b : w3.heap[w.heap.size + 1]? = some (.cells #[.int .i64 b.x, .int .i64 b.y, .int .i64 b.z] 23 (0, 0)) := y_b; have x3_x : w3.heap[gx]? = some (.cells #[.int .i64 P.x, .int .i64 P.y, .int .i64 P.z] 23 (0, 0)) := y_x; have x3_y : w3.heap[gy]? = some (.cells #[.int .i64 M.x, .int .i64 M.y, .int .i64 M.z] 23 (0, 0)) := y_y; have x3_none : w3.heap[w2.heap.size]? = some (.cells #[.int .i64 0, .int .i64 0, .int .i64 0] 23 (0, 0)) := y_none; clear hb3 HB2 x2_a x2_b x2_x x2_y x2_none y_a y_b y_x y_y y_none)
                        | (refine load_wanted rfl 23 _ rfl _ rfl _ _ _ _ x3_a Try.underlying23 rfl (need_info _ rfl) ?_)
                        | (refine load_wanted rfl 23 _ rfl _ rfl _ _ _ _ x3_b Try.underlying23 rfl (need_info _ rfl) ?_)
                        | (go_at_call 10; refine (hP _).mono ?_; rintro e w4 ⟨rfl, hb4⟩; clear hP; have y_a : NBox w4 (w.heap.size) a := NBox.below (a := a) x3_a hb4 (NBox.lt (a := a) x3_a); have y_b : NBox w4 (w.heap.size + 1) b := NBox.below (a := b) x3_b hb4 (NBox.lt (a := b) x3_b); have y_x : NBox w4 (gx) P := NBox.below (a := P) x3_x hb4 (NBox.lt (a := P) x3_x); have y_y : NBox w4 (gy) M := NBox.below (a := M) x3_y hb4 (NBox.lt (a := M) x3_y); have y_none : NBox w4 (w2.heap.size) nz := NBox.below (a := nz) x3_none hb4 (NBox.lt (a := nz) x3_none); have HB4 : Below w.heap.size w (w4.alloc (.cells #[.int .i64 P.x, .int .i64 P.y, .int .i64 P.z] 23)) := (HB3.trans (hb4.mono HB3.size)).alloc (Nat.le_trans HB3.size hb4.size) _; have x4_a : (w4.alloc (.cells #[.int .i64 P.x, .int .i64 P.y, .int .i64 P.z] 23)).heap[w.heap.size]? = some (.cells #[.int .i64 a.x, .int .i64 a.y, .int .i64 a.z] 23 (0, 0)) := (Below.heap_alloc _ _ _ (NBox.lt y_a)).trans y_a; have x4_b : (w4.alloc (.cells #[.int .i64 P.x, .int .i64 P.y, .int .i64 P.z] 23)).heap[w.heap.size + 1]? = some (.cells #[.int .i64 b.x, .int .i64 b.y, .int .i64 b.z] 23 (0, 0)) := (Below.heap_alloc _ _ _ (NBox.lt y_b)).trans y_b; have x4_x : (w4.alloc (.cells #[.int .i64 P.x, .int .i64 P.y, .int .i64 P.z] 23)).heap[gx]? = some (.cells #[.int .i64 P.x, .int .i64 P.y, .int .i64 P.z] 23 (0, 0)) := (Below.heap_alloc _ _ _ (NBox.lt y_x)).trans y_x; have x4_y : (w4.alloc (.cells #[.int .i64 P.x, .int .i64 P.y, .int .i64 P.z] 23)).heap[gy]? = some (.cells #[.int .i64 M.x, .int .i64 M.y, .int .i64 M.z] 23 (0, 0)) := (Below.heap_alloc _ _ _ (NBox.lt y_y)).trans y_y; have x4_none : (w4.alloc (.cells #[.int .i64 P.x, .int .i64 P.y, .int .i64 P.z] 23)).heap[w2.heap.size]? = some (.cells #[.int .i64 0, .int .i64 0, .int .i64 0] 23 (0, 0)) := (Below.heap_alloc _ _ _ (NBox.lt y_none)).trans y_none; have x4_both : (w4.alloc (.cells #[.int .i64 P.x, .int .i64 P.y, .int .i64 P.z] 23)).heap[w4.heap.size]? = some (.cells #[.int .i64 P.x, .int .i64 P.y, .int .i64 P.z] 23 (0, 0)) := heap_alloc_new _ _; clear hb4 HB3 x3_a x3_b x3_x x3_y x3_none y_a y_b y_x y_y y_none)
                        | (refine load_wanted rfl 23 _ rfl _ rfl _ _ _ _ x4_both Try.underlying23 rfl (need_info _ rfl) ?_)
                        | (go_at_call 9; refine (hG3 _).mono ?_; rintro e w5 ⟨rfl, hb5⟩; clear hG3; have y_a : NBox w5 (w.heap.size) a := NBox.below (a := a) x4_a hb5 (NBox.lt (a := a) x4_a); have y_b : NBox w5 (w.heap.size + 1) b := NBox.below (a := b) x4_b hb5 (NBox.lt (a := b) x4_b); have y_x : NBox w5 (gx) P := NBox.below (a := P) x4_x hb5 (NBox.lt (a := P) x4_x); have y_y : NBox w5 (gy) M := NBox.below (a := M) x4_y hb5 (NBox.lt (a := M) x4_y); have y_none : NBox w5 (w2.heap.size) nz := NBox.below (a := nz) x4_none hb5 (NBox.lt (a := nz) x4_none); have y_both : NBox w5 (w4.heap.size) P := NBox.below (a := P) x4_both hb5 (NBox.lt (a := P) x4_both); have HB5 : Below w.heap.size w w5 := HB4.trans (hb5.mono HB4.size); have x5_a : w5.heap[w.heap.size]? = some (.cells #[.int .i64 a.x, .int .i64 a.y, .int .i64 a.z] 23 (0, 0)) := y_a; have x5_b : w5.heap[w.heap.size + 1]? = some (.cells #[.int .i64 b.x, .int .i64 b.y, .int .i64 b.z] 23 (0, 0)) := y_b; have x5_x : w5.heap[gx]? = some (.cells #[.int .i64 P.x, .int .i64 P.y, .int .i64 P.z] 23 (0, 0)) := y_x; have x5_y : w5.heap[gy]? = some (.cells #[.int .i64 M.x, .int .i64 M.y, .int .i64 M.z] 23 (0, 0)) := y_y; have x5_none : w5.heap[w2.heap.size]? = some (.cells #[.int .i64 0, .int .i64 0, .int .i64 0] 23 (0, 0)) := y_none; have x5_both : w5.heap[w4.heap.size]? = some (.cells #[.int .i64 P.x, .int .i64 P.y, .int .i64 P.z] 23 (0, 0)) := y_both; clear hb5 HB4 x4_a x4_b x4_x x4_y x4_none x4_both y_a y_b y_x y_y y_none y_both)
                        | (refine load_wanted rfl 23 _ rfl _ rfl _ _ _ _ x5_x Try.underlying23 rfl (need_info _ rfl) ?_)
                        | (refine load_wanted rfl 23 _ rfl _ rfl _ _ _ _ x5_both Try.underlying23 rfl (need_info _ rfl) ?_)
                        | (refine load_wanted rfl 23 _ rfl _ rfl _ _ _ _ x5_b Try.underlying23 rfl (need_info _ rfl) ?_)
                        | (refine load_wanted rfl 23 _ rfl _ rfl _ _ _ _ x5_a Try.underlying23 rfl (need_info _ rfl) ?_)
                        | (go_at_call 12; refine (hFt2 _).mono ?_; rintro e w6 ⟨rfl, hb6⟩; clear hFt2; have y_a : NBox w6 (w.heap.size) a := NBox.below (a := a) x5_a hb6 (NBox.lt (a := a) x5_a); have y_b : NBox w6 (w.heap.size + 1) b := NBox.below (a := b) x5_b hb6 (NBox.lt (a := b) x5_b); have y_x : NBox w6 (gx) P := NBox.below (a := P) x5_x hb6 (NBox.lt (a := P) x5_x); have y_y : NBox w6 (gy) M := NBox.below (a := M) x5_y hb6 (NBox.lt (a := M) x5_y); have y_none : NBox w6 (w2.heap.size) nz := NBox.below (a := nz) x5_none hb6 (NBox.lt (a := nz) x5_none); have y_both : NBox w6 (w4.heap.size) P := NBox.below (a := P) x5_both hb6 (NBox.lt (a := P) x5_both); have HB6 : Below w.heap.size w w6 := HB5.trans (hb6.mono HB5.size); have x6_a : w6.heap[w.heap.size]? = some (.cells #[.int .i64 a.x, .int .i64 a.y, .int .i64 a.z] 23 (0, 0)) := y_a; have x6_b : w6.heap[w.heap.size + 1]? = some (.cells #[.int .i64 b.x, .int .i64 b.y, .int .i64 b.z] 23 (0, 0)) := y_b; have x6_x : w6.heap[gx]? = some (.cells #[.int .i64 P.x, .int .i64 P.y, .int .i64 P.z] 23 (0, 0)) := y_x; have x6_y : w6.heap[gy]? = some (.cells #[.int .i64 M.x, .int .i64 M.y, .int .i64 M.z] 23 (0, 0)) := y_y; have x6_none : w6.heap[w2.heap.size]? = some (.cells #[.int .i64 0, .int .i64 0, .int .i64 0] 23 (0, 0)) := y_none; have x6_both : w6.heap[w4.heap.size]? = some (.cells #[.int .i64 P.x, .int .i64 P.y, .int .i64 P.z] 23 (0, 0)) := y_both; clear hb6 HB5 x5_a x5_b x5_x x5_y x5_none x5_both y_a y_b y_x y_y y_none y_both)
                        | go_in)
                      have hc : NBox w6.drew w.heap.size a ∧ NBox w6.drew (w.heap.size + 1) b ∧ NBox w6.drew gy M ∧ NBox w6.drew w2.heap.size nz := ⟨x6_a, x6_b, x6_y, x6_none⟩
                      have hBx : Hid (Below w.heap.size w w6.drew) := HB6.drew
                      clear x6_a x6_b x6_x x6_y x6_none x6_both HB6
                      generalize w2.heap.size = gn at *
                      refine Tkc.region_anyC (C := fun w' => NBox w' w.heap.size a ∧ NBox w' (w.heap.size + 1) b ∧ NBox w' gy M ∧ NBox w' gn nz) (s := 9) (by kernel_rfl) ?_
                      generalize w6.drew = wd2 at *
                      refine Tkc.takeC (i := 0) (v := (.agg #[.int .i64 M.x, .int .i64 M.y, .int .i64 M.z])) rfl (by kernel_rfl) (by kernel_rfl) (by kernel_rfl) (fun _ _ _ h => h) (by decide) (by kernel_rfl) (by kernel_rfl) hc ⟨by rfl, fun w hw => by have k0 := hw.1.c0; have k1 := hw.1.c1; have k2 := hw.1.c2; have k3 := hw.2.1.c0; have k4 := hw.2.1.c1; have k5 := hw.2.1.c2; have k6 := hw.2.2.1.c0; have k7 := hw.2.2.1.c1; have k8 := hw.2.2.1.c2; go_simp⟩ ?_
                      try go_frame
                      refine Tkc.takeC (i := 1) (v := (.agg #[.int .i64 a.x, .int .i64 a.y, .int .i64 a.z])) rfl (by kernel_rfl) (by kernel_rfl) (by kernel_rfl) (fun _ _ _ h => h) (by decide) (by kernel_rfl) (by kernel_rfl) hc ⟨by rfl, fun w hw => by have k0 := hw.1.c0; have k1 := hw.1.c1; have k2 := hw.1.c2; have k3 := hw.2.1.c0; have k4 := hw.2.1.c1; have k5 := hw.2.1.c2; have k6 := hw.2.2.1.c0; have k7 := hw.2.2.1.c1; have k8 := hw.2.2.1.c2; go_simp⟩ ?_
                      try go_frame
                      refine Tkc.takeC (i := 2) (v := (.agg #[.int .i64 b.x, .int .i64 b.y, .int .i64 b.z])) rfl (by kernel_rfl) (by kernel_rfl) (by kernel_rfl) (fun _ _ _ h => h) (by decide) (by kernel_rfl) (by kernel_rfl) hc ⟨by rfl, fun w hw => by have k0 := hw.1.c0; have k1 := hw.1.c1; have k2 := hw.1.c2; have k3 := hw.2.1.c0; have k4 := hw.2.1.c1; have k5 := hw.2.1.c2; have k6 := hw.2.2.1.c0; have k7 := hw.2.2.1.c1; have k8 := hw.2.2.1.c2; go_simp⟩ ?_
                      try go_frame
                      refine Tkc.onlyC (i := 3) rfl (by kernel_rfl) (fun _ => hc) (by rfl) (fun K hK => ?_)
                      go_simp
                      refine (hM _).mono ?_
                      rintro e wn ⟨rfl, hb⟩
                      refine hK _ _ ?_
                      clear hK K
                      have hc : NBox wn w.heap.size a ∧ NBox wn (w.heap.size + 1) b ∧ NBox wn gy M ∧ NBox wn gn nz := ⟨hc.1.below hb hc.1.lt, hc.2.1.below hb hc.2.1.lt, hc.2.2.1.below hb hc.2.2.1.lt, hc.2.2.2.below hb hc.2.2.2.lt⟩
                      have hBx : Hid (Below w.heap.size w wn) := hBx.out.trans (hb.mono hBx.out.size)
                      clear hb
                      try go_frame
                      refine Tkc.onlyC (i := 4) rfl (by kernel_rfl) (fun _ => hc) (by rfl) (fun K hK => ?_)
                      go_simp
                      refine hK _ _ ?_
                      clear hK K
                      try go_frame
                      refine Tkc.onlyC (i := 5) rfl (by kernel_rfl) (fun _ => hc) (by rfl) (fun K hK => ?_)
                      go_simp
                      refine hK _ _ ?_
                      clear hK K
                      try go_frame
                      refine Tkc.onlyC (i := 6) rfl (by kernel_rfl) (fun _ => hc) (by rfl) (fun K hK => ?_)
                      go_simp
                      refine hK _ _ ?_
                      clear hK K
                      try go_frame
                      refine Tkc.onlyC (i := 7) rfl (by kernel_rfl) (fun _ => hc) (by rfl) (fun K hK => ?_)
                      go_simp
                      refine hK _ _ ?_
                      clear hK K
                      try go_frame
                      refine Tkc.onlyC (i := 8) rfl (by kernel_rfl) (fun _ => hc) (by rfl) (fun K hK => ?_)
                      go_simp
                      refine hK _ _ ?_
                      clear hK K
                      try go_frame
                      refine Tkc.doneC (by kernel_rfl) (fun _ => hc) ?_
                      have x0_a : wn.heap[w.heap.size]? = some (.cells #[.int .i64 a.x, .int .i64 a.y, .int .i64 a.z] 23 (0, 0)) := hc.1
                      have x0_b : wn.heap[w.heap.size + 1]? = some (.cells #[.int .i64 b.x, .int .i64 b.y, .int .i64 b.z] 23 (0, 0)) := hc.2.1
                      have x0_none : wn.heap[gn]? = some (.cells #[.int .i64 0, .int .i64 0, .int .i64 0] 23 (0, 0)) := hc.2.2.2
                      have HB0 : Below w.heap.size w wn := hBx.out
                      clear hc hBx hM
                      go_wp2_with (first
                        | (refine load_wanted rfl 23 _ rfl _ rfl _ _ _ _ x0_a Try.underlying23 rfl (need_info _ rfl) ?_)
                        | (refine load_wanted rfl 23 _ rfl _ rfl _ _ _ _ x0_none Try.underlying23 rfl (need_info _ rfl) ?_)
                        | go_in)
                      go_ret
                      exact ⟨by first | rfl | simp, HB0⟩
                    · skip
                      rw [oz] at TH2
                      obtain ⟨u5, u6⟩ := TH2
                      simp only [Bool.false_eq_true, if_false] at u5 u6
                      subst u6
                      rw [hzn oz] at hT2
                      rw [← u5] at hT1 hT2 hbd
                      obtain ⟨hbd1, hbd2⟩ := hbd
                      have hz : (decide (a.x = 0) && (decide (a.y = 0) && decide (a.z = 0))) = false := oz
                      clear oz hzn u5
                      have x0_x : wn.heap[gx]? = some (.cells #[.int .i64 P.x, .int .i64 P.y, .int .i64 P.z] 23 (0, 0)) := w_x
                      have x0_y : wn.heap[gy]? = some (.cells #[.int .i64 M.x, .int .i64 M.y, .int .i64 M.z] 23 (0, 0)) := w_y
                      clear w_x w_y
                      go_wp2_with (first
                        | (refine load_wanted rfl 23 _ rfl _ rfl _ _ _ _ x0_a Try.underlying23 rfl (need_info _ rfl) ?_)
                        | (go_at_call 9; refine (hG1 _).mono ?_; rintro e w1 ⟨rfl, hb1⟩; clear hG1; have y_a : NBox w1 (w.heap.size) a := NBox.below (a := a) x0_a hb1 (NBox.lt (a := a) x0_a); have y_b : NBox w1 (w.heap.size + 1) b := NBox.below (a := b) x0_b hb1 (NBox.lt (a := b) x0_b); have y_x : NBox w1 (gx) P := NBox.below (a := P) x0_x hb1 (NBox.lt (a := P) x0_x); have y_y : NBox w1 (gy) M := NBox.below (a := M) x0_y hb1 (NBox.lt (a := M) x0_y); have HB1 : Below w.heap.size w w1 := HB0.trans (hb1.mono HB0.size); have x1_a : w1.heap[w.heap.size]? = some (.cells #[.int .i64 a.x, .int .i64 a.y, .int .i64 a.z] 23 (0, 0)) := y_a; have x1_b : w1.heap[w.heap.size + 1]? = some (.cells #[.int .i64 b.x, .int .i64 b.y, .int .i64 b.z] 23 (0, 0)) := y_b; have x1_x : w1.heap[gx]? = some (.cells #[.int .i64 P.x, .int .i64 P.y, .int .i64 P.z] 23 (0, 0)) := y_x; have x1_y : w1.heap[gy]? = some (.cells #[.int .i64 M.x, .int .i64 M.y, .int .i64 M.z] 23 (0, 0)) := y_y; clear hb1 HB0 x0_a x0_b x0_x x0_y y_a y_b y_x y_y)
                        | (refine load_wanted rfl 23 _ rfl _ rfl _ _ _ _ x1_b Try.underlying23 rfl (need_info _ rfl) ?_)
                        | (go_at_call 9; refine (hG2 _).mono ?_; rintro e w2 ⟨rfl, hb2⟩; clear hG2; have y_a : NBox w2 (w.heap.size) a := NBox.below (a := a) x1_a hb2 (NBox.lt (a := a) x1_a); have y_b : NBox w2 (w.heap.size + 1) b := NBox.below (a := b) x1_b hb2 (NBox.lt (a := b) x1_b); have y_x : NBox w2 (gx) P := NBox.below (a := P) x1_x hb2 (NBox.lt (a := P) x1_x); have y_y : NBox w2 (gy) M := NBox.below (a := M) x1_y hb2 (NBox.lt (a := M) x1_y); have HB2 : Below w.heap.size w (w2.alloc (.cells #[.int .i64 0, .int .i64 0, .int .i64 0] 23)) := (HB1.trans (hb2.mono HB1.size)).alloc (Nat.le_trans HB1.size hb2.size) _; have x2_a : (w2.alloc (.cells #[.int .i64 0, .int .i64 0, .int .i64 0] 23)).heap[w.heap.size]? = some (.cells #[.int .i64 a.x, .int .i64 a.y, .int .i64 a.z] 23 (0, 0)) := (Below.heap_alloc _ _ _ (NBox.lt y_a)).trans y_a; have x2_b : (w2.alloc (.cells #[.int .i64 0, .int .i64 0, .int .i64 0] 23)).heap[w.heap.size + 1]? = some (.cells #[.int .i64 b.x, .int .i64 b.y, .int .i64 b.z] 23 (0, 0)) := (Below.heap_alloc _ _ _ (NBox.lt y_b)).trans y_b; have x2_x : (w2.alloc (.cells #[.int .i64 0, .int .i64 0, .int .i64 0] 23)).heap[gx]? = some (.cells #[.int .i64 P.x, .int .i64 P.y, .int .i64 P.z] 23 (0, 0)) := (Below.heap_alloc _ _ _ (NBox.lt y_x)).trans y_x; have x2_y : (w2.alloc (.cells #[.int .i64 0, .int .i64 0, .int .i64 0] 23)).heap[gy]? = some (.cells #[.int .i64 M.x, .int .i64 M.y, .int .i64 M.z] 23 (0, 0)) := (Below.heap_alloc _ _ _ (NBox.lt y_y)).trans y_y; have x2_none : (w2.alloc (.cells #[.int .i64 0, .int .i64 0, .int .i64 0] 23)).heap[w2.heap.size]? = some (.cells #[.int .i64 0, .int .i64 0, .int .i64 0] 23 (0, 0)) := heap_alloc_new _ _; clear hb2 HB1 x1_a x1_b x1_x x1_y y_a y_b y_x y_y)
                        | (refine load_wanted rfl 23 _ rfl _ rfl _ _ _ _ x2_a Try.underlying23 rfl (need_info _ rfl) ?_)
                        | (refine load_wanted rfl 23 _ rfl _ rfl _ _ _ _ x2_b Try.underlying23 rfl (need_info _ rfl) ?_)
                        | (go_at_call 12; refine (hFt1 _).mono ?_; rintro e w3 ⟨rfl, hb3⟩; clear hFt1; have y_a : NBox w3 (w.heap.size) a := NBox.below (a := a) x2_a hb3 (NBox.lt (a := a) x2_a); have y_b : NBox w3 (w.heap.size + 1) b := NBox.below (a := b) x2_b hb3 (NBox.lt (a := b) x2_b); have y_x : NBox w3 (gx) P := NBox.below (a := P) x2_x hb3 (NBox.lt (a := P) x2_x); have y_y : NBox w3 (gy) M := NBox.below (a := M) x2_y hb3 (NBox.lt (a := M) x2_y); have y_none : NBox w3 (w2.heap.size) nz := NBox.below (a := nz) x2_none hb3 (NBox.lt (a := nz) x2_none); have HB3 : Below w.heap.size w w3 := HB2.trans (hb3.mono HB2.size); have x3_a : w3.heap[w.heap.size]? = some (.cells #[.int .i64 a.x, .int .i64 a.y, .int .i64 a.z] 23 (0, 0)) := y_a; have x3_b : w3.heap[w.heap.size + 1]? = some (.cells #[.int .i64 b.x, .int .i64 b.y, .int .i64 b.z] 23 (0, 0)) := y_b; have x3_x : w3.heap[gx]? = some (.cells #[.int .i64 P.x, .int .i64 P.y, .int .i64 P.z] 23 (0, 0)) := y_x; have x3_y : w3.heap[gy]? = some (.cells #[.int .i64 M.x, .int .i64 M.y, .int .i64 M.z] 23 (0, 0)) := y_y; have x3_none : w3.heap[w2.heap.size]? = some (.cells #[.int .i64 0, .int .i64 0, .int .i64 0] 23 (0, 0)) := y_none; clear hb3 HB2 x2_a x2_b x2_x x2_y x2_none y_a y_b y_x y_y y_none)
                        | (refine load_wanted rfl 23 _ rfl _ rfl _ _ _ _ x3_a Try.underlying23 rfl (need_info _ rfl) ?_)
                        | (refine load_wanted rfl 23 _ rfl _ rfl _ _ _ _ x3_b Try.underlying23 rfl (need_info _ rfl) ?_)
                        | (go_at_call 10; refine (hP _).mono ?_; rintro e w4 ⟨rfl, hb4⟩; clear hP; have y_a : NBox w4 (w.heap.size) a := NBox.below (a := a) x3_a hb4 (NBox.lt (a := a) x3_a); have y_b : NBox w4 (w.heap.size + 1) b := NBox.below (a := b) x3_b hb4 (NBox.lt (a := b) x3_b); have y_x : NBox w4 (gx) P := NBox.below (a := P) x3_x hb4 (NBox.lt (a := P) x3_x); have y_y : NBox w4 (gy) M := NBox.below (a := M) x3_y hb4 (NBox.lt (a := M) x3_y); have y_none : NBox w4 (w2.heap.size) nz := NBox.below (a := nz) x3_none hb4 (NBox.lt (a := nz) x3_none); have HB4 : Below w.heap.size w (w4.alloc (.cells #[.int .i64 P.x, .int .i64 P.y, .int .i64 P.z] 23)) := (HB3.trans (hb4.mono HB3.size)).alloc (Nat.le_trans HB3.size hb4.size) _; have x4_a : (w4.alloc (.cells #[.int .i64 P.x, .int .i64 P.y, .int .i64 P.z] 23)).heap[w.heap.size]? = some (.cells #[.int .i64 a.x, .int .i64 a.y, .int .i64 a.z] 23 (0, 0)) := (Below.heap_alloc _ _ _ (NBox.lt y_a)).trans y_a; have x4_b : (w4.alloc (.cells #[.int .i64 P.x, .int .i64 P.y, .int .i64 P.z] 23)).heap[w.heap.size + 1]? = some (.cells #[.int .i64 b.x, .int .i64 b.y, .int .i64 b.z] 23 (0, 0)) := (Below.heap_alloc _ _ _ (NBox.lt y_b)).trans y_b; have x4_x : (w4.alloc (.cells #[.int .i64 P.x, .int .i64 P.y, .int .i64 P.z] 23)).heap[gx]? = some (.cells #[.int .i64 P.x, .int .i64 P.y, .int .i64 P.z] 23 (0, 0)) := (Below.heap_alloc _ _ _ (NBox.lt y_x)).trans y_x; have x4_y : (w4.alloc (.cells #[.int .i64 P.x, .int .i64 P.y, .int .i64 P.z] 23)).heap[gy]? = some (.cells #[.int .i64 M.x, .int .i64 M.y, .int .i64 M.z] 23 (0, 0)) := (Below.heap_alloc _ _ _ (NBox.lt y_y)).trans y_y; have x4_none : (w4.alloc (.cells #[.int .i64 P.x, .int .i64 P.y, .int .i64 P.z] 23)).heap[w2.heap.size]? = some (.cells #[.int .i64 0, .int .i64 0, .int .i64 0] 23 (0, 0)) := (Below.heap_alloc _ _ _ (NBox.lt y_none)).trans y_none; have x4_both : (w4.alloc (.cells #[.int .i64 P.x, .int .i64 P.y, .int .i64 P.z] 23)).heap[w4.heap.size]? = some (.cells #[.int .i64 P.x, .int .i64 P.y, .int .i64 P.z] 23 (0, 0)) := heap_alloc_new _ _; clear hb4 HB3 x3_a x3_b x3_x x3_y x3_none y_a y_b y_x y_y y_none)
                        | (refine load_wanted rfl 23 _ rfl _ rfl _ _ _ _ x4_both Try.underlying23 rfl (need_info _ rfl) ?_)
                        | (go_at_call 9; refine (hG3 _).mono ?_; rintro e w5 ⟨rfl, hb5⟩; clear hG3; have y_a : NBox w5 (w.heap.size) a := NBox.below (a := a) x4_a hb5 (NBox.lt (a := a) x4_a); have y_b : NBox w5 (w.heap.size + 1) b := NBox.below (a := b) x4_b hb5 (NBox.lt (a := b) x4_b); have y_x : NBox w5 (gx) P := NBox.below (a := P) x4_x hb5 (NBox.lt (a := P) x4_x); have y_y : NBox w5 (gy) M := NBox.below (a := M) x4_y hb5 (NBox.lt (a := M) x4_y); have y_none : NBox w5 (w2.heap.size) nz := NBox.below (a := nz) x4_none hb5 (NBox.lt (a := nz) x4_none); have y_both : NBox w5 (w4.heap.size) P := NBox.below (a := P) x4_both hb5 (NBox.lt (a := P) x4_both); have HB5 : Below w.heap.size w w5 := HB4.trans (hb5.mono HB4.size); have x5_a : w5.heap[w.heap.size]? = some (.cells #[.int .i64 a.x, .int .i64 a.y, .int .i64 a.z] 23 (0, 0)) := y_a; have x5_b : w5.heap[w.heap.size + 1]? = some (.cells #[.int .i64 b.x, .int .i64 b.y, .int .i64 b.z] 23 (0, 0)) := y_b; have x5_x : w5.heap[gx]? = some (.cells #[.int .i64 P.x, .int .i64 P.y, .int .i64 P.z] 23 (0, 0)) := y_x; have x5_y : w5.heap[gy]? = some (.cells #[.int .i64 M.x, .int .i64 M.y, .int .i64 M.z] 23 (0, 0)) := y_y; have x5_none : w5.heap[w2.heap.size]? = some (.cells #[.int .i64 0, .int .i64 0, .int .i64 0] 23 (0, 0)) := y_none; have x5_both : w5.heap[w4.heap.size]? = some (.cells #[.int .i64 P.x, .int .i64 P.y, .int .i64 P.z] 23 (0, 0)) := y_both; clear hb5 HB4 x4_a x4_b x4_x x4_y x4_none x4_both y_a y_b y_x y_y y_none y_both)
                        | (refine load_wanted rfl 23 _ rfl _ rfl _ _ _ _ x5_x Try.underlying23 rfl (need_info _ rfl) ?_)
                        | (refine load_wanted rfl 23 _ rfl _ rfl _ _ _ _ x5_both Try.underlying23 rfl (need_info _ rfl) ?_)
                        | (refine load_wanted rfl 23 _ rfl _ rfl _ _ _ _ x5_b Try.underlying23 rfl (need_info _ rfl) ?_)
                        | (refine load_wanted rfl 23 _ rfl _ rfl _ _ _ _ x5_a Try.underlying23 rfl (need_info _ rfl) ?_)
                        | (go_at_call 12; refine (hFt2 _).mono ?_; rintro e w6 ⟨rfl, hb6⟩; clear hFt2; have y_a : NBox w6 (w.heap.size) a := NBox.below (a := a) x5_a hb6 (NBox.lt (a := a) x5_a); have y_b : NBox w6 (w.heap.size + 1) b := NBox.below (a := b) x5_b hb6 (NBox.lt (a := b) x5_b); have y_x : NBox w6 (gx) P := NBox.below (a := P) x5_x hb6 (NBox.lt (a := P) x5_x); have y_y : NBox w6 (gy) M := NBox.below (a := M) x5_y hb6 (NBox.lt (a := M) x5_y); have y_none : NBox w6 (w2.heap.size) nz := NBox.below (a := nz) x5_none hb6 (NBox.lt (a := nz) x5_none); have y_both : NBox w6 (w4.heap.size) P := NBox.below (a := P) x5_both hb6 (NBox.lt (a := P) x5_both); have HB6 : Below w.heap.size w w6 := HB5.trans (hb6.mono HB5.size); have x6_a : w6.heap[w.heap.size]? = some (.cells #[.int .i64 a.x, .int .i64 a.y, .int .i64 a.z] 23 (0, 0)) := y_a; have x6_b : w6.heap[w.heap.size + 1]? = some (.cells #[.int .i64 b.x, .int .i64 b.y, .int .i64 b.z] 23 (0, 0)) := y_b; have x6_x : w6.heap[gx]? = some (.cells #[.int .i64 P.x, .int .i64 P.y, .int .i64 P.z] 23 (0, 0)) := y_x; have x6_y : w6.heap[gy]? = some (.cells #[.int .i64 M.x, .int .i64 M.y, .int .i64 M.z] 23 (0, 0)) := y_y; have x6_none : w6.heap[w2.heap.size]? = some (.cells #[.int .i64 0, .int .i64 0, .int .i64 0] 23 (0, 0)) := y_none; have x6_both : w6.heap[w4.heap.size]? = some (.cells #[.int .i64 P.x, .int .i64 P.y, .int .i64 P.z] 23 (0, 0)) := y_both; clear hb6 HB5 x5_a x5_b x5_x x5_y x5_none x5_both y_a y_b y_x y_y y_none y_both)
                        | go_in)
                      have hc : NBox w6.drew w.heap.size a ∧ NBox w6.drew (w.heap.size + 1) b ∧ NBox w6.drew gy M ∧ NBox w6.drew w2.heap.size nz := ⟨x6_a, x6_b, x6_y, x6_none⟩
                      have hBx : Hid (Below w.heap.size w w6.drew) := HB6.drew
                      clear x6_a x6_b x6_x x6_y x6_none x6_both HB6
                      generalize w2.heap.size = gn at *
                      refine Tkc.region_anyC (C := fun w' => NBox w' w.heap.size a ∧ NBox w' (w.heap.size + 1) b ∧ NBox w' gy M ∧ NBox w' gn nz) (s := 9) (by kernel_rfl) ?_
                      generalize w6.drew = wd2 at *
                      refine Tkc.takeC (i := 0) (v := (.agg #[.int .i64 M.x, .int .i64 M.y, .int .i64 M.z])) rfl (by kernel_rfl) (by kernel_rfl) (by kernel_rfl) (fun _ _ _ h => h) (by decide) (by kernel_rfl) (by kernel_rfl) hc ⟨by rfl, fun w hw => by have k0 := hw.1.c0; have k1 := hw.1.c1; have k2 := hw.1.c2; have k3 := hw.2.1.c0; have k4 := hw.2.1.c1; have k5 := hw.2.1.c2; have k6 := hw.2.2.1.c0; have k7 := hw.2.2.1.c1; have k8 := hw.2.2.1.c2; go_simp⟩ ?_
                      try go_frame
                      refine Tkc.takeC (i := 1) (v := (.agg #[.int .i64 a.x, .int .i64 a.y, .int .i64 a.z])) rfl (by kernel_rfl) (by kernel_rfl) (by kernel_rfl) (fun _ _ _ h => h) (by decide) (by kernel_rfl) (by kernel_rfl) hc ⟨by rfl, fun w hw => by have k0 := hw.1.c0; have k1 := hw.1.c1; have k2 := hw.1.c2; have k3 := hw.2.1.c0; have k4 := hw.2.1.c1; have k5 := hw.2.1.c2; have k6 := hw.2.2.1.c0; have k7 := hw.2.2.1.c1; have k8 := hw.2.2.1.c2; go_simp⟩ ?_
                      try go_frame
                      refine Tkc.takeC (i := 2) (v := (.agg #[.int .i64 b.x, .int .i64 b.y, .int .i64 b.z])) rfl (by kernel_rfl) (by kernel_rfl) (by kernel_rfl) (fun _ _ _ h => h) (by decide) (by kernel_rfl) (by kernel_rfl) hc ⟨by rfl, fun w hw => by have k0 := hw.1.c0; have k1 := hw.1.c1; have k2 := hw.1.c2; have k3 := hw.2.1.c0; have k4 := hw.2.1.c1; have k5 := hw.2.1.c2; have k6 := hw.2.2.1.c0; have k7 := hw.2.2.1.c1; have k8 := hw.2.2.1.c2; go_simp⟩ ?_
                      try go_frame
                      refine Tkc.onlyC (i := 3) rfl (by kernel_rfl) (fun _ => hc) (by rfl) (fun K hK => ?_)
                      go_simp
                      refine (hM _).mono ?_
                      rintro e wn ⟨rfl, hb⟩
                      refine hK _ _ ?_
                      clear hK K
                      have hc : NBox wn w.heap.size a ∧ NBox wn (w.heap.size + 1) b ∧ NBox wn gy M ∧ NBox wn gn nz := ⟨hc.1.below hb hc.1.lt, hc.2.1.below hb hc.2.1.lt, hc.2.2.1.below hb hc.2.2.1.lt, hc.2.2.2.below hb hc.2.2.2.lt⟩
                      have hBx : Hid (Below w.heap.size w wn) := hBx.out.trans (hb.mono hBx.out.size)
                      clear hb
                      try go_frame
                      refine Tkc.onlyC (i := 4) rfl (by kernel_rfl) (fun _ => hc) (by rfl) (fun K hK => ?_)
                      go_simp
                      refine hK _ _ ?_
                      clear hK K
                      try go_frame
                      refine Tkc.onlyC (i := 5) rfl (by kernel_rfl) (fun _ => hc) (by rfl) (fun K hK => ?_)
                      go_simp
                      refine hK _ _ ?_
                      clear hK K
                      try go_frame
                      refine Tkc.onlyC (i := 6) rfl (by kernel_rfl) (fun _ => hc) (by rfl) (fun K hK => ?_)
                      go_simp
                      refine hK _ _ ?_
                      clear hK K
                      try go_frame
                      refine Tkc.onlyC (i := 7) rfl (by kernel_rfl) (fun _ => hc) (by rfl) (fun K hK => ?_)
                      go_simp
                      refine hK _ _ ?_
                      clear hK K
                      try go_frame
                      refine Tkc.onlyC (i := 8) rfl (by kernel_rfl) (fun _ => hc) (by rfl) (fun K hK => ?_)
                      go_simp
                      refine hK _ _ ?_
                      clear hK K
                      try go_frame
                      refine Tkc.doneC (by kernel_rfl) (fun _ => hc) ?_
                      have x0_a : wn.heap[w.heap.size]? = some (.cells #[.int .i64 a.x, .int .i64 a.y, .int .i64 a.z] 23 (0, 0)) := hc.1
                      have x0_b : wn.heap[w.heap.size + 1]? = some (.cells #[.int .i64 b.x, .int .i64 b.y, .int .i64 b.z] 23 (0, 0)) := hc.2.1
                      have x0_none : wn.heap[gn]? = some (.cells #[.int .i64 0, .int .i64 0, .int .i64 0] 23 (0, 0)) := hc.2.2.2
                      have HB0 : Below w.heap.size w wn := hBx.out
                      clear hc hBx hM
                      go_wp2_with (first
                        | (refine load_wanted rfl 23 _ rfl _ rfl _ _ _ _ x0_a Try.underlying23 rfl (need_info _ rfl) ?_)
                        | (refine load_wanted rfl 23 _ rfl _ rfl _ _ _ _ x0_none Try.underlying23 rfl (need_info _ rfl) ?_)
                        | (refine load_wanted rfl 23 _ rfl _ rfl _ _ _ _ x0_b Try.underlying23 rfl (need_info _ rfl) ?_)
                        | (go_at_call 13; refine (hT1 _).mono ?_; rintro e w1 ⟨rfl, hb1⟩; clear hT1; have y_a : NBox w1 (w.heap.size) a := NBox.below (a := a) x0_a hb1 (NBox.lt (a := a) x0_a); have y_b : NBox w1 (w.heap.size + 1) b := NBox.below (a := b) x0_b hb1 (NBox.lt (a := b) x0_b); have y_none : NBox w1 (gn) nz := NBox.below (a := nz) x0_none hb1 (NBox.lt (a := nz) x0_none); have HB1 : Below w.heap.size w w1 := HB0.trans (hb1.mono HB0.size); have x1_a : w1.heap[w.heap.size]? = some (.cells #[.int .i64 a.x, .int .i64 a.y, .int .i64 a.z] 23 (0, 0)) := y_a; have x1_b : w1.heap[w.heap.size + 1]? = some (.cells #[.int .i64 b.x, .int .i64 b.y, .int .i64 b.z] 23 (0, 0)) := y_b; have x1_none : w1.heap[gn]? = some (.cells #[.int .i64 0, .int .i64 0, .int .i64 0] 23 (0, 0)) := y_none; clear hb1 HB0 x0_a x0_b x0_none y_a y_b y_none)
                        | (refine load_wanted rfl 23 _ rfl _ rfl _ _ _ _ x1_a Try.underlying23 rfl (need_info _ rfl) ?_)
                        | (refine load_wanted rfl 23 _ rfl _ rfl _ _ _ _ x1_b Try.underlying23 rfl (need_info _ rfl) ?_)
                        | (go_at_call 13; refine (hT2 _).mono ?_; rintro e w2 ⟨rfl, hb2⟩; clear hT2; have y_a : NBox w2 (w.heap.size) a := NBox.below (a := a) x1_a hb2 (NBox.lt (a := a) x1_a); have y_b : NBox w2 (w.heap.size + 1) b := NBox.below (a := b) x1_b hb2 (NBox.lt (a := b) x1_b); have y_none : NBox w2 (gn) nz := NBox.below (a := nz) x1_none hb2 (NBox.lt (a := nz) x1_none); have HB2 : Below w.heap.size w w2 := HB1.trans (hb2.mono HB1.size); have x2_a : w2.heap[w.heap.size]? = some (.cells #[.int .i64 a.x, .int .i64 a.y, .int .i64 a.z] 23 (0, 0)) := y_a; have x2_b : w2.heap[w.heap.size + 1]? = some (.cells #[.int .i64 b.x, .int .i64 b.y, .int .i64 b.z] 23 (0, 0)) := y_b; have x2_none : w2.heap[gn]? = some (.cells #[.int .i64 0, .int .i64 0, .int .i64 0] 23 (0, 0)) := y_none; clear hb2 HB1 x1_a x1_b x1_none y_a y_b y_none)
                        | go_in)
                      go_ret
                      exact ⟨by first | rfl | simp, HB2⟩
                  · skip
                    rw [of] at YH2 hFt2
                    obtain ⟨u3, u4⟩ := YH2
                    simp only [Bool.false_eq_true, if_false] at u3 u4
                    have u3s := u3.symm
                    clear u3
                    subst u3s u4
                    clear of
                    rcases Bool.eq_false_or_eq_true (isZ a) with oz | oz
                    · skip
                      rw [oz] at TH2
                      obtain ⟨u5, u6⟩ := TH2
                      simp only [if_true] at u5 u6
                      subst u5 u6
                      have hz : (decide (a.x = 0) && (decide (a.y = 0) && decide (a.z = 0))) = true := oz
                      clear oz hT1 hT2 hzn hbd
                      have x0_x : wn.heap[gx]? = some (.cells #[.int .i64 P.x, .int .i64 P.y, .int .i64 P.z] 23 (0, 0)) := w_x
                      have x0_y : wn.heap[gy]? = some (.cells #[.int .i64 0, .int .i64 0, .int .i64 0] 23 (0, 0)) := w_y
                      clear w_x w_y
                      go_wp2_with (first
                        | (refine load_wanted rfl 23 _ rfl _ rfl _ _ _ _ x0_a Try.underlying23 rfl (need_info _ rfl) ?_)
                        | (go_at_call 9; refine (hG1 _).mono ?_; rintro e w1 ⟨rfl, hb1⟩; clear hG1; have y_a : NBox w1 (w.heap.size) a := NBox.below (a := a) x0_a hb1 (NBox.lt (a := a) x0_a); have y_b : NBox w1 (w.heap.size + 1) b := NBox.below (a := b) x0_b hb1 (NBox.lt (a := b) x0_b); have y_x : NBox w1 (gx) P := NBox.below (a := P) x0_x hb1 (NBox.lt (a := P) x0_x); have y_y : NBox w1 (gy) nz := NBox.below (a := nz) x0_y hb1 (NBox.lt (a := nz) x0_y); have HB1 : Below w.heap.size w w1 := HB0.trans (hb1.mono HB0.size); have x1_a : w1.heap[w.heap.size]? = some (.cells #[.int .i64 a.x, .int .i64 a.y, .int .i64 a.z] 23 (0, 0)) := y_a; have x1_b : w1.heap[w.heap.size + 1]? = some (.cells #[.int .i64 b.x, .int .i64 b.y, .int .i64 b.z] 23 (0, 0)) := y_b; have x1_x : w1.heap[gx]? = some (.cells #[.int .i64 P.x, .int .i64 P.y, .int .i64 P.z] 23 (0, 0)) := y_x; have x1_y : w1.heap[gy]? = some (.cells #[.int .i64 0, .int .i64 0, .int .i64 0] 23 (0, 0)) := y_y; clear hb1 HB0 x0_a x0_b x0_x x0_y y_a y_b y_x y_y)
                        | (refine load_wanted rfl 23 _ rfl _ rfl _ _ _ _ x1_b Try.underlying23 rfl (need_info _ rfl) ?_)
                        | (go_at_call 9; refine (hG2 _).mono ?_; rintro e w2 ⟨rfl, hb2⟩; clear hG2; have y_a : NBox w2 (w.heap.size) a := NBox.below (a := a) x1_a hb2 (NBox.lt (a := a) x1_a); have y_b : NBox w2 (w.heap.size + 1) b := NBox.below (a := b) x1_b hb2 (NBox.lt (a := b) x1_b); have y_x : NBox w2 (gx) P := NBox.below (a := P) x1_x hb2 (NBox.lt (a := P) x1_x); have y_y : NBox w2 (gy) nz := NBox.below (a := nz) x1_y hb2 (NBox.lt (a := nz) x1_y); have HB2 : Below w.heap.size w (w2.alloc (.cells #[.int .i64 0, .int .i64 0, .int .i64 0] 23)) := (HB1.trans (hb2.mono HB1.size)).alloc (Nat.le_trans HB1.size hb2.size) _; have x2_a : (w2.alloc (.cells #[.int .i64 0, .int .i64 0, .int .i64 0] 23)).heap[w.heap.size]? = some (.cells #[.int .i64 a.x, .int .i64 a.y, .int .i64 a.z] 23 (0, 0)) := (Below.heap_alloc _ _ _ (NBox.lt y_a)).trans y_a; have x2_b : (w2.alloc (.cells #[.int .i64 0, .int .i64 0, .int .i64 0] 23)).heap[w.heap.size + 1]? = some (.cells #[.int .i64 b.x, .int .i64 b.y, .int .i64 b.z] 23 (0, 0)) := (Below.heap_alloc _ _ _ (NBox.lt y_b)).trans y_b; have x2_x : (w2.alloc (.cells #[.int .i64 0, .int .i64 0, .int .i64 0] 23)).heap[gx]? = some (.cells #[.int .i64 P.x, .int .i64 P.y, .int .i64 P.z] 23 (0, 0)) := (Below.heap_alloc _ _ _ (NBox.lt y_x)).trans y_x; have x2_y : (w2.alloc (.cells #[.int .i64 0, .int .i64 0, .int .i64 0] 23)).heap[gy]? = some (.cells #[.int .i64 0, .int .i64 0, .int .i64 0] 23 (0, 0)) := (Below.heap_alloc _ _ _ (NBox.lt y_y)).trans y_y; have x2_none : (w2.alloc (.cells #[.int .i64 0, .int .i64 0, .int .i64 0] 23)).heap[w2.heap.size]? = some (.cells #[.int .i64 0, .int .i64 0, .int .i64 0] 23 (0, 0)) := heap_alloc_new _ _; clear hb2 HB1 x1_a x1_b x1_x x1_y y_a y_b y_x y_y)
                        | (refine load_wanted rfl 23 _ rfl _ rfl _ _ _ _ x2_a Try.underlying23 rfl (need_info _ rfl) ?_)
                        | (refine load_wanted rfl 23 _ rfl _ rfl _ _ _ _ x2_b Try.underlying23 rfl (need_info _ rfl) ?_)
                        | (go_at_call 12; refine (hFt1 _).mono ?_; rintro e w3 ⟨rfl, hb3⟩; clear hFt1; have y_a : NBox w3 (w.heap.size) a := NBox.below (a := a) x2_a hb3 (NBox.lt (a := a) x2_a); have y_b : NBox w3 (w.heap.size + 1) b := NBox.below (a := b) x2_b hb3 (NBox.lt (a := b) x2_b); have y_x : NBox w3 (gx) P := NBox.below (a := P) x2_x hb3 (NBox.lt (a := P) x2_x); have y_y : NBox w3 (gy) nz := NBox.below (a := nz) x2_y hb3 (NBox.lt (a := nz) x2_y); have y_none : NBox w3 (w2.heap.size) nz := NBox.below (a := nz) x2_none hb3 (NBox.lt (a := nz) x2_none); have HB3 : Below w.heap.size w w3 := HB2.trans (hb3.mono HB2.size); have x3_a : w3.heap[w.heap.size]? = some (.cells #[.int .i64 a.x, .int .i64 a.y, .int .i64 a.z] 23 (0, 0)) := y_a; have x3_b : w3.heap[w.heap.size + 1]? = some (.cells #[.int .i64 b.x, .int .i64 b.y, .int .i64 b.z] 23 (0, 0)) := y_b; have x3_x : w3.heap[gx]? = some (.cells #[.int .i64 P.x, .int .i64 P.y, .int .i64 P.z] 23 (0, 0)) := y_x; have x3_y : w3.heap[gy]? = some (.cells #[.int .i64 0, .int .i64 0, .int .i64 0] 23 (0, 0)) := y_y; have x3_none : w3.heap[w2.heap.size]? = some (.cells #[.int .i64 0, .int .i64 0, .int .i64 0] 23 (0, 0)) := y_none; clear hb3 HB2 x2_a x2_b x2_x x2_y x2_none y_a y_b y_x y_y y_none)
                        | (refine load_wanted rfl 23 _ rfl _ rfl _ _ _ _ x3_a Try.underlying23 rfl (need_info _ rfl) ?_)
                        | (refine load_wanted rfl 23 _ rfl _ rfl _ _ _ _ x3_b Try.underlying23 rfl (need_info _ rfl) ?_)
                        | (go_at_call 10; refine (hP _).mono ?_; rintro e w4 ⟨rfl, hb4⟩; clear hP; have y_a : NBox w4 (w.heap.size) a := NBox.below (a := a) x3_a hb4 (NBox.lt (a := a) x3_a); have y_b : NBox w4 (w.heap.size + 1) b := NBox.below (a := b) x3_b hb4 (NBox.lt (a := b) x3_b); have y_x : NBox w4 (gx) P := NBox.below (a := P) x3_x hb4 (NBox.lt (a := P) x3_x); have y_y : NBox w4 (gy) nz := NBox.below (a := nz) x3_y hb4 (NBox.lt (a := nz) x3_y); have y_none : NBox w4 (w2.heap.size) nz := NBox.below (a := nz) x3_none hb4 (NBox.lt (a := nz) x3_none); have HB4 : Below w.heap.size w (w4.alloc (.cells #[.int .i64 P.x, .int .i64 P.y, .int .i64 P.z] 23)) := (HB3.trans (hb4.mono HB3.size)).alloc (Nat.le_trans HB3.size hb4.size) _; have x4_a : (w4.alloc (.cells #[.int .i64 P.x, .int .i64 P.y, .int .i64 P.z] 23)).heap[w.heap.size]? = some (.cells #[.int .i64 a.x, .int .i64 a.y, .int .i64 a.z] 23 (0, 0)) := (Below.heap_alloc _ _ _ (NBox.lt y_a)).trans y_a; have x4_b : (w4.alloc (.cells #[.int .i64 P.x, .int .i64 P.y, .int .i64 P.z] 23)).heap[w.heap.size + 1]? = some (.cells #[.int .i64 b.x, .int .i64 b.y, .int .i64 b.z] 23 (0, 0)) := (Below.heap_alloc _ _ _ (NBox.lt y_b)).trans y_b; have x4_x : (w4.alloc (.cells #[.int .i64 P.x, .int .i64 P.y, .int .i64 P.z] 23)).heap[gx]? = some (.cells #[.int .i64 P.x, .int .i64 P.y, .int .i64 P.z] 23 (0, 0)) := (Below.heap_alloc _ _ _ (NBox.lt y_x)).trans y_x; have x4_y : (w4.alloc (.cells #[.int .i64 P.x, .int .i64 P.y, .int .i64 P.z] 23)).heap[gy]? = some (.cells #[.int .i64 0, .int .i64 0, .int .i64 0] 23 (0, 0)) := (Below.heap_alloc _ _ _ (NBox.lt y_y)).trans y_y; have x4_none : (w4.alloc (.cells #[.int .i64 P.x, .int .i64 P.y, .int .i64 P.z] 23)).heap[w2.heap.size]? = some (.cells #[.int .i64 0, .int .i64 0, .int .i64 0] 23 (0, 0)) := (Below.heap_alloc _ _ _ (NBox.lt y_none)).trans y_none; have x4_both : (w4.alloc (.cells #[.int .i64 P.x, .int .i64 P.y, .int .i64 P.z] 23)).heap[w4.heap.size]? = some (.cells #[.int .i64 P.x, .int .i64 P.y, .int .i64 P.z] 23 (0, 0)) := heap_alloc_new _ _; clear hb4 HB3 x3_a x3_b x3_x x3_y x3_none y_a y_b y_x y_y y_none)
                        | (refine load_wanted rfl 23 _ rfl _ rfl _ _ _ _ x4_both Try.underlying23 rfl (need_info _ rfl) ?_)
                        | (go_at_call 9; refine (hG3 _).mono ?_; rintro e w5 ⟨rfl, hb5⟩; clear hG3; have y_a : NBox w5 (w.heap.size) a := NBox.below (a := a) x4_a hb5 (NBox.lt (a := a) x4_a); have y_b : NBox w5 (w.heap.size + 1) b := NBox.below (a := b) x4_b hb5 (NBox.lt (a := b) x4_b); have y_x : NBox w5 (gx) P := NBox.below (a := P) x4_x hb5 (NBox.lt (a := P) x4_x); have y_y : NBox w5 (gy) nz := NBox.below (a := nz) x4_y hb5 (NBox.lt (a := nz) x4_y); have y_none : NBox w5 (w2.heap.size) nz := NBox.below (a := nz) x4_none hb5 (NBox.lt (a := nz) x4_none); have y_both : NBox w5 (w4.heap.size) P := NBox.below (a := P) x4_both hb5 (NBox.lt (a := P) x4_both); have HB5 : Below w.heap.size w w5 := HB4.trans (hb5.mono HB4.size); have x5_a : w5.heap[w.heap.size]? = some (.cells #[.int .i64 a.x, .int .i64 a.y, .int .i64 a.z] 23 (0, 0)) := y_a; have x5_b : w5.heap[w.heap.size + 1]? = some (.cells #[.int .i64 b.x, .int .i64 b.y, .int .i64 b.z] 23 (0, 0)) := y_b; have x5_x : w5.heap[gx]? = some (.cells #[.int .i64 P.x, .int .i64 P.y, .int .i64 P.z] 23 (0, 0)) := y_x; have x5_y : w5.heap[gy]? = some (.cells #[.int .i64 0, .int .i64 0, .int .i64 0] 23 (0, 0)) := y_y; have x5_none : w5.heap[w2.heap.size]? = some (.cells #[.int .i64 0, .int .i64 0, .int .i64 0] 23 (0, 0)) := y_none; have x5_both : w5.heap[w4.heap.size]? = some (.cells #[.int .i64 P.x, .int .i64 P.y, .int .i64 P.z] 23 (0, 0)) := y_both; clear hb5 HB4 x4_a x4_b x4_x x4_y x4_none x4_both y_a y_b y_x y_y y_none y_both)
                        | (refine load_wanted rfl 23 _ rfl _ rfl _ _ _ _ x5_x Try.underlying23 rfl (need_info _ rfl) ?_)
                        | (refine load_wanted rfl 23 _ rfl _ rfl _ _ _ _ x5_both Try.underlying23 rfl (need_info _ rfl) ?_)
                        | (refine load_wanted rfl 23 _ rfl _ rfl _ _ _ _ x5_b Try.underlying23 rfl (need_info _ rfl) ?_)
                        | (refine load_wanted rfl 23 _ rfl _ rfl _ _ _ _ x5_a Try.underlying23 rfl (need_info _ rfl) ?_)
                        | (go_at_call 12; refine (hFt2 _).mono ?_; rintro e w6 ⟨rfl, hb6⟩; clear hFt2; have y_a : NBox w6 (w.heap.size) a := NBox.below (a := a) x5_a hb6 (NBox.lt (a := a) x5_a); have y_b : NBox w6 (w.heap.size + 1) b := NBox.below (a := b) x5_b hb6 (NBox.lt (a := b) x5_b); have y_x : NBox w6 (gx) P := NBox.below (a := P) x5_x hb6 (NBox.lt (a := P) x5_x); have y_y : NBox w6 (gy) nz := NBox.below (a := nz) x5_y hb6 (NBox.lt (a := nz) x5_y); have y_none : NBox w6 (w2.heap.size) nz := NBox.below (a := nz) x5_none hb6 (NBox.lt (a := nz) x5_none); have y_both : NBox w6 (w4.heap.size) P := NBox.below (a := P) x5_both hb6 (NBox.lt (a := P) x5_both); have HB6 : Below w.heap.size w w6 := HB5.trans (hb6.mono HB5.size); have x6_a : w6.heap[w.heap.size]? = some (.cells #[.int .i64 a.x, .int .i64 a.y, .int .i64 a.z] 23 (0, 0)) := y_a; have x6_b : w6.heap[w.heap.size + 1]? = some (.cells #[.int .i64 b.x, .int .i64 b.y, .int .i64 b.z] 23 (0, 0)) := y_b; have x6_x : w6.heap[gx]? = some (.cells #[.int .i64 P.x, .int .i64 P.y, .int .i64 P.z] 23 (0, 0)) := y_x; have x6_y : w6.heap[gy]? = some (.cells #[.int .i64 0, .int .i64 0, .int .i64 0] 23 (0, 0)) := y_y; have x6_none : w6.heap[w2.heap.size]? = some (.cells #[.int .i64 0, .int .i64 0, .int .i64 0] 23 (0, 0)) := y_none; have x6_both : w6.heap[w4.heap.size]? = some (.cells #[.int .i64 P.x, .int .i64 P.y, .int .i64 P.z] 23 (0, 0)) := y_both; clear hb6 HB5 x5_a x5_b x5_x x5_y x5_none x5_both y_a y_b y_x y_y y_none y_both)
                        | (refine load_wanted rfl 23 _ rfl _ rfl _ _ _ _ x6_y Try.underlying23 rfl (need_info _ rfl) ?_)
                        | (refine load_wanted rfl 23 _ rfl _ rfl _ _ _ _ x6_none Try.underlying23 rfl (need_info _ rfl) ?_)
                        | (refine load_wanted rfl 23 _ rfl _ rfl _ _ _ _ x6_a Try.underlying23 rfl (need_info _ rfl) ?_)
                        | go_in)
                      go_ret
                      exact ⟨by first | rfl | simp, HB6⟩
                    · skip
                      rw [oz] at TH2
                      obtain ⟨u5, u6⟩ := TH2
                      simp only [Bool.false_eq_true, if_false] at u5 u6
                      subst u6
                      rw [hzn oz] at hT2
                      rw [← u5] at hT1 hT2 hbd
                      obtain ⟨hbd1, hbd2⟩ := hbd
                      have hz : (decide (a.x = 0) && (decide (a.y = 0) && decide (a.z = 0))) = false := oz
                      clear oz hzn u5
                      have x0_x : wn.heap[gx]? = some (.cells #[.int .i64 P.x, .int .i64 P.y, .int .i64 P.z] 23 (0, 0)) := w_x
                      have x0_y : wn.heap[gy]? = some (.cells #[.int .i64 0, .int .i64 0, .int .i64 0] 23 (0, 0)) := w_y
                      clear w_x w_y
                      go_wp2_with (first
                        | (refine load_wanted rfl 23 _ rfl _ rfl _ _ _ _ x0_a Try.underlying23 rfl (need_info _ rfl) ?_)
                        | (go_at_call 9; refine (hG1 _).mono ?_; rintro e w1 ⟨rfl, hb1⟩; clear hG1; have y_a : NBox w1 (w.heap.size) a := NBox.below (a := a) x0_a hb1 (NBox.lt (a := a) x0_a); have y_b : NBox w1 (w.heap.size + 1) b := NBox.below (a := b) x0_b hb1 (NBox.lt (a := b) x0_b); have y_x : NBox w1 (gx) P := NBox.below (a := P) x0_x hb1 (NBox.lt (a := P) x0_x); have y_y : NBox w1 (gy) nz := NBox.below (a := nz) x0_y hb1 (NBox.lt (a := nz) x0_y); have HB1 : Below w.heap.size w w1 := HB0.trans (hb1.mono HB0.size); have x1_a : w1.heap[w.heap.size]? = some (.cells #[.int .i64 a.x, .int .i64 a.y, .int .i64 a.z] 23 (0, 0)) := y_a; have x1_b : w1.heap[w.heap.size + 1]? = some (.cells #[.int .i64 b.x, .int .i64 b.y, .int .i64 b.z] 23 (0, 0)) := y_b; have x1_x : w1.heap[gx]? = some (.cells #[.int .i64 P.x, .int .i64 P.y, .int .i64 P.z] 23 (0, 0)) := y_x; have x1_y : w1.heap[gy]? = some (.cells #[.int .i64 0, .int .i64 0, .int .i64 0] 23 (0, 0)) := y_y; clear hb1 HB0 x0_a x0_b x0_x x0_y y_a y_b y_x y_y)
                        | (refine load_wanted rfl 23 _ rfl _ rfl _ _ _ _ x1_b Try.underlying23 rfl (need_info _ rfl) ?_)
                        | (go_at_call 9; refine (hG2 _).mono ?_; rintro e w2 ⟨rfl, hb2⟩; clear hG2; have y_a : NBox w2 (w.heap.size) a := NBox.below (a := a) x1_a hb2 (NBox.lt (a := a) x1_a); have y_b : NBox w2 (w.heap.size + 1) b := NBox.below (a := b) x1_b hb2 (NBox.lt (a := b) x1_b); have y_x : NBox w2 (gx) P := NBox.below (a := P) x1_x hb2 (NBox.lt (a := P) x1_x); have y_y : NBox w2 (gy) nz := NBox.below (a := nz) x1_y hb2 (NBox.lt (a := nz) x1_y); have HB2 : Below w.heap.size w (w2.alloc (.cells #[.int .i64 0, .int .i64 0, .int .i64 0] 23)) := (HB1.trans (hb2.mono HB1.size)).alloc (Nat.le_trans HB1.size hb2.size) _; have x2_a : (w2.alloc (.cells #[.int .i64 0, .int .i64 0, .int .i64 0] 23)).heap[w.heap.size]? = some (.cells #[.int .i64 a.x, .int .i64 a.y, .int .i64 a.z] 23 (0, 0)) := (Below.heap_alloc _ _ _ (NBox.lt y_a)).trans y_a; have x2_b : (w2.alloc (.cells #[.int .i64 0, .int .i64 0, .int .i64 0] 23)).heap[w.heap.size + 1]? = some (.cells #[.int .i64 b.x, .int .i64 b.y, .int .i64 b.z] 23 (0, 0)) := (Below.heap_alloc _ _ _ (NBox.lt y_b)).trans y_b; have x2_x : (w2.alloc (.cells #[.int .i64 0, .int .i64 0, .int .i64 0] 23)).heap[gx]? = some (.cells #[.int .i64 P.x, .int .i64 P.y, .int .i64 P.z] 23 (0, 0)) := (Below.heap_alloc _ _ _ (NBox.lt y_x)).trans y_x; have x2_y : (w2.alloc (.cells #[.int .i64 0, .int .i64 0, .int .i64 0] 23)).heap[gy]? = some (.cells #[.int .i64 0, .int .i64 0, .int .i64 0] 23 (0, 0)) := (Below.heap_alloc _ _ _ (NBox.lt y_y)).trans y_y; have x2_none : (w2.alloc (.cells #[.int .i64 0, .int .i64 0, .int .i64 0] 23)).heap[w2.heap.size]? = some (.cells #[.int .i64 0, .int .i64 0, .int .i64 0] 23 (0, 0)) := heap_alloc_new _ _; clear hb2 HB1 x1_a x1_b x1_x x1_y y_a y_b y_x y_y)
                        | (refine load_wanted rfl 23 _ rfl _ rfl _ _ _ _ x2_a Try.underlying23 rfl (need_info _ rfl) ?_)
                        | (refine load_wanted rfl 23 _ rfl _ rfl _ _ _ _ x2_b Try.underlying23 rfl (need_info _ rfl) ?_)
                        | (go_at_call 12; refine (hFt1 _).mono ?_; rintro e w3 ⟨rfl, hb3⟩; clear hFt1; have y_a : NBox w3 (w.heap.size) a := NBox.below (a := a) x2_a hb3 (NBox.lt (a := a) x2_a); have y_b : NBox w3 (w.heap.size + 1) b := NBox.below (a := b) x2_b hb3 (NBox.lt (a := b) x2_b); have y_x : NBox w3 (gx) P := NBox.below (a := P) x2_x hb3 (NBox.lt (a := P) x2_x); have y_y : NBox w3 (gy) nz := NBox.below (a := nz) x2_y hb3 (NBox.lt (a := nz) x2_y); have y_none : NBox w3 (w2.heap.size) nz := NBox.below (a := nz) x2_none hb3 (NBox.lt (a := nz) x2_none); have HB3 : Below w.heap.size w w3 := HB2.trans (hb3.mono HB2.size); have x3_a : w3.heap[w.heap.size]? = some (.cells #[.int .i64 a.x, .int .i64 a.y, .int .i64 a.z] 23 (0, 0)) := y_a; have x3_b : w3.heap[w.heap.size + 1]? = some (.cells #[.int .i64 b.x, .int .i64 b.y, .int .i64 b.z] 23 (0, 0)) := y_b; have x3_x : w3.heap[gx]? = some (.cells #[.int .i64 P.x, .int .i64 P.y, .int .i64 P.z] 23 (0, 0)) := y_x; have x3_y : w3.heap[gy]? = some (.cells #[.int .i64 0, .int .i64 0, .int .i64 0] 23 (0, 0)) := y_y; have x3_none : w3.heap[w2.heap.size]? = some (.cells #[.int .i64 0, .int .i64 0, .int .i64 0] 23 (0, 0)) := y_none; clear hb3 HB2 x2_a x2_b x2_x x2_y x2_none y_a y_b y_x y_y y_none)
                        | (refine load_wanted rfl 23 _ rfl _ rfl _ _ _ _ x3_a Try.underlying23 rfl (need_info _ rfl) ?_)
                        | (refine load_wanted rfl 23 _ rfl _ rfl _ _ _ _ x3_b Try.underlying23 rfl (need_info _ rfl) ?_)
                        | (go_at_call 10; refine (hP _).mono ?_; rintro e w4 ⟨rfl, hb4⟩; clear hP; have y_a : NBox w4 (w.heap.size) a := NBox.below (a := a) x3_a hb4 (NBox.lt (a := a) x3_a); have y_b : NBox w4 (w.heap.size + 1) b := NBox.below (a := b) x3_b hb4 (NBox.lt (a := b) x3_b); have y_x : NBox w4 (gx) P := NBox.below (a := P) x3_x hb4 (NBox.lt (a := P) x3_x); have y_y : NBox w4 (gy) nz := NBox.below (a := nz) x3_y hb4 (NBox.lt (a := nz) x3_y); have y_none : NBox w4 (w2.heap.size) nz := NBox.below (a := nz) x3_none hb4 (NBox.lt (a := nz) x3_none); have HB4 : Below w.heap.size w (w4.alloc (.cells #[.int .i64 P.x, .int .i64 P.y, .int .i64 P.z] 23)) := (HB3.trans (hb4.mono HB3.size)).alloc (Nat.le_trans HB3.size hb4.size) _; have x4_a : (w4.alloc (.cells #[.int .i64 P.x, .int .i64 P.y, .int .i64 P.z] 23)).heap[w.heap.size]? = some (.cells #[.int .i64 a.x, .int .i64 a.y, .int .i64 a.z] 23 (0, 0)) := (Below.heap_alloc _ _ _ (NBox.lt y_a)).trans y_a; have x4_b : (w4.alloc (.cells #[.int .i64 P.x, .int .i64 P.y, .int .i64 P.z] 23)).heap[w.heap.size + 1]? = some (.cells #[.int .i64 b.x, .int .i64 b.y, .int .i64 b.z] 23 (0, 0)) := (Below.heap_alloc _ _ _ (NBox.lt y_b)).trans y_b; have x4_x : (w4.alloc (.cells #[.int .i64 P.x, .int .i64 P.y, .int .i64 P.z] 23)).heap[gx]? = some (.cells #[.int .i64 P.x, .int .i64 P.y, .int .i64 P.z] 23 (0, 0)) := (Below.heap_alloc _ _ _ (NBox.lt y_x)).trans y_x; have x4_y : (w4.alloc (.cells #[.int .i64 P.x, .int .i64 P.y, .int .i64 P.z] 23)).heap[gy]? = some (.cells #[.int .i64 0, .int .i64 0, .int .i64 0] 23 (0, 0)) := (Below.heap_alloc _ _ _ (NBox.lt y_y)).trans y_y; have x4_none : (w4.alloc (.cells #[.int .i64 P.x, .int .i64 P.y, .int .i64 P.z] 23)).heap[w2.heap.size]? = some (.cells #[.int .i64 0, .int .i64 0, .int .i64 0] 23 (0, 0)) := (Below.heap_alloc _ _ _ (NBox.lt y_none)).trans y_none; have x4_both : (w4.alloc (.cells #[.int .i64 P.x, .int .i64 P.y, .int .i64 P.z] 23)).heap[w4.heap.size]? = some (.cells #[.int .i64 P.x, .int .i64 P.y, .int .i64 P.z] 23 (0, 0)) := heap_alloc_new _ _; clear hb4 HB3 x3_a x3_b x3_x x3_y x3_none y_a y_b y_x y_y y_none)
                        | (refine load_wanted rfl 23 _ rfl _ rfl _ _ _ _ x4_both Try.underlying23 rfl (need_info _ rfl) ?_)
                        | (go_at_call 9; refine (hG3 _).mono ?_; rintro e w5 ⟨rfl, hb5⟩; clear hG3; have y_a : NBox w5 (w.heap.size) a := NBox.below (a := a) x4_a hb5 (NBox.lt (a := a) x4_a); have y_b : NBox w5 (w.heap.size + 1) b := NBox.below (a := b) x4_b hb5 (NBox.lt (a := b) x4_b); have y_x : NBox w5 (gx) P := NBox.below (a := P) x4_x hb5 (NBox.lt (a := P) x4_x); have y_y : NBox w5 (gy) nz := NBox.below (a := nz) x4_y hb5 (NBox.lt (a := nz) x4_y); have y_none : NBox w5 (w2.heap.size) nz := NBox.below (a := nz) x4_none hb5 (NBox.lt (a := nz) x4_none); have y_both : NBox w5 (w4.heap.size) P := NBox.below (a := P) x4_both hb5 (NBox.lt (a := P) x4_both); have HB5 : Below w.heap.size w w5 := HB4.trans (hb5.mono HB4.size); have x5_a : w5.heap[w.heap.size]? = some (.cells #[.int .i64 a.x, .int .i64 a.y, .int .i64 a.z] 23 (0, 0)) := y_a; have x5_b : w5.heap[w.heap.size + 1]? = some (.cells #[.int .i64 b.x, .int .i64 b.y, .int .i64 b.z] 23 (0, 0)) := y_b; have x5_x : w5.heap[gx]? = some (.cells #[.int .i64 P.x, .int .i64 P.y, .int .i64 P.z] 23 (0, 0)) := y_x; have x5_y : w5.heap[gy]? = some (.cells #[.int .i64 0, .int .i64 0, .int .i64 0] 23 (0, 0)) := y_y; have x5_none : w5.heap[w2.heap.size]? = some (.cells #[.int .i64 0, .int .i64 0, .int .i64 0] 23 (0, 0)) := y_none; have x5_both : w5.heap[w4.heap.size]? = some (.cells #[.int .i64 P.x, .int .i64 P.y, .int .i64 P.z] 23 (0, 0)) := y_both; clear hb5 HB4 x4_a x4_b x4_x x4_y x4_none x4_both y_a y_b y_x y_y y_none y_both)
                        | (refine load_wanted rfl 23 _ rfl _ rfl _ _ _ _ x5_x Try.underlying23 rfl (need_info _ rfl) ?_)
                        | (refine load_wanted rfl 23 _ rfl _ rfl _ _ _ _ x5_both Try.underlying23 rfl (need_info _ rfl) ?_)
                        | (refine load_wanted rfl 23 _ rfl _ rfl _ _ _ _ x5_b Try.underlying23 rfl (need_info _ rfl) ?_)
                        | (refine load_wanted rfl 23 _ rfl _ rfl _ _ _ _ x5_a Try.underlying23 rfl (need_info _ rfl) ?_)
                        | (go_at_call 12; refine (hFt2 _).mono ?_; rintro e w6 ⟨rfl, hb6⟩; clear hFt2; have y_a : NBox w6 (w.heap.size) a := NBox.below (a := a) x5_a hb6 (NBox.lt (a := a) x5_a); have y_b : NBox w6 (w.heap.size + 1) b := NBox.below (a := b) x5_b hb6 (NBox.lt (a := b) x5_b); have y_x : NBox w6 (gx) P := NBox.below (a := P) x5_x hb6 (NBox.lt (a := P) x5_x); have y_y : NBox w6 (gy) nz := NBox.below (a := nz) x5_y hb6 (NBox.lt (a := nz) x5_y); have y_none : NBox w6 (w2.heap.size) nz := NBox.below (a := nz) x5_none hb6 (NBox.lt (a := nz) x5_none); have y_both : NBox w6 (w4.heap.size) P := NBox.below (a := P) x5_both hb6 (NBox.lt (a := P) x5_both); have HB6 : Below w.heap.size w w6 := HB5.trans (hb6.mono HB5.size); have x6_a : w6.heap[w.heap.size]? = some (.cells #[.int .i64 a.x, .int .i64 a.y, .int .i64 a.z] 23 (0, 0)) := y_a; have x6_b : w6.heap[w.heap.size + 1]? = some (.cells #[.int .i64 b.x, .int .i64 b.y, .int .i64 b.z] 23 (0, 0)) := y_b; have x6_x : w6.heap[gx]? = some (.cells #[.int .i64 P.x, .int .i64 P.y, .int .i64 P.z] 23 (0, 0)) := y_x; have x6_y : w6.heap[gy]? = some (.cells #[.int .i64 0, .int .i64 0, .int .i64 0] 23 (0, 0)) := y_y; have x6_none : w6.heap[w2.heap.size]? = some (.cells #[.int .i64 0, .int .i64 0, .int .i64 0] 23 (0, 0)) := y_none; have x6_both : w6.heap[w4.heap.size]? = some (.cells #[.int .i64 P.x, .int .i64 P.y, .int .i64 P.z] 23 (0, 0)) := y_both; clear hb6 HB5 x5_a x5_b x5_x x5_y x5_none x5_both y_a y_b y_x y_y y_none y_both)
                        | (refine load_wanted rfl 23 _ rfl _ rfl _ _ _ _ x6_y Try.underlying23 rfl (need_info _ rfl) ?_)
                        | (refine load_wanted rfl 23 _ rfl _ rfl _ _ _ _ x6_none Try.underlying23 rfl (need_info _ rfl) ?_)
                        | (refine load_wanted rfl 23 _ rfl _ rfl _ _ _ _ x6_a Try.underlying23 rfl (need_info _ rfl) ?_)
                        | (refine load_wanted rfl 23 _ rfl _ rfl _ _ _ _ x6_b Try.underlying23 rfl (need_info _ rfl) ?_)
                        | (go_at_call 13; refine (hT1 _).mono ?_; rintro e w7 ⟨rfl, hb7⟩; clear hT1; have y_a : NBox w7 (w.heap.size) a := NBox.below (a := a) x6_a hb7 (NBox.lt (a := a) x6_a); have y_b : NBox w7 (w.heap.size + 1) b := NBox.below (a := b) x6_b hb7 (NBox.lt (a := b) x6_b); have y_x : NBox w7 (gx) P := NBox.below (a := P) x6_x hb7 (NBox.lt (a := P) x6_x); have y_y : NBox w7 (gy) nz := NBox.below (a := nz) x6_y hb7 (NBox.lt (a := nz) x6_y); have y_none : NBox w7 (w2.heap.size) nz := NBox.below (a := nz) x6_none hb7 (NBox.lt (a := nz) x6_none); have y_both : NBox w7 (w4.heap.size) P := NBox.below (a := P) x6_both hb7 (NBox.lt (a := P) x6_both); have HB7 : Below w.heap.size w w7 := HB6.trans (hb7.mono HB6.size); have x7_a : w7.heap[w.heap.size]? = some (.cells #[.int .i64 a.x, .int .i64 a.y, .int .i64 a.z] 23 (0, 0)) := y_a; have x7_b : w7.heap[w.heap.size + 1]? = some (.cells #[.int .i64 b.x, .int .i64 b.y, .int .i64 b.z] 23 (0, 0)) := y_b; have x7_x : w7.heap[gx]? = some (.cells #[.int .i64 P.x, .int .i64 P.y, .int .i64 P.z] 23 (0, 0)) := y_x; have x7_y : w7.heap[gy]? = some (.cells #[.int .i64 0, .int .i64 0, .int .i64 0] 23 (0, 0)) := y_y; have x7_none : w7.heap[w2.heap.size]? = some (.cells #[.int .i64 0, .int .i64 0, .int .i64 0] 23 (0, 0)) := y_none; have x7_both : w7.heap[w4.heap.size]? = some (.cells #[.int .i64 P.x, .int .i64 P.y, .int .i64 P.z] 23 (0, 0)) := y_both; clear hb7 HB6 x6_a x6_b x6_x x6_y x6_none x6_both y_a y_b y_x y_y y_none y_both)
                        | (refine load_wanted rfl 23 _ rfl _ rfl _ _ _ _ x7_a Try.underlying23 rfl (need_info _ rfl) ?_)
                        | (refine load_wanted rfl 23 _ rfl _ rfl _ _ _ _ x7_b Try.underlying23 rfl (need_info _ rfl) ?_)
                        | (go_at_call 13; refine (hT2 _).mono ?_; rintro e w8 ⟨rfl, hb8⟩; clear hT2; have y_a : NBox w8 (w.heap.size) a := NBox.below (a := a) x7_a hb8 (NBox.lt (a := a) x7_a); have y_b : NBox w8 (w.heap.size + 1) b := NBox.below (a := b) x7_b hb8 (NBox.lt (a := b) x7_b); have y_x : NBox w8 (gx) P := NBox.below (a := P) x7_x hb8 (NBox.lt (a := P) x7_x); have y_y : NBox w8 (gy) nz := NBox.below (a := nz) x7_y hb8 (NBox.lt (a := nz) x7_y); have y_none : NBox w8 (w2.heap.size) nz := NBox.below (a := nz) x7_none hb8 (NBox.lt (a := nz) x7_none); have y_both : NBox w8 (w4.heap.size) P := NBox.below (a := P) x7_both hb8 (NBox.lt (a := P) x7_both); have HB8 : Below w.heap.size w w8 := HB7.trans (hb8.mono HB7.size); have x8_a : w8.heap[w.heap.size]? = some (.cells #[.int .i64 a.x, .int .i64 a.y, .int .i64 a.z] 23 (0, 0)) := y_a; have x8_b : w8.heap[w.heap.size + 1]? = some (.cells #[.int .i64 b.x, .int .i64 b.y, .int .i64 b.z] 23 (0, 0)) := y_b; have x8_x : w8.heap[gx]? = some (.cells #[.int .i64 P.x, .int .i64 P.y, .int .i64 P.z] 23 (0, 0)) := y_x; have x8_y : w8.heap[gy]? = some (.cells #[.int .i64 0, .int .i64 0, .int .i64 0] 23 (0, 0)) := y_y; have x8_none : w8.heap[w2.heap.size]? = some (.cells #[.int .i64 0, .int .i64 0, .int .i64 0] 23 (0, 0)) := y_none; have x8_both : w8.heap[w4.heap.size]? = some (.cells #[.int .i64 P.x, .int .i64 P.y, .int .i64 P.z] 23 (0, 0)) := y_both; clear hb8 HB7 x7_a x7_b x7_x x7_y x7_none x7_both y_a y_b y_x y_y y_none y_both)
                        | go_in)
                      go_ret
                      exact ⟨by first | rfl | simp, HB8⟩
                · skip
                  rw [op] at XH2 hG3
                  obtain ⟨u1, u2⟩ := XH2
                  simp only [Bool.false_eq_true, if_false] at u1 u2
                  have u1s := u1.symm
                  clear u1
                  subst u1s u2
                  rw [show ce false = 4 from rfl] at hG3
                  clear op
                  rcases Bool.eq_false_or_eq_true (ftN b a) with of | of
                  · skip
                    rw [of] at YH2 hFt2
                    obtain ⟨u3, u4⟩ := YH2
                    simp only [if_true] at u3 u4
                    have u3s := u3.symm
                    clear u3
                    subst u3s u4
                    clear of
                    rcases Bool.eq_false_or_eq_true (isZ a) with oz | oz
                    · skip
                      rw [oz] at TH2
                      obtain ⟨u5, u6⟩ := TH2
                      simp only [if_true] at u5 u6
                      subst u5 u6
                      have hz : (decide (a.x = 0) && (decide (a.y = 0) && decide (a.z = 0))) = true := oz
                      clear oz hT1 hT2 hzn hbd
                      have x0_x : wn.heap[gx]? = some (.cells #[.int .i64 0, .int .i64 0, .int .i64 0] 23 (0, 0)) := w_x
                      have x0_y : wn.heap[gy]? = some (.cells #[.int .i64 M.x, .int .i64 M.y, .int .i64 M.z] 23 (0, 0)) := w_y
                      clear w_x w_y
                      go_wp2_with (first
                        | (refine load_wanted rfl 23 _ rfl _ rfl _ _ _ _ x0_a Try.underlying23 rfl (need_info _ rfl) ?_)
                        | (go_at_call 9; refine (hG1 _).mono ?_; rintro e w1 ⟨rfl, hb1⟩; clear hG1; have y_a : NBox w1 (w.heap.size) a := NBox.below (a := a) x0_a hb1 (NBox.lt (a := a) x0_a); have y_b : NBox w1 (w.heap.size + 1) b := NBox.below (a := b) x0_b hb1 (NBox.lt (a := b) x0_b); have y_x : NBox w1 (gx) nz := NBox.below (a := nz) x0_x hb1 (NBox.lt (a := nz) x0_x); have y_y : NBox w1 (gy) M := NBox.below (a := M) x0_y hb1 (NBox.lt (a := M) x0_y); have HB1 : Below w.heap.size w w1 := HB0.trans (hb1.mono HB0.size); have x1_a : w1.heap[w.heap.size]? = some (.cells #[.int .i64 a.x, .int .i64 a.y, .int .i64 a.z] 23 (0, 0)) := y_a; have x1_b : w1.heap[w.heap.size + 1]? = some (.cells #[.int .i64 b.x, .int .i64 b.y, .int .i64 b.z] 23 (0, 0)) := y_b; have x1_x : w1.heap[gx]? = some (.cells #[.int .i64 0, .int .i64 0, .int .i64 0] 23 (0, 0)) := y_x; have x1_y : w1.heap[gy]? = some (.cells #[.int .i64 M.x, .int .i64 M.y, .int .i64 M.z] 23 (0, 0)) := y_y; clear hb1 HB0 x0_a x0_b x0_x x0_y y_a y_b y_x y_y)
                        | (refine load_wanted rfl 23 _ rfl _ rfl _ _ _ _ x1_b Try.underlying23 rfl (need_info _ rfl) ?_)
                        | (go_at_call 9; refine (hG2 _).mono ?_; rintro e w2 ⟨rfl, hb2⟩; clear hG2; have y_a : NBox w2 (w.heap.size) a := NBox.below (a := a) x1_a hb2 (NBox.lt (a := a) x1_a); have y_b : NBox w2 (w.heap.size + 1) b := NBox.below (a := b) x1_b hb2 (NBox.lt (a := b) x1_b); have y_x : NBox w2 (gx) nz := NBox.below (a := nz) x1_x hb2 (NBox.lt (a := nz) x1_x); have y_y : NBox w2 (gy) M := NBox.below (a := M) x1_y hb2 (NBox.lt (a := M) x1_y); have HB2 : Below w.heap.size w (w2.alloc (.cells #[.int .i64 0, .int .i64 0, .int .i64 0] 23)) := (HB1.trans (hb2.mono HB1.size)).alloc (Nat.le_trans HB1.size hb2.size) _; have x2_a : (w2.alloc (.cells #[.int .i64 0, .int .i64 0, .int .i64 0] 23)).heap[w.heap.size]? = some (.cells #[.int .i64 a.x, .int .i64 a.y, .int .i64 a.z] 23 (0, 0)) := (Below.heap_alloc _ _ _ (NBox.lt y_a)).trans y_a; have x2_b : (w2.alloc (.cells #[.int .i64 0, .int .i64 0, .int .i64 0] 23)).heap[w.heap.size + 1]? = some (.cells #[.int .i64 b.x, .int .i64 b.y, .int .i64 b.z] 23 (0, 0)) := (Below.heap_alloc _ _ _ (NBox.lt y_b)).trans y_b; have x2_x : (w2.alloc (.cells #[.int .i64 0, .int .i64 0, .int .i64 0] 23)).heap[gx]? = some (.cells #[.int .i64 0, .int .i64 0, .int .i64 0] 23 (0, 0)) := (Below.heap_alloc _ _ _ (NBox.lt y_x)).trans y_x; have x2_y : (w2.alloc (.cells #[.int .i64 0, .int .i64 0, .int .i64 0] 23)).heap[gy]? = some (.cells #[.int .i64 M.x, .int .i64 M.y, .int .i64 M.z] 23 (0, 0)) := (Below.heap_alloc _ _ _ (NBox.lt y_y)).trans y_y; have x2_none : (w2.alloc (.cells #[.int .i64 0, .int .i64 0, .int .i64 0] 23)).heap[w2.heap.size]? = some (.cells #[.int .i64 0, .int .i64 0, .int .i64 0] 23 (0, 0)) := heap_alloc_new _ _; clear hb2 HB1 x1_a x1_b x1_x x1_y y_a y_b y_x y_y)
                        | (refine load_wanted rfl 23 _ rfl _ rfl _ _ _ _ x2_a Try.underlying23 rfl (need_info _ rfl) ?_)
                        | (refine load_wanted rfl 23 _ rfl _ rfl _ _ _ _ x2_b Try.underlying23 rfl (need_info _ rfl) ?_)
                        | (go_at_call 12; refine (hFt1 _).mono ?_; rintro e w3 ⟨rfl, hb3⟩; clear hFt1; have y_a : NBox w3 (w.heap.size) a := NBox.below (a := a) x2_a hb3 (NBox.lt (a := a) x2_a); have y_b : NBox w3 (w.heap.size + 1) b := NBox.below (a := b) x2_b hb3 (NBox.lt (a := b) x2_b); have y_x : NBox w3 (gx) nz := NBox.below (a := nz) x2_x hb3 (NBox.lt (a := nz) x2_x); have y_y : NBox w3 (gy) M := NBox.below (a := M) x2_y hb3 (NBox.lt (a := M) x2_y); have y_none : NBox w3 (w2.heap.size) nz := NBox.below (a := nz) x2_none hb3 (NBox.lt (a := nz) x2_none); have HB3 : Below w.heap.size w w3 := HB2.trans (hb3.mono HB2.size); have x3_a : w3.heap[w.heap.size]? = some (.cells #[.int .i64 a.x, .int .i64 a.y, .int .i64 a.z] 23 (0, 0)) := y_a; have x3_b : w3.heap[w.heap.size + 1]? = some (.cells #[.int .i64 b.x, .int .i64 b.y, .int .i64 b.z] 23 (0, 0)) := y_b; have x3_x : w3.heap[gx]? = some (.cells #[.int .i64 0, .int .i64 0, .int .i64 0] 23 (0, 0)) := y_x; have x3_y : w3.heap[gy]? = some (.cells #[.int .i64 M.x, .int .i64 M.y, .int .i64 M.z] 23 (0, 0)) := y_y; have x3_none : w3.heap[w2.heap.size]? = some (.cells #[.int .i64 0, .int .i64 0, .int .i64 0] 23 (0, 0)) := y_none; clear hb3 HB2 x2_a x2_b x2_x x2_y x2_none y_a y_b y_x y_y y_none)
                        | (refine load_wanted rfl 23 _ rfl _ rfl _ _ _ _ x3_a Try.underlying23 rfl (need_info _ rfl) ?_)
                        | (refine load_wanted rfl 23 _ rfl _ rfl _ _ _ _ x3_b Try.underlying23 rfl (need_info _ rfl) ?_)
                        | (go_at_call 10; refine (hP _).mono ?_; rintro e w4 ⟨rfl, hb4⟩; clear hP; have y_a : NBox w4 (w.heap.size) a := NBox.below (a := a) x3_a hb4 (NBox.lt (a := a) x3_a); have y_b : NBox w4 (w.heap.size + 1) b := NBox.below (a := b) x3_b hb4 (NBox.lt (a := b) x3_b); have y_x : NBox w4 (gx) nz := NBox.below (a := nz) x3_x hb4 (NBox.lt (a := nz) x3_x); have y_y : NBox w4 (gy) M := NBox.below (a := M) x3_y hb4 (NBox.lt (a := M) x3_y); have y_none : NBox w4 (w2.heap.size) nz := NBox.below (a := nz) x3_none hb4 (NBox.lt (a := nz) x3_none); have HB4 : Below w.heap.size w (w4.alloc (.cells #[.int .i64 P.x, .int .i64 P.y, .int .i64 P.z] 23)) := (HB3.trans (hb4.mono HB3.size)).alloc (Nat.le_trans HB3.size hb4.size) _; have x4_a : (w4.alloc (.cells #[.int .i64 P.x, .int .i64 P.y, .int .i64 P.z] 23)).heap[w.heap.size]? = some (.cells #[.int .i64 a.x, .int .i64 a.y, .int .i64 a.z] 23 (0, 0)) := (Below.heap_alloc _ _ _ (NBox.lt y_a)).trans y_a; have x4_b : (w4.alloc (.cells #[.int .i64 P.x, .int .i64 P.y, .int .i64 P.z] 23)).heap[w.heap.size + 1]? = some (.cells #[.int .i64 b.x, .int .i64 b.y, .int .i64 b.z] 23 (0, 0)) := (Below.heap_alloc _ _ _ (NBox.lt y_b)).trans y_b; have x4_x : (w4.alloc (.cells #[.int .i64 P.x, .int .i64 P.y, .int .i64 P.z] 23)).heap[gx]? = some (.cells #[.int .i64 0, .int .i64 0, .int .i64 0] 23 (0, 0)) := (Below.heap_alloc _ _ _ (NBox.lt y_x)).trans y_x; have x4_y : (w4.alloc (.cells #[.int .i64 P.x, .int .i64 P.y, .int .i64 P.z] 23)).heap[gy]? = some (.cells #[.int .i64 M.x, .int .i64 M.y, .int .i64 M.z] 23 (0, 0)) := (Below.heap_alloc _ _ _ (NBox.lt y_y)).trans y_y; have x4_none : (w4.alloc (.cells #[.int .i64 P.x, .int .i64 P.y, .int .i64 P.z] 23)).heap[w2.heap.size]? = some (.cells #[.int .i64 0, .int .i64 0, .int .i64 0] 23 (0, 0)) := (Below.heap_alloc _ _ _ (NBox.lt y_none)).trans y_none; have x4_both : (w4.alloc (.cells #[.int .i64 P.x, .int .i64 P.y, .int .i64 P.z] 23)).heap[w4.heap.size]? = some (.cells #[.int .i64 P.x, .int .i64 P.y, .int .i64 P.z] 23 (0, 0)) := heap_alloc_new _ _; clear hb4 HB3 x3_a x3_b x3_x x3_y x3_none y_a y_b y_x y_y y_none)
                        | (refine load_wanted rfl 23 _ rfl _ rfl _ _ _ _ x4_both Try.underlying23 rfl (need_info _ rfl) ?_)
                        | (go_at_call 9; refine (hG3 _).mono ?_; rintro e w5 ⟨rfl, hb5⟩; clear hG3; have y_a : NBox w5 (w.heap.size) a := NBox.below (a := a) x4_a hb5 (NBox.lt (a := a) x4_a); have y_b : NBox w5 (w.heap.size + 1) b := NBox.below (a := b) x4_b hb5 (NBox.lt (a := b) x4_b); have y_x : NBox w5 (gx) nz := NBox.below (a := nz) x4_x hb5 (NBox.lt (a := nz) x4_x); have y_y : NBox w5 (gy) M := NBox.below (a := M) x4_y hb5 (NBox.lt (a := M) x4_y); have y_none : NBox w5 (w2.heap.size) nz := NBox.below (a := nz) x4_none hb5 (NBox.lt (a := nz) x4_none); have y_both : NBox w5 (w4.heap.size) P := NBox.below (a := P) x4_both hb5 (NBox.lt (a := P) x4_both); have HB5 : Below w.heap.size w w5 := HB4.trans (hb5.mono HB4.size); have x5_a : w5.heap[w.heap.size]? = some (.cells #[.int .i64 a.x, .int .i64 a.y, .int .i64 a.z] 23 (0, 0)) := y_a; have x5_b : w5.heap[w.heap.size + 1]? = some (.cells #[.int .i64 b.x, .int .i64 b.y, .int .i64 b.z] 23 (0, 0)) := y_b; have x5_x : w5.heap[gx]? = some (.cells #[.int .i64 0, .int .i64 0, .int .i64 0] 23 (0, 0)) := y_x; have x5_y : w5.heap[gy]? = some (.cells #[.int .i64 M.x, .int .i64 M.y, .int .i64 M.z] 23 (0, 0)) := y_y; have x5_none : w5.heap[w2.heap.size]? = some (.cells #[.int .i64 0, .int .i64 0, .int .i64 0] 23 (0, 0)) := y_none; have x5_both : w5.heap[w4.heap.size]? = some (.cells #[.int .i64 P.x, .int .i64 P.y, .int .i64 P.z] 23 (0, 0)) := y_both; clear hb5 HB4 x4_a x4_b x4_x x4_y x4_none x4_both y_a y_b y_x y_y y_none y_both)
                        | (refine load_wanted rfl 23 _ rfl _ rfl _ _ _ _ x5_x Try.underlying23 rfl (need_info _ rfl) ?_)
                        | (refine load_wanted rfl 23 _ rfl _ rfl _ _ _ _ x5_none Try.underlying23 rfl (need_info _ rfl) ?_)
                        | (refine load_wanted rfl 23 _ rfl _ rfl _ _ _ _ x5_b Try.underlying23 rfl (need_info _ rfl) ?_)
                        | (refine load_wanted rfl 23 _ rfl _ rfl _ _ _ _ x5_a Try.underlying23 rfl (need_info _ rfl) ?_)
                        | (go_at_call 12; refine (hFt2 _).mono ?_; rintro e w6 ⟨rfl, hb6⟩; clear hFt2; have y_a : NBox w6 (w.heap.size) a := NBox.below (a := a) x5_a hb6 (NBox.lt (a := a) x5_a); have y_b : NBox w6 (w.heap.size + 1) b := NBox.below (a := b) x5_b hb6 (NBox.lt (a := b) x5_b); have y_x : NBox w6 (gx) nz := NBox.below (a := nz) x5_x hb6 (NBox.lt (a := nz) x5_x); have y_y : NBox w6 (gy) M := NBox.below (a := M) x5_y hb6 (NBox.lt (a := M) x5_y); have y_none : NBox w6 (w2.heap.size) nz := NBox.below (a := nz) x5_none hb6 (NBox.lt (a := nz) x5_none); have y_both : NBox w6 (w4.heap.size) P := NBox.below (a := P) x5_both hb6 (NBox.lt (a := P) x5_both); have HB6 : Below w.heap.size w w6 := HB5.trans (hb6.mono HB5.size); have x6_a : w6.heap[w.heap.size]? = some (.cells #[.int .i64 a.x, .int .i64 a.y, .int .i64 a.z] 23 (0, 0)) := y_a; have x6_b : w6.heap[w.heap.size + 1]? = some (.cells #[.int .i64 b.x, .int .i64 b.y, .int .i64 b.z] 23 (0, 0)) := y_b; have x6_x : w6.heap[gx]? = some (.cells #[.int .i64 0, .int .i64 0, .int .i64 0] 23 (0, 0)) := y_x; have x6_y : w6.heap[gy]? = some (.cells #[.int .i64 M.x, .int .i64 M.y, .int .i64 M.z] 23 (0, 0)) := y_y; have x6_none : w6.heap[w2.heap.size]? = some (.cells #[.int .i64 0, .int .i64 0, .int .i64 0] 23 (0, 0)) := y_none; have x6_both : w6.heap[w4.heap.size]? = some (.cells #[.int .i64 P.x, .int .i64 P.y, .int .i64 P.z] 23 (0, 0)) := y_both; clear hb6 HB5 x5_a x5_b x5_x x5_y x5_none x5_both y_a y_b y_x y_y y_none y_both)
                        | go_in)
                      have hc : NBox w6.drew w.heap.size a ∧ NBox w6.drew (w.heap.size + 1) b ∧ NBox w6.drew gy M ∧ NBox w6.drew w2.heap.size nz := ⟨x6_a, x6_b, x6_y, x6_none⟩
                      have hBx : Hid (Below w.heap.size w w6.drew) := HB6.drew
                      clear x6_a x6_b x6_x x6_y x6_none x6_both HB6
                      generalize w2.heap.size = gn at *
                      refine Tkc.region_anyC (C := fun w' => NBox w' w.heap.size a ∧ NBox w' (w.heap.size + 1) b ∧ NBox w' gy M ∧ NBox w' gn nz) (s := 9) (by kernel_rfl) ?_
                      generalize w6.drew = wd2 at *
                      refine Tkc.takeC (i := 0) (v := (.agg #[.int .i64 M.x, .int .i64 M.y, .int .i64 M.z])) rfl (by kernel_rfl) (by kernel_rfl) (by kernel_rfl) (fun _ _ _ h => h) (by decide) (by kernel_rfl) (by kernel_rfl) hc ⟨by rfl, fun w hw => by have k0 := hw.1.c0; have k1 := hw.1.c1; have k2 := hw.1.c2; have k3 := hw.2.1.c0; have k4 := hw.2.1.c1; have k5 := hw.2.1.c2; have k6 := hw.2.2.1.c0; have k7 := hw.2.2.1.c1; have k8 := hw.2.2.1.c2; go_simp⟩ ?_
                      try go_frame
                      refine Tkc.takeC (i := 1) (v := (.agg #[.int .i64 a.x, .int .i64 a.y, .int .i64 a.z])) rfl (by kernel_rfl) (by kernel_rfl) (by kernel_rfl) (fun _ _ _ h => h) (by decide) (by kernel_rfl) (by kernel_rfl) hc ⟨by rfl, fun w hw => by have k0 := hw.1.c0; have k1 := hw.1.c1; have k2 := hw.1.c2; have k3 := hw.2.1.c0; have k4 := hw.2.1.c1; have k5 := hw.2.1.c2; have k6 := hw.2.2.1.c0; have k7 := hw.2.2.1.c1; have k8 := hw.2.2.1.c2; go_simp⟩ ?_
                      try go_frame
                      refine Tkc.takeC (i := 2) (v := (.agg #[.int .i64 b.x, .int .i64 b.y, .int .i64 b.z])) rfl (by kernel_rfl) (by kernel_rfl) (by kernel_rfl) (fun _ _ _ h => h) (by decide) (by kernel_rfl) (by kernel_rfl) hc ⟨by rfl, fun w hw => by have k0 := hw.1.c0; have k1 := hw.1.c1; have k2 := hw.1.c2; have k3 := hw.2.1.c0; have k4 := hw.2.1.c1; have k5 := hw.2.1.c2; have k6 := hw.2.2.1.c0; have k7 := hw.2.2.1.c1; have k8 := hw.2.2.1.c2; go_simp⟩ ?_
                      try go_frame
                      refine Tkc.onlyC (i := 3) rfl (by kernel_rfl) (fun _ => hc) (by rfl) (fun K hK => ?_)
                      go_simp
                      refine (hM _).mono ?_
                      rintro e wn ⟨rfl, hb⟩
                      refine hK _ _ ?_
                      clear hK K
                      have hc : NBox wn w.heap.size a ∧ NBox wn (w.heap.size + 1) b ∧ NBox wn gy M ∧ NBox wn gn nz := ⟨hc.1.below hb hc.1.lt, hc.2.1.below hb hc.2.1.lt, hc.2.2.1.below hb hc.2.2.1.lt, hc.2.2.2.below hb hc.2.2.2.lt⟩
                      have hBx : Hid (Below w.heap.size w wn) := hBx.out.trans (hb.mono hBx.out.size)
                      clear hb
                      try go_frame
                      refine Tkc.onlyC (i := 4) rfl (by kernel_rfl) (fun _ => hc) (by rfl) (fun K hK => ?_)
                      go_simp
                      refine hK _ _ ?_
                      clear hK K
                      try go_frame
                      refine Tkc.onlyC (i := 5) rfl (by kernel_rfl) (fun _ => hc) (by rfl) (fun K hK => ?_)
                      go_simp
                      refine hK _ _ ?_
                      clear hK K
                      try go_frame
                      refine Tkc.onlyC (i := 6) rfl (by kernel_rfl) (fun _ => hc) (by rfl) (fun K hK => ?_)
                      go_simp
                      refine hK _ _ ?_
                      clear hK K
                      try go_frame
                      refine Tkc.onlyC (i := 7) rfl (by kernel_rfl) (fun _ => hc) (by rfl) (fun K hK => ?_)
                      go_simp
                      refine hK _ _ ?_
                      clear hK K
                      try go_frame
                      refine Tkc.onlyC (i := 8) rfl (by kernel_rfl) (fun _ => hc) (by rfl) (fun K hK => ?_)
                      go_simp
                      refine hK _ _ ?_
                      clear hK K
                      try go_frame
                      refine Tkc.doneC (by kernel_rfl) (fun _ => hc) ?_
                      have x0_a : wn.heap[w.heap.size]? = some (.cells #[.int .i64 a.x, .int .i64 a.y, .int .i64 a.z] 23 (0, 0)) := hc.1
                      have x0_b : wn.heap[w.heap.size + 1]? = some (.cells #[.int .i64 b.x, .int .i64 b.y, .int .i64 b.z] 23 (0, 0)) := hc.2.1
                      have x0_none : wn.heap[gn]? = some (.cells #[.int .i64 0, .int .i64 0, .int .i64 0] 23 (0, 0)) := hc.2.2.2
                      have HB0 : Below w.heap.size w wn := hBx.out
                      clear hc hBx hM
                      go_wp2_with (first
                        | (refine load_wanted rfl 23 _ rfl _ rfl _ _ _ _ x0_a Try.underlying23 rfl (need_info _ rfl) ?_)
                        | (refine load_wanted rfl 23 _ rfl _ rfl _ _ _ _ x0_none Try.underlying23 rfl (need_info _ rfl) ?_)
                        | go_in)
                      go_ret
                      exact ⟨by first | rfl | simp, HB0⟩
                    · skip
                      rw [oz] at TH2
                      obtain ⟨u5, u6⟩ := TH2
                      simp only [Bool.false_eq_true, if_false] at u5 u6
                      subst u6
                      rw [hzn oz] at hT2
                      rw [← u5] at hT1 hT2 hbd
                      obtain ⟨hbd1, hbd2⟩ := hbd
                      have hz : (decide (a.x = 0) && (decide (a.y = 0) && decide (a.z = 0))) = false := oz
                      clear oz hzn u5
                      have x0_x : wn.heap[gx]? = some (.cells #[.int .i64 0, .int .i64 0, .int .i64 0] 23 (0, 0)) := w_x
                      have x0_y : wn.heap[gy]? = some (.cells #[.int .i64 M.x, .int .i64 M.y, .int .i64 M.z] 23 (0, 0)) := w_y
                      clear w_x w_y
                      go_wp2_with (first
                        | (refine load_wanted rfl 23 _ rfl _ rfl _ _ _ _ x0_a Try.underlying23 rfl (need_info _ rfl) ?_)
                        | (go_at_call 9; refine (hG1 _).mono ?_; rintro e w1 ⟨rfl, hb1⟩; clear hG1; have y_a : NBox w1 (w.heap.size) a := NBox.below (a := a) x0_a hb1 (NBox.lt (a := a) x0_a); have y_b : NBox w1 (w.heap.size + 1) b := NBox.below (a := b) x0_b hb1 (NBox.lt (a := b) x0_b); have y_x : NBox w1 (gx) nz := NBox.below (a := nz) x0_x hb1 (NBox.lt (a := nz) x0_x); have y_y : NBox w1 (gy) M := NBox.below (a := M) x0_y hb1 (NBox.lt (a := M) x0_y); have HB1 : Below w.heap.size w w1 := HB0.trans (hb1.mono HB0.size); have x1_a : w1.heap[w.heap.size]? = some (.cells #[.int .i64 a.x, .int .i64 a.y, .int .i64 a.z] 23 (0, 0)) := y_a; have x1_b : w1.heap[w.heap.size + 1]? = some (.cells #[.int .i64 b.x, .int .i64 b.y, .int .i64 b.z] 23 (0, 0)) := y_b; have x1_x : w1.heap[gx]? = some (.cells #[.int .i64 0, .int .i64 0, .int .i64 0] 23 (0, 0)) := y_x; have x1_y : w1.heap[gy]? = some (.cells #[.int .i64 M.x, .int .i64 M.y, .int .i64 M.z] 23 (0, 0)) := y_y; clear hb1 HB0 x0_a x0_b x0_x x0_y y_a y_b y_x y_y)
                        | (refine load_wanted rfl 23 _ rfl _ rfl _ _ _ _ x1_b Try.underlying23 rfl (need_info _ rfl) ?_)
                        | (go_at_call 9; refine (hG2 _).mono ?_; rintro e w2 ⟨rfl, hb2⟩; clear hG2; have y_a : NBox w2 (w.heap.size) a := NBox.below (a := a) x1_a hb2 (NBox.lt (a := a) x1_a); have y_b : NBox w2 (w.heap.size + 1) b := NBox.below (a := b) x1_b hb2 (NBox.lt (a := b) x1_b); have y_x : NBox w2 (gx) nz := NBox.below (a := nz) x1_x hb2 (NBox.lt (a := nz) x1_x); have y_y : NBox w2 (gy) M := NBox.below (a := M) x1_y hb2 (NBox.lt (a := M) x1_y); have HB2 : Below w.heap.size w (w2.alloc (.cells #[.int .i64 0, .int .i64 0, .int .i64 0] 23)) := (HB1.trans (hb2.mono HB1.size)).alloc (Nat.le_trans HB1.size hb2.size) _; have x2_a : (w2.alloc (.cells #[.int .i64 0, .int .i64 0, .int .i64 0] 23)).heap[w.heap.size]? = some (.cells #[.int .i64 a.x, .int .i64 a.y, .int .i64 a.z] 23 (0, 0)) := (Below.heap_alloc _ _ _ (NBox.lt y_a)).trans y_a; have x2_b : (w2.alloc (.cells #[.int .i64 0, .int .i64 0, .int .i64 0] 23)).heap[w.heap.size + 1]? = some (.cells #[.int .i64 b.x, .int .i64 b.y, .int .i64 b.z] 23 (0, 0)) := (Below.heap_alloc _ _ _ (NBox.lt y_b)).trans y_b; have x2_x : (w2.alloc (.cells #[.int .i64 0, .int .i64 0, .int .i64 0] 23)).heap[gx]? = some (.cells #[.int .i64 0, .int .i64 0, .int .i64 0] 23 (0, 0)) := (Below.heap_alloc _ _ _ (NBox.lt y_x)).trans y_x; have x2_y : (w2.alloc (.cells #[.int .i64 0, .int .i64 0, .int .i64 0] 23)).heap[gy]? = some (.cells #[.int .i64 M.x, .int .i64 M.y, .int .i64 M.z] 23 (0, 0)) := (Below.heap_alloc _ _ _ (NBox.lt y_y)).trans y_y; have x2_none : (w2.alloc (.cells #[.int .i64 0, .int .i64 0, .int .i64 0] 23)).heap[w2.heap.size]? = some (.cells #[.int .i64 0, .int .i64 0, .int .i64 0] 23 (0, 0)) := heap_alloc_new _ _; clear hb2 HB1 x1_a x1_b x1_x x1_y y_a y_b y_x y_y)
                        | (refine load_wanted rfl 23 _ rfl _ rfl _ _ _ _ x2_a Try.underlying23 rfl (need_info _ rfl) ?_)
                        | (refine load_wanted rfl 23 _ rfl _ rfl _ _ _ _ x2_b Try.underlying23 rfl (need_info _ rfl) ?_)
                        | (go_at_call 12; refine (hFt1 _).mono ?_; rintro e w3 ⟨rfl, hb3⟩; clear hFt1; have y_a : NBox w3 (w.heap.size) a := NBox.below (a := a) x2_a hb3 (NBox.lt (a := a) x2_a); have y_b : NBox w3 (w.heap.size + 1) b := NBox.below (a := b) x2_b hb3 (NBox.lt (a := b) x2_b); have y_x : NBox w3 (gx) nz := NBox.below (a := nz) x2_x hb3 (NBox.lt (a := nz) x2_x); have y_y : NBox w3 (gy) M := NBox.below (a := M) x2_y hb3 (NBox.lt (a := M) x2_y); have y_none : NBox w3 (w2.heap.size) nz := NBox.below (a := nz) x2_none hb3 (NBox.lt (a := nz) x2_none); have HB3 : Below w.heap.size w w3 := HB2.trans (hb3.mono HB2.size); have x3_a : w3.heap[w.heap.size]? = some (.cells #[.int .i64 a.x, .int .i64 a.y, .int .i64 a.z] 23 (0, 0)) := y_a; have x3_b : w3.heap[w.heap.size + 1]? = some (.cells #[.int .i64 b.x, .int .i64 b.y, .int .i64 b.z] 23 (0, 0)) := y_b; have x3_x : w3.heap[gx]? = some (.cells #[.int .i64 0, .int .i64 0, .int .i64 0] 23 (0, 0)) := y_x; have x3_y : w3.heap[gy]? = some (.cells #[.int .i64 M.x, .int .i64 M.y, .int .i64 M.z] 23 (0, 0)) := y_y; have x3_none : w3.heap[w2.heap.size]? = some (.cells #[.int .i64 0, .int .i64 0, .int .i64 0] 23 (0, 0)) := y_none; clear hb3 HB2 x2_a x2_b x2_x x2_y x2_none y_a y_b y_x y_y y_none)
                        | (refine load_wanted rfl 23 _ rfl _ rfl _ _ _ _ x3_a Try.underlying23 rfl (need_info _ rfl) ?_)
                        | (refine load_wanted rfl 23 _ rfl _ rfl _ _ _ _ x3_b Try.underlying23 rfl (need_info _ rfl) ?_)
                        | (go_at_call 10; refine (hP _).mono ?_; rintro e w4 ⟨rfl, hb4⟩; clear hP; have y_a : NBox w4 (w.heap.size) a := NBox.below (a := a) x3_a hb4 (NBox.lt (a := a) x3_a); have y_b : NBox w4 (w.heap.size + 1) b := NBox.below (a := b) x3_b hb4 (NBox.lt (a := b) x3_b); have y_x : NBox w4 (gx) nz := NBox.below (a := nz) x3_x hb4 (NBox.lt (a := nz) x3_x); have y_y : NBox w4 (gy) M := NBox.below (a := M) x3_y hb4 (NBox.lt (a := M) x3_y); have y_none : NBox w4 (w2.heap.size) nz := NBox.below (a := nz) x3_none hb4 (NBox.lt (a := nz) x3_none); have HB4 : Below w.heap.size w (w4.alloc (.cells #[.int .i64 P.x, .int .i64 P.y, .int .i64 P.z] 23)) := (HB3.trans (hb4.mono HB3.size)).alloc (Nat.le_trans HB3.size hb4.size) _; have x4_a : (w4.alloc (.cells #[.int .i64 P.x, .int .i64 P.y, .int .i64 P.z] 23)).heap[w.heap.size]? = some (.cells #[.int .i64 a.x, .int .i64 a.y, .int .i64 a.z] 23 (0, 0)) := (Below.heap_alloc _ _ _ (NBox.lt y_a)).trans y_a; have x4_b : (w4.alloc (.cells #[.int .i64 P.x, .int .i64 P.y, .int .i64 P.z] 23)).heap[w.heap.size + 1]? = some (.cells #[.int .i64 b.x, .int .i64 b.y, .int .i64 b.z] 23 (0, 0)) := (Below.heap_alloc _ _ _ (NBox.lt y_b)).trans y_b; have x4_x : (w4.alloc (.cells #[.int .i64 P.x, .int .i64 P.y, .int .i64 P.z] 23)).heap[gx]? = some (.cells #[.int .i64 0, .int .i64 0, .int .i64 0] 23 (0, 0)) := (Below.heap_alloc _ _ _ (NBox.lt y_x)).trans y_x; have x4_y : (w4.alloc (.cells #[.int .i64 P.x, .int .i64 P.y, .int .i64 P.z] 23)).heap[gy]? = some (.cells #[.int .i64 M.x, .int .i64 M.y, .int .i64 M.z] 23 (0, 0)) := (Below.heap_alloc _ _ _ (NBox.lt y_y)).trans y_y; have x4_none : (w4.alloc (.cells #[.int .i64 P.x, .int .i64 P.y, .int .i64 P.z] 23)).heap[w2.heap.size]? = some (.cells #[.int .i64 0, .int .i64 0, .int .i64 0] 23 (0, 0)) := (Below.heap_alloc _ _ _ (NBox.lt y_none)).trans y_none; have x4_both : (w4.alloc (.cells #[.int .i64 P.x, .int .i64 P.y, .int .i64 P.z] 23)).heap[w4.heap.size]? = some (.cells #[.int .i64 P.x, .int .i64 P.y, .int .i64 P.z] 23 (0, 0)) := heap_alloc_new _ _; clear hb4 HB3 x3_a x3_b x3_x x3_y x3_none y_a y_b y_x y_y y_none)
                        | (refine load_wanted rfl 23 _ rfl _ rfl _ _ _ _ x4_both Try.underlying23 rfl (need_info _ rfl) ?_)
                        | (go_at_call 9; refine (hG3 _).mono ?_; rintro e w5 ⟨rfl, hb5⟩; clear hG3; have y_a : NBox w5 (w.heap.size) a := NBox.below (a := a) x4_a hb5 (NBox.lt (a := a) x4_a); have y_b : NBox w5 (w.heap.size + 1) b := NBox.below (a := b) x4_b hb5 (NBox.lt (a := b) x4_b); have y_x : NBox w5 (gx) nz := NBox.below (a := nz) x4_x hb5 (NBox.lt (a := nz) x4_x); have y_y : NBox w5 (gy) M := NBox.below (a := M) x4_y hb5 (NBox.lt (a := M) x4_y); have y_none : NBox w5 (w2.heap.size) nz := NBox.below (a := nz) x4_none hb5 (NBox.lt (a := nz) x4_none); have y_both : NBox w5 (w4.heap.size) P := NBox.below (a := P) x4_both hb5 (NBox.lt (a := P) x4_both); have HB5 : Below w.heap.size w w5 := HB4.trans (hb5.mono HB4.size); have x5_a : w5.heap[w.heap.size]? = some (.cells #[.int .i64 a.x, .int .i64 a.y, .int .i64 a.z] 23 (0, 0)) := y_a; have x5_b : w5.heap[w.heap.size + 1]? = some (.cells #[.int .i64 b.x, .int .i64 b.y, .int .i64 b.z] 23 (0, 0)) := y_b; have x5_x : w5.heap[gx]? = some (.cells #[.int .i64 0, .int .i64 0, .int .i64 0] 23 (0, 0)) := y_x; have x5_y : w5.heap[gy]? = some (.cells #[.int .i64 M.x, .int .i64 M.y, .int .i64 M.z] 23 (0, 0)) := y_y; have x5_none : w5.heap[w2.heap.size]? = some (.cells #[.int .i64 0, .int .i64 0, .int .i64 0] 23 (0, 0)) := y_none; have x5_both : w5.heap[w4.heap.size]? = some (.cells #[.int .i64 P.x, .int .i64 P.y, .int .i64 P.z] 23 (0, 0)) := y_both; clear hb5 HB4 x4_a x4_b x4_x x4_y x4_none x4_both y_a y_b y_x y_y y_none y_both)
                        | (refine load_wanted rfl 23 _ rfl _ rfl _ _ _ _ x5_x Try.underlying23 rfl (need_info _ rfl) ?_)
                        | (refine load_wanted rfl 23 _ rfl _ rfl _ _ _ _ x5_none Try.underlying23 rfl (need_info _ rfl) ?_)
                        | (refine load_wanted rfl 23 _ rfl _ rfl _ _ _ _ x5_b Try.underlying23 rfl (need_info _ rfl) ?_)
                        | (refine load_wanted rfl 23 _ rfl _ rfl _ _ _ _ x5_a Try.underlying23 rfl (need_info _ rfl) ?_)
                        | (go_at_call 12; refine (hFt2 _).mono ?_; rintro e w6 ⟨rfl, hb6⟩; clear hFt2; have y_a : NBox w6 (w.heap.size) a := NBox.below (a := a) x5_a hb6 (NBox.lt (a := a) x5_a); have y_b : NBox w6 (w.heap.size + 1) b := NBox.below (a := b) x5_b hb6 (NBox.lt (a := b) x5_b); have y_x : NBox w6 (gx) nz := NBox.below (a := nz) x5_x hb6 (NBox.lt (a := nz) x5_x); have y_y : NBox w6 (gy) M := NBox.below (a := M) x5_y hb6 (NBox.lt (a := M) x5_y); have y_none : NBox w6 (w2.heap.size) nz := NBox.below (a := nz) x5_none hb6 (NBox.lt (a := nz) x5_none); have y_both : NBox w6 (w4.heap.size) P := NBox.below (a := P) x5_both hb6 (NBox.lt (a := P) x5_both); have HB6 : Below w.heap.size w w6 := HB5.trans (hb6.mono HB5.size); have x6_a : w6.heap[w.heap.size]? = some (.cells #[.int .i64 a.x, .int .i64 a.y, .int .i64 a.z] 23 (0, 0)) := y_a; have x6_b : w6.heap[w.heap.size + 1]? = some (.cells #[.int .i64 b.x, .int .i64 b.y, .int .i64 b.z] 23 (0, 0)) := y_b; have x6_x : w6.heap[gx]? = some (.cells #[.int .i64 0, .int .i64 0, .int .i64 0] 23 (0, 0)) := y_x; have x6_y : w6.heap[gy]? = some (.cells #[.int .i64 M.x, .int .i64 M.y, .int .i64 M.z] 23 (0, 0)) := y_y; have x6_none : w6.heap[w2.heap.size]? = some (.cells #[.int .i64 0, .int .i64 0, .int .i64 0] 23 (0, 0)) := y_none; have x6_both : w6.heap[w4.heap.size]? = some (.cells #[.int .i64 P.x, .int .i64 P.y, .int .i64 P.z] 23 (0, 0)) := y_both; clear hb6 HB5 x5_a x5_b x5_x x5_y x5_none x5_both y_a y_b y_x y_y y_none y_both)
                        | go_in)
                      have hc : NBox w6.drew w.heap.size a ∧ NBox w6.drew (w.heap.size + 1) b ∧ NBox w6.drew gy M ∧ NBox w6.drew w2.heap.size nz := ⟨x6_a, x6_b, x6_y, x6_none⟩
                      have hBx : Hid (Below w.heap.size w w6.drew) := HB6.drew
                      clear x6_a x6_b x6_x x6_y x6_none x6_both HB6
                      generalize w2.heap.size = gn at *
                      refine Tkc.region_anyC (C := fun w' => NBox w' w.heap.size a ∧ NBox w' (w.heap.size + 1) b ∧ NBox w' gy M ∧ NBox w' gn nz) (s := 9) (by kernel_rfl) ?_
                      generalize w6.drew = wd2 at *
                      refine Tkc.takeC (i := 0) (v := (.agg #[.int .i64 M.x, .int .i64 M.y, .int .i64 M.z])) rfl (by kernel_rfl) (by kernel_rfl) (by kernel_rfl) (fun _ _ _ h => h) (by decide) (by kernel_rfl) (by kernel_rfl) hc ⟨by rfl, fun w hw => by have k0 := hw.1.c0; have k1 := hw.1.c1; have k2 := hw.1.c2; have k3 := hw.2.1.c0; have k4 := hw.2.1.c1; have k5 := hw.2.1.c2; have k6 := hw.2.2.1.c0; have k7 := hw.2.2.1.c1; have k8 := hw.2.2.1.c2; go_simp⟩ ?_
                      try go_frame
                      refine Tkc.takeC (i := 1) (v := (.agg #[.int .i64 a.x, .int .i64 a.y, .int .i64 a.z])) rfl (by kernel_rfl) (by kernel_rfl) (by kernel_rfl) (fun _ _ _ h => h) (by decide) (by kernel_rfl) (by kernel_rfl) hc ⟨by rfl, fun w hw => by have k0 := hw.1.c0; have k1 := hw.1.c1; have k2 := hw.1.c2; have k3 := hw.2.1.c0; have k4 := hw.2.1.c1; have k5 := hw.2.1.c2; have k6 := hw.2.2.1.c0; have k7 := hw.2.2.1.c1; have k8 := hw.2.2.1.c2; go_simp⟩ ?_
                      try go_frame
                      refine Tkc.takeC (i := 2) (v := (.agg #[.int .i64 b.x, .int .i64 b.y, .int .i64 b.z])) rfl (by kernel_rfl) (by kernel_rfl) (by kernel_rfl) (fun _ _ _ h => h) (by decide) (by kernel_rfl) (by kernel_rfl) hc ⟨by rfl, fun w hw => by have k0 := hw.1.c0; have k1 := hw.1.c1; have k2 := hw.1.c2; have k3 := hw.2.1.c0; have k4 := hw.2.1.c1; have k5 := hw.2.1.c2; have k6 := hw.2.2.1.c0; have k7 := hw.2.2.1.c1; have k8 := hw.2.2.1.c2; go_simp⟩ ?_
                      try go_frame
                      refine Tkc.onlyC (i := 3) rfl (by kernel_rfl) (fun _ => hc) (by rfl) (fun K hK => ?_)
                      go_simp
                      refine (hM _).mono ?_
                      rintro e wn ⟨rfl, hb⟩
                      refine hK _ _ ?_
                      clear hK K
                      have hc : NBox wn w.heap.size a ∧ NBox wn (w.heap.size + 1) b ∧ NBox wn gy M ∧ NBox wn gn nz := ⟨hc.1.below hb hc.1.lt, hc.2.1.below hb hc.2.1.lt, hc.2.2.1.below hb hc.2.2.1.lt, hc.2.2.2.below hb hc.2.2.2.lt⟩
                      have hBx : Hid (Below w.heap.size w wn) := hBx.out.trans (hb.mono hBx.out.size)
                      clear hb
                      try go_frame
                      refine Tkc.onlyC (i := 4) rfl (by kernel_rfl) (fun _ => hc) (by rfl) (fun K hK => ?_)
                      go_simp
                      refine hK _ _ ?_
                      clear hK K
                      try go_frame
                      refine Tkc.onlyC (i := 5) rfl (by kernel_rfl) (fun _ => hc) (by rfl) (fun K hK => ?_)
                      go_simp
                      refine hK _ _ ?_
                      clear hK K
                      try go_frame
                      refine Tkc.onlyC (i := 6) rfl (by kernel_rfl) (fun _ => hc) (by rfl) (fun K hK => ?_)
                      go_simp
                      refine hK _ _ ?_
                      clear hK K
                      try go_frame
                      refine Tkc.onlyC (i := 7) rfl (by kernel_rfl) (fun _ => hc) (by rfl) (fun K hK => ?_)
                      go_simp
                      refine hK _ _ ?_
                      clear hK K
                      try go_frame
                      refine Tkc.onlyC (i := 8) rfl (by kernel_rfl) (fun _ => hc) (by rfl) (fun K hK => ?_)
                      go_simp
                      refine hK _ _ ?_
                      clear hK K
                      try go_frame
                      refine Tkc.doneC (by kernel_rfl) (fun _ => hc) ?_
                      have x0_a : wn.heap[w.heap.size]? = some (.cells #[.int .i64 a.x, .int .i64 a.y, .int .i64 a.z] 23 (0, 0)) := hc.1
                      have x0_b : wn.heap[w.heap.size + 1]? = some (.cells #[.int .i64 b.x, .int .i64 b.y, .int .i64 b.z] 23 (0, 0)) := hc.2.1
                      have x0_none : wn.heap[gn]? = some (.cells #[.int .i64 0, .int .i64 0, .int .i64 0] 23 (0, 0)) := hc.2.2.2
                      have HB0 : Below w.heap.size w wn := hBx.out
                      clear hc hBx hM
                      go_wp2_with (first
                        | (refine load_wanted rfl 23 _ rfl _ rfl _ _ _ _ x0_a Try.underlying23 rfl (need_info _ rfl) ?_)
                        | (refine load_wanted rfl 23 _ rfl _ rfl _ _ _ _ x0_none Try.underlying23 rfl (need_info _ rfl) ?_)
                        | (refine load_wanted rfl 23 _ rfl _ rfl _ _ _ _ x0_b Try.underlying23 rfl (need_info _ rfl) ?_)
                        | (go_at_call 13; refine (hT1 _).mono ?_; rintro e w1 ⟨rfl, hb1⟩; clear hT1; have y_a : NBox w1 (w.heap.size) a := NBox.below (a := a) x0_a hb1 (NBox.lt (a := a) x0_a); have y_b : NBox w1 (w.heap.size + 1) b := NBox.below (a := b) x0_b hb1 (NBox.lt (a := b) x0_b); have y_none : NBox w1 (gn) nz := NBox.below (a := nz) x0_none hb1 (NBox.lt (a := nz) x0_none); have HB1 : Below w.heap.size w w1 := HB0.trans (hb1.mono HB0.size); have x1_a : w1.heap[w.heap.size]? = some (.cells #[.int .i64 a.x, .int .i64 a.y, .int .i64 a.z] 23 (0, 0)) := y_a; have x1_b : w1.heap[w.heap.size + 1]? = some (.cells #[.int .i64 b.x, .int .i64 b.y, .int .i64 b.z] 23 (0, 0)) := y_b; have x1_none : w1.heap[gn]? = some (.cells #[.int .i64 0, .int .i64 0, .int .i64 0] 23 (0, 0)) := y_none; clear hb1 HB0 x0_a x0_b x0_none y_a y_b y_none)
                        | (refine load_wanted rfl 23 _ rfl _ rfl _ _ _ _ x1_a Try.underlying23 rfl (need_info _ rfl) ?_)
                        | (refine load_wanted rfl 23 _ rfl _ rfl _ _ _ _ x1_b Try.underlying23 rfl (need_info _ rfl) ?_)
                        | (go_at_call 13; refine (hT2 _).mono ?_; rintro e w2 ⟨rfl, hb2⟩; clear hT2; have y_a : NBox w2 (w.heap.size) a := NBox.below (a := a) x1_a hb2 (NBox.lt (a := a) x1_a); have y_b : NBox w2 (w.heap.size + 1) b := NBox.below (a := b) x1_b hb2 (NBox.lt (a := b) x1_b); have y_none : NBox w2 (gn) nz := NBox.below (a := nz) x1_none hb2 (NBox.lt (a := nz) x1_none); have HB2 : Below w.heap.size w w2 := HB1.trans (hb2.mono HB1.size); have x2_a : w2.heap[w.heap.size]? = some (.cells #[.int .i64 a.x, .int .i64 a.y, .int .i64 a.z] 23 (0, 0)) := y_a; have x2_b : w2.heap[w.heap.size + 1]? = some (.cells #[.int .i64 b.x, .int .i64 b.y, .int .i64 b.z] 23 (0, 0)) := y_b; have x2_none : w2.heap[gn]? = some (.cells #[.int .i64 0, .int .i64 0, .int .i64 0] 23 (0, 0)) := y_none; clear hb2 HB1 x1_a x1_b x1_none y_a y_b y_none)
                        | go_in)
                      go_ret
                      exact ⟨by first | rfl | simp, HB2⟩
                  · skip
                    rw [of] at YH2 hFt2
                    obtain ⟨u3, u4⟩ := YH2
                    simp only [Bool.false_eq_true, if_false] at u3 u4
                    have u3s := u3.symm
                    clear u3
                    subst u3s u4
                    clear of
                    rcases Bool.eq_false_or_eq_true (isZ a) with oz | oz
                    · skip
                      rw [oz] at TH2
                      obtain ⟨u5, u6⟩ := TH2
                      simp only [if_true] at u5 u6
                      subst u5 u6
                      have hz : (decide (a.x = 0) && (decide (a.y = 0) && decide (a.z = 0))) = true := oz
                      clear oz hT1 hT2 hzn hbd
                      have x0_x : wn.heap[gx]? = some (.cells #[.int .i64 0, .int .i64 0, .int .i64 0] 23 (0, 0)) := w_x
                      have x0_y : wn.heap[gy]? = some (.cells #[.int .i64 0, .int .i64 0, .int .i64 0] 23 (0, 0)) := w_y
                      clear w_x w_y
                      go_wp2_with (first
                        | (refine load_wanted rfl 23 _ rfl _ rfl _ _ _ _ x0_a Try.underlying23 rfl (need_info _ rfl) ?_)
                        | (go_at_call 9; refine (hG1 _).mono ?_; rintro e w1 ⟨rfl, hb1⟩; clear hG1; have y_a : NBox w1 (w.heap.size) a := NBox.below (a := a) x0_a hb1 (NBox.lt (a := a) x0_a); have y_b : NBox w1 (w.heap.size + 1) b := NBox.below (a := b) x0_b hb1 (NBox.lt (a := b) x0_b); have y_x : NBox w1 (gx) nz := NBox.below (a := nz) x0_x hb1 (NBox.lt (a := nz) x0_x); have y_y : NBox w1 (gy) nz := NBox.below (a := nz) x0_y hb1 (NBox.lt (a := nz) x0_y); have HB1 : Below w.heap.size w w1 := HB0.trans (hb1.mono HB0.size); have x1_a : w1.heap[w.heap.size]? = some (.cells #[.int .i64 a.x, .int .i64 a.y, .int .i64 a.z] 23 (0, 0)) := y_a; have x1_b : w1.heap[w.heap.size + 1]? = some (.cells #[.int .i64 b.x, .int .i64 b.y, .int .i64 b.z] 23 (0, 0)) := y_b; have x1_x : w1.heap[gx]? = some (.cells #[.int .i64 0, .int .i64 0, .int .i64 0] 23 (0, 0)) := y_x; have x1_y : w1.heap[gy]? = some (.cells #[.int .i64 0, .int .i64 0, .int .i64 0] 23 (0, 0)) := y_y; clear hb1 HB0 x0_a x0_b x0_x x0_y y_a y_b y_x y_y)
                        | (refine load_wanted rfl 23 _ rfl _ rfl _ _ _ _ x1_b Try.underlying23 rfl (need_info _ rfl) ?_)
                        | (go_at_call 9; refine (hG2 _).mono ?_; rintro e w2 ⟨rfl, hb2⟩; clear hG2; have y_a : NBox w2 (w.heap.size) a := NBox.below (a := a) x1_a hb2 (NBox.lt (a := a) x1_a); have y_b : NBox w2 (w.heap.size + 1) b := NBox.below (a := b) x1_b hb2 (NBox.lt (a := b) x1_b); have y_x : NBox w2 (gx) nz := NBox.below (a := nz) x1_x hb2 (NBox.lt (a := nz) x1_x); have y_y : NBox w2 (gy) nz := NBox.below (a := nz) x1_y hb2 (NBox.lt (a := nz) x1_y); have HB2 : Below w.heap.size w (w2.alloc (.cells #[.int .i64 0, .int .i64 0, .int .i64 0] 23)) := (HB1.trans (hb2.mono HB1.size)).alloc (Nat.le_trans HB1.size hb2.size) _; have x2_a : (w2.alloc (.cells #[.int .i64 0, .int .i64 0, .int .i64 0] 23)).heap[w.heap.size]? = some (.cells #[.int .i64 a.x, .int .i64 a.y, .int .i64 a.z] 23 (0, 0)) := (Below.heap_alloc _ _ _ (NBox.lt y_a)).trans y_a; have x2_b : (w2.alloc (.cells #[.int .i64 0, .int .i64 0, .int .i64 0] 23)).heap[w.heap.size + 1]? = some (.cells #[.int .i64 b.x, .int .i64 b.y, .int .i64 b.z] 23 (0, 0)) := (Below.heap_alloc _ _ _ (NBox.lt y_b)).trans y_b; have x2_x : (w2.alloc (.cells #[.int .i64 0, .int .i64 0, .int .i64 0] 23)).heap[gx]? = some (.cells #[.int .i64 0, .int .i64 0, .int .i64 0] 23 (0, 0)) := (Below.heap_alloc _ _ _ (NBox.lt y_x)).trans y_x; have x2_y : (w2.alloc (.cells #[.int .i64 0, .int .i64 0, .int .i64 0] 23)).heap[gy]? = some (.cells #[.int .i64 0, .int .i64 0, .int .i64 0] 23 (0, 0)) := (Below.heap_alloc _ _ _ (NBox.lt y_y)).trans y_y; have x2_none : (w2.alloc (.cells #[.int .i64 0, .int .i64 0, .int .i64 0] 23)).heap[w2.heap.size]? = some (.cells #[.int .i64 0, .int .i64 0, .int .i64 0] 23 (0, 0)) := heap_alloc_new _ _; clear hb2 HB1 x1_a x1_b x1_x x1_y y_a y_b y_x y_y)
                        | (refine load_wanted rfl 23 _ rfl _ rfl _ _ _ _ x2_a Try.underlying23 rfl (need_info _ rfl) ?_)
                        | (refine load_wanted rfl 23 _ rfl _ rfl _ _ _ _ x2_b Try.underlying23 rfl (need_info _ rfl) ?_)
                        | (go_at_call 12; refine (hFt1 _).mono ?_; rintro e w3 ⟨rfl, hb3⟩; clear hFt1; have y_a : NBox w3 (w.heap.size) a := NBox.below (a := a) x2_a hb3 (NBox.lt (a := a) x2_a); have y_b : NBox w3 (w.heap.size + 1) b := NBox.below (a := b) x2_b hb3 (NBox.lt (a := b) x2_b); have y_x : NBox w3 (gx) nz := NBox.below (a := nz) x2_x hb3 (NBox.lt (a := nz) x2_x); have y_y : NBox w3 (gy) nz := NBox.below (a := nz) x2_y hb3 (NBox.lt (a := nz) x2_y); have y_none : NBox w3 (w2.heap.size) nz := NBox.below (a := nz) x2_none hb3 (NBox.lt (a := nz) x2_none); have HB3 : Below w.heap.size w w3 := HB2.trans (hb3.mono HB2.size); have x3_a : w3.heap[w.heap.size]? = some (.cells #[.int .i64 a.x, .int .i64 a.y, .int .i64 a.z] 23 (0, 0)) := y_a; have x3_b : w3.heap[w.heap.size + 1]? = some (.cells #[.int .i64 b.x, .int .i64 b.y, .int .i64 b.z] 23 (0, 0)) := y_b; have x3_x : w3.heap[gx]? = some (.cells #[.int .i64 0, .int .i64 0, .int .i64 0] 23 (0, 0)) := y_x; have x3_y : w3.heap[gy]? = some (.cells #[.int .i64 0, .int .i64 0, .int .i64 0] 23 (0, 0)) := y_y; have x3_none : w3.heap[w2.heap.size]? = some (.cells #[.int .i64 0, .int .i64 0, .int .i64 0] 23 (0, 0)) := y_none; clear hb3 HB2 x2_a x2_b x2_x x2_y x2_none y_a y_b y_x y_y y_none)
                        | (refine load_wanted rfl 23 _ rfl _ rfl _ _ _ _ x3_a Try.underlying23 rfl (need_info _ rfl) ?_)
                        | (refine load_wanted rfl 23 _ rfl _ rfl _ _ _ _ x3_b Try.underlying23 rfl (need_info _ rfl) ?_)
                        | (go_at_call 10; refine (hP _).mono ?_; rintro e w4 ⟨rfl, hb4⟩; clear hP; have y_a : NBox w4 (w.heap.size) a := NBox.below (a := a) x3_a hb4 (NBox.lt (a := a) x3_a); have y_b : NBox w4 (w.heap.size + 1) b := NBox.below (a := b) x3_b hb4 (NBox.lt (a := b) x3_b); have y_x : NBox w4 (gx) nz := NBox.below (a := nz) x3_x hb4 (NBox.lt (a := nz) x3_x); have y_y : NBox w4 (gy) nz := NBox.below (a := nz) x3_y hb4 (NBox.lt (a := nz) x3_y); have y_none : NBox w4 (w2.heap.size) nz := NBox.below (a := nz) x3_none hb4 (NBox.lt (a := nz) x3_none); have HB4 : Below w.heap.size w (w4.alloc (.cells #[.int .i64 P.x, .int .i64 P.y, .int .i64 P.z] 23)) := (HB3.trans (hb4.mono HB3.size)).alloc (Nat.le_trans HB3.size hb4.size) _; have x4_a : (w4.alloc (.cells #[.int .i64 P.x, .int .i64 P.y, .int .i64 P.z] 23)).heap[w.heap.size]? = some (.cells #[.int .i64 a.x, .int .i64 a.y, .int .i64 a.z] 23 (0, 0)) := (Below.heap_alloc _ _ _ (NBox.lt y_a)).trans y_a; have x4_b : (w4.alloc (.cells #[.int .i64 P.x, .int .i64 P.y, .int .i64 P.z] 23)).heap[w.heap.size + 1]? = some (.cells #[.int .i64 b.x, .int .i64 b.y, .int .i64 b.z] 23 (0, 0)) := (Below.heap_alloc _ _ _ (NBox.lt y_b)).trans y_b; have x4_x : (w4.alloc (.cells #[.int .i64 P.x, .int .i64 P.y, .int .i64 P.z] 23)).heap[gx]? = some (.cells #[.int .i64 0, .int .i64 0, .int .i64 0] 23 (0, 0)) := (Below.heap_alloc _ _ _ (NBox.lt y_x)).trans y_x; have x4_y : (w4.alloc (.cells #[.int .i64 P.x, .int .i64 P.y, .int .i64 P.z] 23)).heap[gy]? = some (.cells #[.int .i64 0, .int .i64 0, .int .i64 0] 23 (0, 0)) := (Below.heap_alloc _ _ _ (NBox.lt y_y)).trans y_y; have x4_none : (w4.alloc (.cells #[.int .i64 P.x, .int .i64 P.y, .int .i64 P.z] 23)).heap[w2.heap.size]? = some (.cells #[.int .i64 0, .int .i64 0, .int .i64 0] 23 (0, 0)) := (Below.heap_alloc _ _ _ (NBox.lt y_none)).trans y_none; have x4_both : (w4.alloc (.cells #[.int .i64 P.x, .int .i64 P.y, .int .i64 P.z] 23)).heap[w4.heap.size]? = some (.cells #[.int .i64 P.x, .int .i64 P.y, .int .i64 P.z] 23 (0, 0)) := heap_alloc_new _ _; clear hb4 HB3 x3_a x3_b x3_x x3_y x3_none y_a y_b y_x y_y y_none)
                        | (refine load_wanted rfl 23 _ rfl _ rfl _ _ _ _ x4_both Try.underlying23 rfl (need_info _ rfl) ?_)
                        | (go_at_call 9; refine (hG3 _).mono ?_; rintro e w5 ⟨rfl, hb5⟩; clear hG3; have y_a : NBox w5 (w.heap.size) a := NBox.below (a := a) x4_a hb5 (NBox.lt (a := a) x4_a); have y_b : NBox w5 (w.heap.size + 1) b := NBox.below (a := b) x4_b hb5 (NBox.lt (a := b) x4_b); have y_x : NBox w5 (gx) nz := NBox.below (a := nz) x4_x hb5 (NBox.lt (a := nz) x4_x); have y_y : NBox w5 (gy) nz := NBox.below (a := nz) x4_y hb5 (NBox.lt (a := nz) x4_y); have y_none : NBox w5 (w2.heap.size) nz := NBox.below (a := nz) x4_none hb5 (NBox.lt (a := nz) x4_none); have y_both : NBox w5 (w4.heap.size) P := NBox.below (a := P) x4_both hb5 (NBox.lt (a := P) x4_both); have HB5 : Below w.heap.size w w5 := HB4.trans (hb5.mono HB4.size); have x5_a : w5.heap[w.heap.size]? = some (.cells #[.int .i64 a.x, .int .i64 a.y, .int .i64 a.z] 23 (0, 0)) := y_a; have x5_b : w5.heap[w.heap.size + 1]? = some (.cells #[.int .i64 b.x, .int .i64 b.y, .int .i64 b.z] 23 (0, 0)) := y_b; have x5_x : w5.heap[gx]? = some (.cells #[.int .i64 0, .int .i64 0, .int .i64 0] 23 (0, 0)) := y_x; have x5_y : w5.heap[gy]? = some (.cells #[.int .i64 0, .int .i64 0, .int .i64 0] 23 (0, 0)) := y_y; have x5_none : w5.heap[w2.heap.size]? = some (.cells #[.int .i64 0, .int .i64 0, .int .i64 0] 23 (0, 0)) := y_none; have x5_both : w5.heap[w4.heap.size]? = some (.cells #[.int .i64 P.x, .int .i64 P.y, .int .i64 P.z] 23 (0, 0)) := y_both; clear hb5 HB4 x4_a x4_b x4_x x4_y x4_none x4_both y_a y_b y_x y_y y_none y_both)
                        | (refine load_wanted rfl 23 _ rfl _ rfl _ _ _ _ x5_x Try.underlying23 rfl (need_info _ rfl) ?_)
                        | (refine load_wanted rfl 23 _ rfl _ rfl _ _ _ _ x5_none Try.underlying23 rfl (need_info _ rfl) ?_)
                        | (refine load_wanted rfl 23 _ rfl _ rfl _ _ _ _ x5_b Try.underlying23 rfl (need_info _ rfl) ?_)
                        | (refine load_wanted rfl 23 _ rfl _ rfl _ _ _ _ x5_a Try.underlying23 rfl (need_info _ rfl) ?_)
                        | (go_at_call 12; refine (hFt2 _).mono ?_; rintro e w6 ⟨rfl, hb6⟩; clear hFt2; have y_a : NBox w6 (w.heap.size) a := NBox.below (a := a) x5_a hb6 (NBox.lt (a := a) x5_a); have y_b : NBox w6 (w.heap.size + 1) b := NBox.below (a := b) x5_b hb6 (NBox.lt (a := b) x5_b); have y_x : NBox w6 (gx) nz := NBox.below (a := nz) x5_x hb6 (NBox.lt (a := nz) x5_x); have y_y : NBox w6 (gy) nz := NBox.below (a := nz) x5_y hb6 (NBox.lt (a := nz) x5_y); have y_none : NBox w6 (w2.heap.size) nz := NBox.below (a := nz) x5_none hb6 (NBox.lt (a := nz) x5_none); have y_both : NBox w6 (w4.heap.size) P := NBox.below (a := P) x5_both hb6 (NBox.lt (a := P) x5_both); have HB6 : Below w.heap.size w w6 := HB5.trans (hb6.mono HB5.size); have x6_a : w6.heap[w.heap.size]? = some (.cells #[.int .i64 a.x, .int .i64 a.y, .int .i64 a.z] 23 (0, 0)) := y_a; have x6_b : w6.heap[w.heap.size + 1]? = some (.cells #[.int .i64 b.x, .int .i64 b.y, .int .i64 b.z] 23 (0, 0)) := y_b; have x6_x : w6.heap[gx]? = some (.cells #[.int .i64 0, .int .i64 0, .int .i64 0] 23 (0, 0)) := y_x; have x6_y : w6.heap[gy]? = some (.cells #[.int .i64 0, .int .i64 0, .int .i64 0] 23 (0, 0)) := y_y; have x6_none : w6.heap[w2.heap.size]? = some (.cells #[.int .i64 0, .int .i64 0, .int .i64 0] 23 (0, 0)) := y_none; have x6_both : w6.heap[w4.heap.size]? = some (.cells #[.int .i64 P.x, .int .i64 P.y, .int .i64 P.z] 23 (0, 0)) := y_both; clear hb6 HB5 x5_a x5_b x5_x x5_y x5_none x5_both y_a y_b y_x y_y y_none y_both)
                        | (refine load_wanted rfl 23 _ rfl _ rfl _ _ _ _ x6_y Try.underlying23 rfl (need_info _ rfl) ?_)
                        | (refine load_wanted rfl 23 _ rfl _ rfl _ _ _ _ x6_none Try.underlying23 rfl (need_info _ rfl) ?_)
                        | (refine load_wanted rfl 23 _ rfl _ rfl _ _ _ _ x6_a Try.underlying23 rfl (need_info _ rfl) ?_)
                        | go_in)
                      go_ret
                      exact ⟨by first | rfl | simp, HB6⟩
                    · skip
                      rw [oz] at TH2
                      obtain ⟨u5, u6⟩ := TH2
                      simp only [Bool.false_eq_true, if_false] at u5 u6
                      subst u6
                      rw [hzn oz] at hT2
                      rw [← u5] at hT1 hT2 hbd
                      obtain ⟨hbd1, hbd2⟩ := hbd
                      have hz : (decide (a.x = 0) && (decide (a.y = 0) && decide (a.z = 0))) = false := oz
                      clear oz hzn u5
                      have x0_x : wn.heap[gx]? = some (.cells #[.int .i64 0, .int .i64 0, .int .i64 0] 23 (0, 0)) := w_x
                      have x0_y : wn.heap[gy]? = some (.cells #[.int .i64 0, .int .i64 0, .int .i64 0] 23 (0, 0)) := w_y
                      clear w_x w_y
                      go_wp2_with (first
                        | (refine load_wanted rfl 23 _ rfl _ rfl _ _ _ _ x0_a Try.underlying23 rfl (need_info _ rfl) ?_)
                        | (go_at_call 9; refine (hG1 _).mono ?_; rintro e w1 ⟨rfl, hb1⟩; clear hG1; have y_a : NBox w1 (w.heap.size) a := NBox.below (a := a) x0_a hb1 (NBox.lt (a := a) x0_a); have y_b : NBox w1 (w.heap.size + 1) b := NBox.below (a := b) x0_b hb1 (NBox.lt (a := b) x0_b); have y_x : NBox w1 (gx) nz := NBox.below (a := nz) x0_x hb1 (NBox.lt (a := nz) x0_x); have y_y : NBox w1 (gy) nz := NBox.below (a := nz) x0_y hb1 (NBox.lt (a := nz) x0_y); have HB1 : Below w.heap.size w w1 := HB0.trans (hb1.mono HB0.size); have x1_a : w1.heap[w.heap.size]? = some (.cells #[.int .i64 a.x, .int .i64 a.y, .int .i64 a.z] 23 (0, 0)) := y_a; have x1_b : w1.heap[w.heap.size + 1]? = some (.cells #[.int .i64 b.x, .int .i64 b.y, .int .i64 b.z] 23 (0, 0)) := y_b; have x1_x : w1.heap[gx]? = some (.cells #[.int .i64 0, .int .i64 0, .int .i64 0] 23 (0, 0)) := y_x; have x1_y : w1.heap[gy]? = some (.cells #[.int .i64 0, .int .i64 0, .int .i64 0] 23 (0, 0)) := y_y; clear hb1 HB0 x0_a x0_b x0_x x0_y y_a y_b y_x y_y)
                        | (refine load_wanted rfl 23 _ rfl _ rfl _ _ _ _ x1_b Try.underlying23 rfl (need_info _ rfl) ?_)
                        | (go_at_call 9; refine (hG2 _).mono ?_; rintro e w2 ⟨rfl, hb2⟩; clear hG2; have y_a : NBox w2 (w.heap.size) a := NBox.below (a := a) x1_a hb2 (NBox.lt (a := a) x1_a); have y_b : NBox w2 (w.heap.size + 1) b := NBox.below (a := b) x1_b hb2 (NBox.lt (a := b) x1_b); have y_x : NBox w2 (gx) nz := NBox.below (a := nz) x1_x hb2 (NBox.lt (a := nz) x1_x); have y_y : NBox w2 (gy) nz := NBox.below (a := nz) x1_y hb2 (NBox.lt (a := nz) x1_y); have HB2 : Below w.heap.size w (w2.alloc (.cells #[.int .i64 0, .int .i64 0, .int .i64 0] 23)) := (HB1.trans (hb2.mono HB1.size)).alloc (Nat.le_trans HB1.size hb2.size) _; have x2_a : (w2.alloc (.cells #[.int .i64 0, .int .i64 0, .int .i64 0] 23)).heap[w.heap.size]? = some (.cells #[.int .i64 a.x, .int .i64 a.y, .int .i64 a.z] 23 (0, 0)) := (Below.heap_alloc _ _ _ (NBox.lt y_a)).trans y_a; have x2_b : (w2.alloc (.cells #[.int .i64 0, .int .i64 0, .int .i64 0] 23)).heap[w.heap.size + 1]? = some (.cells #[.int .i64 b.x, .int .i64 b.y, .int .i64 b.z] 23 (0, 0)) := (Below.heap_alloc _ _ _ (NBox.lt y_b)).trans y_b; have x2_x : (w2.alloc (.cells #[.int .i64 0, .int .i64 0, .int .i64 0] 23)).heap[gx]? = some (.cells #[.int .i64 0, .int .i64 0, .int .i64 0] 23 (0, 0)) := (Below.heap_alloc _ _ _ (NBox.lt y_x)).trans y_x; have x2_y : (w2.alloc (.cells #[.int .i64 0, .int .i64 0, .int .i64 0] 23)).heap[gy]? = some (.cells #[.int .i64 0, .int .i64 0, .int .i64 0] 23 (0, 0)) := (Below.heap_alloc _ _ _ (NBox.lt y_y)).trans y_y; have x2_none : (w2.alloc (.cells #[.int .i64 0, .int .i64 0, .int .i64 0] 23)).heap[w2.heap.size]? = some (.cells #[.int .i64 0, .int .i64 0, .int .i64 0] 23 (0, 0)) := heap_alloc_new _ _; clear hb2 HB1 x1_a x1_b x1_x x1_y y_a y_b y_x y_y)
                        | (refine load_wanted rfl 23 _ rfl _ rfl _ _ _ _ x2_a Try.underlying23 rfl (need_info _ rfl) ?_)
                        | (refine load_wanted rfl 23 _ rfl _ rfl _ _ _ _ x2_b Try.underlying23 rfl (need_info _ rfl) ?_)
                        | (go_at_call 12; refine (hFt1 _).mono ?_; rintro e w3 ⟨rfl, hb3⟩; clear hFt1; have y_a : NBox w3 (w.heap.size) a := NBox.below (a := a) x2_a hb3 (NBox.lt (a := a) x2_a); have y_b : NBox w3 (w.heap.size + 1) b := NBox.below (a := b) x2_b hb3 (NBox.lt (a := b) x2_b); have y_x : NBox w3 (gx) nz := NBox.below (a := nz) x2_x hb3 (NBox.lt (a := nz) x2_x); have y_y : NBox w3 (gy) nz := NBox.below (a := nz) x2_y hb3 (NBox.lt (a := nz) x2_y); have y_none : NBox w3 (w2.heap.size) nz := NBox.below (a := nz) x2_none hb3 (NBox.lt (a := nz) x2_none); have HB3 : Below w.heap.size w w3 := HB2.trans (hb3.mono HB2.size); have x3_a : w3.heap[w.heap.size]? = some (.cells #[.int .i64 a.x, .int .i64 a.y, .int .i64 a.z] 23 (0, 0)) := y_a; have x3_b : w3.heap[w.heap.size + 1]? = some (.cells #[.int .i64 b.x, .int .i64 b.y, .int .i64 b.z] 23 (0, 0)) := y_b; have x3_x : w3.heap[gx]? = some (.cells #[.int .i64 0, .int .i64 0, .int .i64 0] 23 (0, 0)) := y_x; have x3_y : w3.heap[gy]? = some (.cells #[.int .i64 0, .int .i64 0, .int .i64 0] 23 (0, 0)) := y_y; have x3_none : w3.heap[w2.heap.size]? = some (.cells #[.int .i64 0, .int .i64 0, .int .i64 0] 23 (0, 0)) := y_none; clear hb3 HB2 x2_a x2_b x2_x x2_y x2_none y_a y_b y_x y_y y_none)
                        | (refine load_wanted rfl 23 _ rfl _ rfl _ _ _ _ x3_a Try.underlying23 rfl (need_info _ rfl) ?_)
                        | (refine load_wanted rfl 23 _ rfl _ rfl _ _ _ _ x3_b Try.underlying23 rfl (need_info _ rfl) ?_)
                        | (go_at_call 10; refine (hP _).mono ?_; rintro e w4 ⟨rfl, hb4⟩; clear hP; have y_a : NBox w4 (w.heap.size) a := NBox.below (a := a) x3_a hb4 (NBox.lt (a := a) x3_a); have y_b : NBox w4 (w.heap.size + 1) b := NBox.below (a := b) x3_b hb4 (NBox.lt (a := b) x3_b); have y_x : NBox w4 (gx) nz := NBox.below (a := nz) x3_x hb4 (NBox.lt (a := nz) x3_x); have y_y : NBox w4 (gy) nz := NBox.below (a := nz) x3_y hb4 (NBox.lt (a := nz) x3_y); have y_none : NBox w4 (w2.heap.size) nz := NBox.below (a := nz) x3_none hb4 (NBox.lt (a := nz) x3_none); have HB4 : Below w.heap.size w (w4.alloc (.cells #[.int .i64 P.x, .int .i64 P.y, .int .i64 P.z] 23)) := (HB3.trans (hb4.mono HB3.size)).alloc (Nat.le_trans HB3.size hb4.size) _; have x4_a : (w4.alloc (.cells #[.int .i64 P.x, .int .i64 P.y, .int .i64 P.z] 23)).heap[w.heap.size]? = some (.cells #[.int .i64 a.x, .int .i64 a.y, .int .i64 a.z] 23 (0, 0)) := (Below.heap_alloc _ _ _ (NBox.lt y_a)).trans y_a; have x4_b : (w4.alloc (.cells #[.int .i64 P.x, .int .i64 P.y, .int .i64 P.z] 23)).heap[w.heap.size + 1]? = some (.cells #[.int .i64 b.x, .int .i64 b.y, .int .i64 b.z] 23 (0, 0)) := (Below.heap_alloc _ _ _ (NBox.lt y_b)).trans y_b; have x4_x : (w4.alloc (.cells #[.int .i64 P.x, .int .i64 P.y, .int .i64 P.z] 23)).heap[gx]? = some (.cells #[.int .i64 0, .int .i64 0, .int .i64 0] 23 (0, 0)) := (Below.heap_alloc _ _ _ (NBox.lt y_x)).trans y_x; have x4_y : (w4.alloc (.cells #[.int .i64 P.x, .int .i64 P.y, .int .i64 P.z] 23)).heap[gy]? = some (.cells #[.int .i64 0, .int .i64 0, .int .i64 0] 23 (0, 0)) := (Below.heap_alloc _ _ _ (NBox.lt y_y)).trans y_y; have x4_none : (w4.alloc (.cells #[.int .i64 P.x, .int .i64 P.y, .int .i64 P.z] 23)).heap[w2.heap.size]? = some (.cells #[.int .i64 0, .int .i64 0, .int .i64 0] 23 (0, 0)) := (Below.heap_alloc _ _ _ (NBox.lt y_none)).trans y_none; have x4_both : (w4.alloc (.cells #[.int .i64 P.x, .int .i64 P.y, .int .i64 P.z] 23)).heap[w4.heap.size]? = some (.cells #[.int .i64 P.x, .int .i64 P.y, .int .i64 P.z] 23 (0, 0)) := heap_alloc_new _ _; clear hb4 HB3 x3_a x3_b x3_x x3_y x3_none y_a y_b y_x y_y y_none)
                        | (refine load_wanted rfl 23 _ rfl _ rfl _ _ _ _ x4_both Try.underlying23 rfl (need_info _ rfl) ?_)
                        | (go_at_call 9; refine (hG3 _).mono ?_; rintro e w5 ⟨rfl, hb5⟩; clear hG3; have y_a : NBox w5 (w.heap.size) a := NBox.below (a := a) x4_a hb5 (NBox.lt (a := a) x4_a); have y_b : NBox w5 (w.heap.size + 1) b := NBox.below (a := b) x4_b hb5 (NBox.lt (a := b) x4_b); have y_x : NBox w5 (gx) nz := NBox.below (a := nz) x4_x hb5 (NBox.lt (a := nz) x4_x); have y_y : NBox w5 (gy) nz := NBox.below (a := nz) x4_y hb5 (NBox.lt (a := nz) x4_y); have y_none : NBox w5 (w2.heap.size) nz := NBox.below (a := nz) x4_none hb5 (NBox.lt (a := nz) x4_none); have y_both : NBox w5 (w4.heap.size) P := NBox.below (a := P) x4_both hb5 (NBox.lt (a := P) x4_both); have HB5 : Below w.heap.size w w5 := HB4.trans (hb5.mono HB4.size); have x5_a : w5.heap[w.heap.size]? = some (.cells #[.int .i64 a.x, .int .i64 a.y, .int .i64 a.z] 23 (0, 0)) := y_a; have x5_b : w5.heap[w.heap.size + 1]? = some (.cells #[.int .i64 b.x, .int .i64 b.y, .int .i64 b.z] 23 (0, 0)) := y_b; have x5_x : w5.heap[gx]? = some (.cells #[.int .i64 0, .int .i64 0, .int .i64 0] 23 (0, 0)) := y_x; have x5_y : w5.heap[gy]? = some (.cells #[.int .i64 0, .int .i64 0, .int .i64 0] 23 (0, 0)) := y_y; have x5_none : w5.heap[w2.heap.size]? = some (.cells #[.int .i64 0, .int .i64 0, .int .i64 0] 23 (0, 0)) := y_none; have x5_both : w5.heap[w4.heap.size]? = some (.cells #[.int .i64 P.x, .int .i64 P.y, .int .i64 P.z] 23 (0, 0)) := y_both; clear hb5 HB4 x4_a x4_b x4_x x4_y x4_none x4_both y_a y_b y_x y_y y_none y_both)
                        | (refine load_wanted rfl 23 _ rfl _ rfl _ _ _ _ x5_x Try.underlying23 rfl (need_info _ rfl) ?_)
                        | (refine load_wanted rfl 23 _ rfl _ rfl _ _ _ _ x5_none Try.underlying23 rfl (need_info _ rfl) ?_)
                        | (refine load_wanted rfl 23 _ rfl _ rfl _ _ _ _ x5_b Try.underlying23 rfl (need_info _ rfl) ?_)
                        | (refine load_wanted rfl 23 _ rfl _ rfl _ _ _ _ x5_a Try.underlying23 rfl (need_info _ rfl) ?_)
                        | (go_at_call 12; refine (hFt2 _).mono ?_; rintro e w6 ⟨rfl, hb6⟩; clear hFt2; have y_a : NBox w6 (w.heap.size) a := NBox.below (a := a) x5_a hb6 (NBox.lt (a := a) x5_a); have y_b : NBox w6 (w.heap.size + 1) b := NBox.below (a := b) x5_b hb6 (NBox.lt (a := b) x5_b); have y_x : NBox w6 (gx) nz := NBox.below (a := nz) x5_x hb6 (NBox.lt (a := nz) x5_x); have y_y : NBox w6 (gy) nz := NBox.below (a := nz) x5_y hb6 (NBox.lt (a := nz) x5_y); have y_none : NBox w6 (w2.heap.size) nz := NBox.below (a := nz) x5_none hb6 (NBox.lt (a := nz) x5_none); have y_both : NBox w6 (w4.heap.size) P := NBox.below (a := P) x5_both hb6 (NBox.lt (a := P) x5_both); have HB6 : Below w.heap.size w w6 := HB5.trans (hb6.mono HB5.size); have x6_a : w6.heap[w.heap.size]? = some (.cells #[.int .i64 a.x, .int .i64 a.y, .int .i64 a.z] 23 (0, 0)) := y_a; have x6_b : w6.heap[w.heap.size + 1]? = some (.cells #[.int .i64 b.x, .int .i64 b.y, .int .i64 b.z] 23 (0, 0)) := y_b; have x6_x : w6.heap[gx]? = some (.cells #[.int .i64 0, .int .i64 0, .int .i64 0] 23 (0, 0)) := y_x; have x6_y : w6.heap[gy]? = some (.cells #[.int .i64 0, .int .i64 0, .int .i64 0] 23 (0, 0)) := y_y; have x6_none : w6.heap[w2.heap.size]? = some (.cells #[.int .i64 0, .int .i64 0, .int .i64 0] 23 (0, 0)) := y_none; have x6_both : w6.heap[w4.heap.size]? = some (.cells #[.int .i64 P.x, .int .i64 P.y, .int .i64 P.z] 23 (0, 0)) := y_both; clear hb6 HB5 x5_a x5_b x5_x x5_y x5_none x5_both y_a y_b y_x y_y y_none y_both)
                        | (refine load_wanted rfl 23 _ rfl _ rfl _ _ _ _ x6_y Try.underlying23 rfl (need_info _ rfl) ?_)
                        | (refine load_wanted rfl 23 _ rfl _ rfl _ _ _ _ x6_none Try.underlying23 rfl (need_info _ rfl) ?_)
                        | (refine load_wanted rfl 23 _ rfl _ rfl _ _ _ _ x6_a Try.underlying23 rfl (need_info _ rfl) ?_)
                        | (refine load_wanted rfl 23 _ rfl _ rfl _ _ _ _ x6_b Try.underlying23 rfl (need_info _ rfl) ?_)
                        | (go_at_call 13; refine (hT1 _).mono ?_; rintro e w7 ⟨rfl, hb7⟩; clear hT1; have y_a : NBox w7 (w.heap.size) a := NBox.below (a := a) x6_a hb7 (NBox.lt (a := a) x6_a); have y_b : NBox w7 (w.heap.size + 1) b := NBox.below (a := b) x6_b hb7 (NBox.lt (a := b) x6_b); have y_x : NBox w7 (gx) nz := NBox.below (a := nz) x6_x hb7 (NBox.lt (a := nz) x6_x); have y_y : NBox w7 (gy) nz := NBox.below (a := nz) x6_y hb7 (NBox.lt (a := nz) x6_y); have y_none : NBox w7 (w2.heap.size) nz := NBox.below (a := nz) x6_none hb7 (NBox.lt (a := nz) x6_none); have y_both : NBox w7 (w4.heap.size) P := NBox.below (a := P) x6_both hb7 (NBox.lt (a := P) x6_both); have HB7 : Below w.heap.size w w7 := HB6.trans (hb7.mono HB6.size); have x7_a : w7.heap[w.heap.size]? = some (.cells #[.int .i64 a.x, .int .i64 a.y, .int .i64 a.z] 23 (0, 0)) := y_a; have x7_b : w7.heap[w.heap.size + 1]? = some (.cells #[.int .i64 b.x, .int .i64 b.y, .int .i64 b.z] 23 (0, 0)) := y_b; have x7_x : w7.heap[gx]? = some (.cells #[.int .i64 0, .int .i64 0, .int .i64 0] 23 (0, 0)) := y_x; have x7_y : w7.heap[gy]? = some (.cells #[.int .i64 0, .int .i64 0, .int .i64 0] 23 (0, 0)) := y_y; have x7_none : w7.heap[w2.heap.size]? = some (.cells #[.int .i64 0, .int .i64 0, .int .i64 0] 23 (0, 0)) := y_none; have x7_both : w7.heap[w4.heap.size]? = some (.cells #[.int .i64 P.x, .int .i64 P.y, .int .i64 P.z] 23 (0, 0)) := y_both; clear hb7 HB6 x6_a x6_b x6_x x6_y x6_none x6_both y_a y_b y_x y_y y_none y_both)
                        | (refine load_wanted rfl 23 _ rfl _ rfl _ _ _ _ x7_a Try.underlying23 rfl (need_info _ rfl) ?_)
                        | (refine load_wanted rfl 23 _ rfl _ rfl _ _ _ _ x7_b Try.underlying23 rfl (need_info _ rfl) ?_)
                        | (go_at_call 13; refine (hT2 _).mono ?_; rintro e w8 ⟨rfl, hb8⟩; clear hT2; have y_a : NBox w8 (w.heap.size) a := NBox.below (a := a) x7_a hb8 (NBox.lt (a := a) x7_a); have y_b : NBox w8 (w.heap.size + 1) b := NBox.below (a := b) x7_b hb8 (NBox.lt (a := b) x7_b); have y_x : NBox w8 (gx) nz := NBox.below (a := nz) x7_x hb8 (NBox.lt (a := nz) x7_x); have y_y : NBox w8 (gy) nz := NBox.below (a := nz) x7_y hb8 (NBox.lt (a := nz) x7_y); have y_none : NBox w8 (w2.heap.size) nz := NBox.below (a := nz) x7_none hb8 (NBox.lt (a := nz) x7_none); have y_both : NBox w8 (w4.heap.size) P := NBox.below (a := P) x7_both hb8 (NBox.lt (a := P) x7_both); have HB8 : Below w.heap.size w w8 := HB7.trans (hb8.mono HB7.size); have x8_a : w8.heap[w.heap.size]? = some (.cells #[.int .i64 a.x, .int .i64 a.y, .int .i64 a.z] 23 (0, 0)) := y_a; have x8_b : w8.heap[w.heap.size + 1]? = some (.cells #[.int .i64 b.x, .int .i64 b.y, .int .i64 b.z] 23 (0, 0)) := y_b; have x8_x : w8.heap[gx]? = some (.cells #[.int .i64 0, .int .i64 0, .int .i64 0] 23 (0, 0)) := y_x; have x8_y : w8.heap[gy]? = some (.cells #[.int .i64 0, .int .i64 0, .int .i64 0] 23 (0, 0)) := y_y; have x8_none : w8.heap[w2.heap.size]? = some (.cells #[.int .i64 0, .int .i64 0, .int .i64 0] 23 (0, 0)) := y_none; have x8_both : w8.heap[w4.heap.size]? = some (.cells #[.int .i64 P.x, .int .i64 P.y, .int .i64 P.z] 23 (0, 0)) := y_both; clear hb8 HB7 x7_a x7_b x7_x x7_y x7_none x7_both y_a y_b y_x y_y y_none y_both)
                        | go_in)
                      go_ret
                      exact ⟨by first | rfl | simp, HB8⟩
              · have ob' : okN b = false := by simpa using ob
                have cab : (okN a && okN b) = false := by rw [oa, ob']; rfl
                have v1 : fv = false := by rw [← FH.out.1, cab]; rfl
                have v2 : fe = 4 := by rw [← FH.out.2, cab]; rfl
                have v3 : X = nz := by rw [← XH.out.1]; exact (aR_bad cab).1
                have v4 : xe = 4 := by rw [← XH.out.2]; exact (aR_bad cab).2
                have v5 : Y = nz := by rw [← YH.out.1]; unfold sR; rw [cab]; rfl
                have v6 : ye = 4 := by rw [← YH.out.2]; unfold sE; rw [cab]; rfl
                have v7 : tv = 0 := by rw [← TH.out.1]; unfold tV; rw [cab]; rfl
                have v8 : te = 4 := by rw [← TH.out.2]; unfold tE; rw [cab]; rfl
                clear XH YH TH FH
                subst v1 v2 v3 v4 v5 v6 v7 v8
                have x0_x : wn.heap[gx]? = some (.cells #[.int .i64 0, .int .i64 0, .int .i64 0] 23 (0, 0)) := w_x
                have x0_y : wn.heap[gy]? = some (.cells #[.int .i64 0, .int .i64 0, .int .i64 0] 23 (0, 0)) := w_y
                clear w_x w_y
                rw [oa, show ce true = 0 from rfl] at hG1
                rw [ob', show ce false = 4 from rfl] at hG2
                clear oa ob ob' cab hNF
                go_wp2_with (first
                  | (refine load_wanted rfl 23 _ rfl _ rfl _ _ _ _ x0_a Try.underlying23 rfl (need_info _ rfl) ?_)
                  | (go_at_call 9; refine (hG1 _).mono ?_; rintro e w1 ⟨rfl, hb1⟩; clear hG1; have y_a : NBox w1 (w.heap.size) a := NBox.below (a := a) x0_a hb1 (NBox.lt (a := a) x0_a); have y_b : NBox w1 (w.heap.size + 1) b := NBox.below (a := b) x0_b hb1 (NBox.lt (a := b) x0_b); have y_x : NBox w1 (gx) nz := NBox.below (a := nz) x0_x hb1 (NBox.lt (a := nz) x0_x); have y_y : NBox w1 (gy) nz := NBox.below (a := nz) x0_y hb1 (NBox.lt (a := nz) x0_y); have HB1 : Below w.heap.size w w1 := HB0.trans (hb1.mono HB0.size); have x1_a : w1.heap[w.heap.size]? = some (.cells #[.int .i64 a.x, .int .i64 a.y, .int .i64 a.z] 23 (0, 0)) := y_a; have x1_b : w1.heap[w.heap.size + 1]? = some (.cells #[.int .i64 b.x, .int .i64 b.y, .int .i64 b.z] 23 (0, 0)) := y_b; have x1_x : w1.heap[gx]? = some (.cells #[.int .i64 0, .int .i64 0, .int .i64 0] 23 (0, 0)) := y_x; have x1_y : w1.heap[gy]? = some (.cells #[.int .i64 0, .int .i64 0, .int .i64 0] 23 (0, 0)) := y_y; clear hb1 HB0 x0_a x0_b x0_x x0_y y_a y_b y_x y_y)
                  | (refine load_wanted rfl 23 _ rfl _ rfl _ _ _ _ x1_b Try.underlying23 rfl (need_info _ rfl) ?_)
                  | (go_at_call 9; refine (hG2 _).mono ?_; rintro e w2 ⟨rfl, hb2⟩; clear hG2; have y_a : NBox w2 (w.heap.size) a := NBox.below (a := a) x1_a hb2 (NBox.lt (a := a) x1_a); have y_b : NBox w2 (w.heap.size + 1) b := NBox.below (a := b) x1_b hb2 (NBox.lt (a := b) x1_b); have y_x : NBox w2 (gx) nz := NBox.below (a := nz) x1_x hb2 (NBox.lt (a := nz) x1_x); have y_y : NBox w2 (gy) nz := NBox.below (a := nz) x1_y hb2 (NBox.lt (a := nz) x1_y); have HB2 : Below w.heap.size w (w2.alloc (.cells #[.int .i64 0, .int .i64 0, .int .i64 0] 23)) := (HB1.trans (hb2.mono HB1.size)).alloc (Nat.le_trans HB1.size hb2.size) _; have x2_a : (w2.alloc (.cells #[.int .i64 0, .int .i64 0, .int .i64 0] 23)).heap[w.heap.size]? = some (.cells #[.int .i64 a.x, .int .i64 a.y, .int .i64 a.z] 23 (0, 0)) := (Below.heap_alloc _ _ _ (NBox.lt y_a)).trans y_a; have x2_b : (w2.alloc (.cells #[.int .i64 0, .int .i64 0, .int .i64 0] 23)).heap[w.heap.size + 1]? = some (.cells #[.int .i64 b.x, .int .i64 b.y, .int .i64 b.z] 23 (0, 0)) := (Below.heap_alloc _ _ _ (NBox.lt y_b)).trans y_b; have x2_x : (w2.alloc (.cells #[.int .i64 0, .int .i64 0, .int .i64 0] 23)).heap[gx]? = some (.cells #[.int .i64 0, .int .i64 0, .int .i64 0] 23 (0, 0)) := (Below.heap_alloc _ _ _ (NBox.lt y_x)).trans y_x; have x2_y : (w2.alloc (.cells #[.int .i64 0, .int .i64 0, .int .i64 0] 23)).heap[gy]? = some (.cells #[.int .i64 0, .int .i64 0, .int .i64 0] 23 (0, 0)) := (Below.heap_alloc _ _ _ (NBox.lt y_y)).trans y_y; have x2_none : (w2.alloc (.cells #[.int .i64 0, .int .i64 0, .int .i64 0] 23)).heap[w2.heap.size]? = some (.cells #[.int .i64 0, .int .i64 0, .int .i64 0] 23 (0, 0)) := heap_alloc_new _ _; clear hb2 HB1 x1_a x1_b x1_x x1_y y_a y_b y_x y_y)
                  | (refine load_wanted rfl 23 _ rfl _ rfl _ _ _ _ x2_x Try.underlying23 rfl (need_info _ rfl) ?_)
                  | (refine load_wanted rfl 23 _ rfl _ rfl _ _ _ _ x2_none Try.underlying23 rfl (need_info _ rfl) ?_)
                  | (refine load_wanted rfl 23 _ rfl _ rfl _ _ _ _ x2_y Try.underlying23 rfl (need_info _ rfl) ?_)
                  | go_in)
                go_ret
                exact ⟨by first | rfl | simp, HB2⟩
            · have oa' : okN a = false := by simpa using oa
              have cab : (okN a && okN b) = false := by rw [oa']; rfl
              have v1 : fv = false := by rw [← FH.out.1, cab]; rfl
              have v2 : fe = 4 := by rw [← FH.out.2, cab]; rfl
              have v3 : X = nz := by rw [← XH.out.1]; exact (aR_bad cab).1
              have v4 : xe = 4 := by rw [← XH.out.2]; exact (aR_bad cab).2
              have v5 : Y = nz := by rw [← YH.out.1]; unfold sR; rw [cab]; rfl
              have v6 : ye = 4 := by rw [← YH.out.2]; unfold sE; rw [cab]; rfl
              have v7 : tv = 0 := by rw [← TH.out.1]; unfold tV; rw [cab]; rfl
              have v8 : te = 4 := by rw [← TH.out.2]; unfold tE; rw [cab]; rfl
              clear XH YH TH FH
              subst v1 v2 v3 v4 v5 v6 v7 v8
              have x0_x : wn.heap[gx]? = some (.cells #[.int .i64 0, .int .i64 0, .int .i64 0] 23 (0, 0)) := w_x
              have x0_y : wn.heap[gy]? = some (.cells #[.int .i64 0, .int .i64 0, .int .i64 0] 23 (0, 0)) := w_y
              clear w_x w_y
              rw [oa', show ce false = 4 from rfl] at hG1
              clear oa oa' cab hNF hG2
              go_wp2_with (first
                | (refine load_wanted rfl 23 _ rfl _ rfl _ _ _ _ x0_a Try.underlying23 rfl (need_info _ rfl) ?_)
                | (go_at_call 9; refine (hG1 _).mono ?_; rintro e w1 ⟨rfl, hb1⟩; clear hG1; have y_a : NBox w1 (w.heap.size) a := NBox.below (a := a) x0_a hb1 (NBox.lt (a := a) x0_a); have y_b : NBox w1 (w.heap.size + 1) b := NBox.below (a := b) x0_b hb1 (NBox.lt (a := b) x0_b); have y_x : NBox w1 (gx) nz := NBox.below (a := nz) x0_x hb1 (NBox.lt (a := nz) x0_x); have y_y : NBox w1 (gy) nz := NBox.below (a := nz) x0_y hb1 (NBox.lt (a := nz) x0_y); have HB1 : Below w.heap.size w (w1.alloc (.cells #[.int .i64 0, .int .i64 0, .int .i64 0] 23)) := (HB0.trans (hb1.mono HB0.size)).alloc (Nat.le_trans HB0.size hb1.size) _; have x1_a : (w1.alloc (.cells #[.int .i64 0, .int .i64 0, .int .i64 0] 23)).heap[w.heap.size]? = some (.cells #[.int .i64 a.x, .int .i64 a.y, .int .i64 a.z] 23 (0, 0)) := (Below.heap_alloc _ _ _ (NBox.lt y_a)).trans y_a; have x1_b : (w1.alloc (.cells #[.int .i64 0, .int .i64 0, .int .i64 0] 23)).heap[w.heap.size + 1]? = some (.cells #[.int .i64 b.x, .int .i64 b.y, .int .i64 b.z] 23 (0, 0)) := (Below.heap_alloc _ _ _ (NBox.lt y_b)).trans y_b; have x1_x : (w1.alloc (.cells #[.int .i64 0, .int .i64 0, .int .i64 0] 23)).heap[gx]? = some (.cells #[.int .i64 0, .int .i64 0, .int .i64 0] 23 (0, 0)) := (Below.heap_alloc _ _ _ (NBox.lt y_x)).trans y_x; have x1_y : (w1.alloc (.cells #[.int .i64 0, .int .i64 0, .int .i64 0] 23)).heap[gy]? = some (.cells #[.int .i64 0, .int .i64 0, .int .i64 0] 23 (0, 0)) := (Below.heap_alloc _ _ _ (NBox.lt y_y)).trans y_y; have x1_none : (w1.alloc (.cells #[.int .i64 0, .int .i64 0, .int .i64 0] 23)).heap[w1.heap.size]? = some (.cells #[.int .i64 0, .int .i64 0, .int .i64 0] 23 (0, 0)) := heap_alloc_new _ _; clear hb1 HB0 x0_a x0_b x0_x x0_y y_a y_b y_x y_y)
                | (refine load_wanted rfl 23 _ rfl _ rfl _ _ _ _ x1_x Try.underlying23 rfl (need_info _ rfl) ?_)
                | (refine load_wanted rfl 23 _ rfl _ rfl _ _ _ _ x1_none Try.underlying23 rfl (need_info _ rfl) ?_)
                | (refine load_wanted rfl 23 _ rfl _ rfl _ _ _ _ x1_y Try.underlying23 rfl (need_info _ rfl) ?_)
                | go_in)
              go_ret
              exact ⟨by first | rfl | simp, HB1⟩
end Go.Proofs.Ytlbnoggnnibmjaa
