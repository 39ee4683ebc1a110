/- Package need, walked: amounts, Times, Text of no need at all. -/
import Derived.Test.YtlbnoggnnibmjaaNdc
namespace Go.Proofs.Ytlbnoggnnibmjaa
open Go.RowKit Ndm
set_option linter.unusedSectionVars false
set_option linter.unusedVariables false

theorem arr_info (cs : Array Value) (h : cs.size = 3) : (Try.prog.info? 39).map (·.size) = some cs.size := by rw [h]; kernel_rfl
theorem results_arr {tmps : Array Value} {w : World} {g : Nat} {cs : Array Value} (hp : tmps.getD 2 undef = .pointer (some ⟨g, 0, none⟩)) (hg : w.heap[g]? = some (.cells cs 39 (0, 0))) (hcs : cs.size = 3) : (results Try.f16 tmps).run Try.prog w = .ok (.agg cs) w := by
  have hp' : tmps[2]?.getD undef = .pointer (some ⟨g, 0, none⟩) := by simpa using hp
  simp [results, Try.results16, hp', asAddr, run_loadVar_row w g _ 39 cs (0, 0) _ hg Try.underlying39 rfl (arr_info cs hcs)]

set_option maxHeartbeats 1000000 in
set_option maxRecDepth 100000 in
theorem amounts_any (a : N3) (w : World) : Calls Try.prog 16 #[(.agg #[.int .i64 a.x, .int .i64 a.y, .int .i64 a.z])] w fun e w' => e = .returned (.agg #[.int .i64 a.x, .int .i64 a.y, .int .i64 a.z]) ∧ Below w.heap.size w w' := by
  have g : ((w.alloc (.cells #[.int .i64 a.x, .int .i64 a.y, .int .i64 a.z] 23)).alloc (.cells #[.int .i64 0, .int .i64 0, .int .i64 0] 39)).heap[w.heap.size + 1]? = some (.cells #[.int .i64 0, .int .i64 0, .int .i64 0] 39 (0, 0)) := by
    have h := heap_alloc_new (w.alloc (.cells #[.int .i64 a.x, .int .i64 a.y, .int .i64 a.z] 23)) (.cells #[.int .i64 0, .int .i64 0, .int .i64 0] 39)
    have e : (w.alloc (.cells #[.int .i64 a.x, .int .i64 a.y, .int .i64 a.z] 23)).heap.size = w.heap.size + 1 := by simp
    rw [e] at h
    exact h
  have hB : Hid (Below w.heap.size w ((w.alloc (.cells #[.int .i64 a.x, .int .i64 a.y, .int .i64 a.z] 23)).alloc (.cells #[.int .i64 0, .int .i64 0, .int .i64 0] 39))) := ((Below.refl _ _).alloc (Nat.le_refl _) _).alloc (by simp) _
  go_enter Try.func16, Try.ntmps16
  go_wp2_with (first
    | (refine wpList_store_row rfl 39 _ _ rfl _ #[.int .i64 a.x, .int .i64 a.y, .int .i64 a.z] rfl rfl _ _ g (arr_info _ rfl) rfl (need_one _ _ _) ?_)
    | go_in)
  refine bodyPost_ret (results_arr rfl (setRow_heap _ (w.heap.size + 1) _ _ _ _ g) rfl) rfl ⟨rfl, below_row hB.out (by omega)⟩

/-- How often one is taken off: by one kind more. -/
def t1 (s x y : Int) : Int := if x = 0 then s else if y / x < s then y / x else s
def tk (a b : N3) : Nat → Int
  | 0 => 1099511627776
  | 1 => t1 1099511627776 a.x b.x
  | 2 => t1 (t1 1099511627776 a.x b.x) a.y b.y
  | _ => t1 (t1 (t1 1099511627776 a.x b.x) a.y b.y) a.z b.z
theorem t1_bd {s x y : Int} (h : 0 ≤ s ∧ s ≤ 1099511627776) (hx : 0 ≤ x) (hy : 0 ≤ y) : 0 ≤ t1 s x y ∧ t1 s x y ≤ 1099511627776 := by
  unfold t1
  split
  · exact h
  · split
    · exact ⟨Int.ediv_nonneg hy hx, by omega⟩
    · exact h
theorem eqlN (x y z x' y' z' : Int) (w : World) : (binOp .eql 23 (.agg #[.int .i64 x, .int .i64 y, .int .i64 z]) (.agg #[.int .i64 x', .int .i64 y', .int .i64 z'])).run Try.prog w = .ok (.bool (decide (x = x') && (decide (y = y') && decide (z = z')))) w := by
  have u3 := Try.underlying2
  have a3 := Try.isAgg2
  have z3 := Try.sizeOf2
  have hS : Try.prog.underlying 23 = some (.struct (Try.prog.fieldsOf 23)) := by kernel_rfl
  have hp : Try.prog.stoodInHeld 23 = false := by kernel_rfl
  rw [run_eql_struct, show (10000 : Nat) = 9999 + 1 from rfl, run_equalIn_agg w 9999 23 _ _ hS hp]
  simp only [Program.fieldsOf, Try.underlying23]
  by_cases h1 : x = x' <;> by_cases h2 : y = y' <;> by_cases h3 : z = z' <;> simp only [h1, h2, h3] <;> go_simp

def isZ (a : N3) : Bool := decide (a.x = 0) && (decide (a.y = 0) && decide (a.z = 0))
def tE (a b : N3) : Int := if okN a && okN b then (if isZ a then 1 else 0) else 4
def tV (a b : N3) : Int := if okN a && okN b then (if isZ a then 0 else tk a b 3) else 0

set_option maxHeartbeats 2000000 in
set_option maxRecDepth 100000 in
theorem Times_any (a b : N3) (w : World) : Calls Try.prog 7 #[(.agg #[.int .i64 a.x, .int .i64 a.y, .int .i64 a.z]), (.agg #[.int .i64 b.x, .int .i64 b.y, .int .i64 b.z])] w fun e w' => e = .returned (.tuple #[.int .i64 (tV a b), .int .i64 (tE a b)]) ∧ Below w.heap.size w w' := by
  obtain ⟨h1, h2, hB, hs⟩ := two_boxes w a b
  have hck := check_two _ a b _ hs
  have hBH : Hid (Below w.heap.size w ((w.alloc (.cells #[.int .i64 a.x, .int .i64 a.y, .int .i64 a.z] 23)).alloc (.cells #[.int .i64 b.x, .int .i64 b.y, .int .i64 b.z] 23))) := hB
  have hsz := hB.size
  have heq := eqlN
  by_cases c : (okN a && okN b) = true
  · have hce : ce true = 0 := rfl
    rw [c, hce] at hck
    have hc2 := c
    rw [Bool.and_eq_true] at hc2
    obtain ⟨⟨⟨x1, x2⟩, ⟨x3, x4⟩, x5, x6⟩, ⟨y1, y2⟩, ⟨y3, y4⟩, y5, y6⟩ := And.intro (okN_iff.1 hc2.1) (okN_iff.1 hc2.2)
    by_cases c2 : isZ a = true
    · have e1 : tV a b = 0 := by unfold tV; rw [if_pos c, if_pos c2]
      have e2 : tE a b = 1 := by unfold tE; rw [if_pos c, if_pos c2]
      have hz : (decide (a.x = 0) && (decide (a.y = 0) && decide (a.z = 0))) = true := c2
      rw [e1, e2]
      clear hB c hce hc2 c2 e1 e2
      go_enter Try.func7, Try.ntmps7
      go_wp2_with (first
        | (go_at_call 14; refine hck.mono ?_; rintro e w3 ⟨rfl, hb3⟩; have g1 : NBox w3 w.heap.size a := (hb3.block w.heap.size (Array.getElem?_eq_some_iff.1 h1).1).trans h1; have hB3 : Below w.heap.size w w3 := hBH.out.trans (hb3.mono hBH.out.size); clear hck)
        | (refine load_wanted rfl 23 _ rfl _ rfl _ _ _ _ g1 Try.underlying23 rfl (need_info _ rfl) ?_)
        | go_in)
      go_ret2
      exact ⟨by first | rfl | simp, hB3⟩
    · have c2' : isZ a = false := by simpa using c2
      have e1 : tV a b = tk a b 3 := by unfold tV; rw [if_pos c, if_neg (by rw [c2']; exact Bool.false_ne_true)]
      have e2 : tE a b = 0 := by unfold tE; rw [if_pos c, if_neg (by rw [c2']; exact Bool.false_ne_true)]
      have hz : (decide (a.x = 0) && (decide (a.y = 0) && decide (a.z = 0))) = false := c2'
      rw [e1, e2]
      have ham1 := fun w1 => amounts_any b w1
      have ham2 := fun w1 => amounts_any a w1
      clear hB c hce hc2 c2 c2' e1 e2
      go_enter Try.func7, Try.ntmps7
      go_wp2_with (first
        | (go_at_call 14; refine hck.mono ?_; rintro e w3 ⟨rfl, hb3⟩; have g1 : NBox w3 w.heap.size a := (hb3.block w.heap.size (Array.getElem?_eq_some_iff.1 h1).1).trans h1; have g2 : NBox w3 (w.heap.size + 1) b := (hb3.block (w.heap.size + 1) (Array.getElem?_eq_some_iff.1 h2).1).trans h2; have hB3 : Below w.heap.size w w3 := hBH.out.trans (hb3.mono hBH.out.size); clear hck)
        | (refine load_wanted rfl 23 _ rfl _ rfl _ _ _ _ g1 Try.underlying23 rfl (need_info _ rfl) ?_)
        | (refine load_wanted rfl 23 _ rfl _ rfl _ _ _ _ g2 Try.underlying23 rfl (need_info _ rfl) ?_)
        | (go_at_call 16; refine (ham1 w3).mono ?_; rintro e w4 ⟨rfl, hb4⟩; clear ham1; have hB4 : Below w.heap.size w w4 := hB3.trans (hb4.mono hB3.size); have k1 := g1.below hb4 g1.lt; have k2 : (w4.alloc (.cells #[.int .i64 b.x, .int .i64 b.y, .int .i64 b.z] 39)).heap[w.heap.size]? = some (.cells #[.int .i64 a.x, .int .i64 a.y, .int .i64 a.z] 23 (0, 0)) := (Below.heap_alloc _ _ _ k1.lt).trans k1; clear g1 g2)
        | (refine load_wanted rfl 23 _ rfl _ rfl _ _ _ _ k2 Try.underlying23 rfl (need_info _ rfl) ?_)
        | (go_at_call 16; refine (ham2 _).mono ?_; rintro e w6 ⟨rfl, hb6⟩; clear ham2; have hq : Hid (w6.heap[w4.heap.size]? = some (.cells #[.int .i64 b.x, .int .i64 b.y, .int .i64 b.z] 39 (0, 0))) := (hb6.block w4.heap.size (by simp)).trans (heap_alloc_new _ _); have hB6 : Hid (Below w.heap.size w w6) := hB4.trans ((((Below.refl _ _).alloc (Nat.le_refl _) _).trans (hb6.mono (by simp))).mono hB4.size); clear k1 k2 hb6)
        | go_in)
      have i0 : ∀ w, (Instr.index 39 (.agg #[.int .i64 a.x, .int .i64 a.y, .int .i64 a.z]) (.int .i64 0)).run Try.prog w = .ok (.int .i64 a.x) w := fun _ => by kernel_rfl
      have i1 : ∀ w, (Instr.index 39 (.agg #[.int .i64 a.x, .int .i64 a.y, .int .i64 a.z]) (.int .i64 1)).run Try.prog w = .ok (.int .i64 a.y) w := fun _ => by kernel_rfl
      have i2 : ∀ w, (Instr.index 39 (.agg #[.int .i64 a.x, .int .i64 a.y, .int .i64 a.z]) (.int .i64 2)).run Try.prog w = .ok (.int .i64 a.z) w := fun _ => by kernel_rfl
      clear h1 h2
      go_loopw [7, 25] (fun ov iv wr => (iv = .int .i64 0 ∧ ov = .int .i64 (tk a b 0) ∨ iv = .int .i64 1 ∧ ov = .int .i64 (tk a b 1) ∨ iv = .int .i64 2 ∧ ov = .int .i64 (tk a b 2) ∨ iv = .int .i64 3 ∧ ov = .int .i64 (tk a b 3)) ∧ Below w6.heap.size w6 wr)
        (fun _ iv _ => 3 - (intOf iv).toNat)
      case atStart => exact ⟨Or.inl ⟨rfl, rfl⟩, Below.refl _ _⟩
      case round =>
        obtain ⟨hor, hbl⟩ := hrel
        have hqr := (hbl.block w4.heap.size (Array.getElem?_eq_some_iff.1 hq.out).1).trans hq.out
        have hblH : Hid (Below w6.heap.size w6 wr) := hbl
        have hBr : Hid (Below w.heap.size w wr) := hB6.out.trans (hbl.mono hB6.out.size)
        clear hbl hz
        rcases hor with ⟨rfl, rfl⟩ | ⟨rfl, rfl⟩ | ⟨rfl, rfl⟩ | ⟨rfl, rfl⟩
        · have hs : 0 ≤ tk a b 0 ∧ tk a b 0 ≤ 1099511627776 := ⟨by show (0 : Int) ≤ 1099511627776; omega, Int.le_refl _⟩
          have z0 : wr.cell? ⟨w4.heap.size, 0, none⟩ = some (.int .i64 b.x) := (cell_of_row _ _ 0 _ _ _ hqr).trans rfl
          have hst : Hid (tk a b 1 = t1 (tk a b 0) a.x b.x) := rfl
          obtain ⟨hs1, hs2⟩ := hs
          generalize tk a b 0 = s at *
          generalize tk a b 1 = s' at *
          clear hqr
          by_cases hx : a.x = 0
          · have hxx : (a.x != 0) = false := by simpa using hx
            have hst2 : Hid (s' = s) := by show _ = _; rw [hst.out, t1, if_pos hx]
            clear hx
            go_wp2
            refine ⟨⟨Or.inr (Or.inl ⟨?_, ?_⟩), hblH.out⟩, ?_⟩
            · first | rfl | simp
            · rw [hst2.out]
            · simp [intOf]
          · have hxx : (a.x != 0) = true := by simpa using hx
            have hd0 : 0 ≤ b.x / a.x := Int.ediv_nonneg (by assumption) (by assumption)
            by_cases hq : b.x / a.x < s
            · have hst2 : Hid (s' = b.x / a.x) := by show _ = _; rw [hst.out, t1, if_neg hx, if_pos hq]
              go_wp2
              refine ⟨⟨Or.inr (Or.inl ⟨?_, ?_⟩), hblH.out⟩, ?_⟩
              · first | rfl | simp
              · rw [hst2.out]; first | rfl | (congr 1; omega) | skip
              · simp [intOf]
            · have hst2 : Hid (s' = s) := by show _ = _; rw [hst.out, t1, if_neg hx, if_neg hq]
              go_wp2
              refine ⟨⟨Or.inr (Or.inl ⟨?_, ?_⟩), hblH.out⟩, ?_⟩
              · first | rfl | simp
              · rw [hst2.out]; first | rfl | (congr 1; omega) | skip
              · simp [intOf]
        · have hs : 0 ≤ tk a b 1 ∧ tk a b 1 ≤ 1099511627776 := t1_bd ⟨by omega, Int.le_refl _⟩ x1 y1
          have z0 : wr.cell? ⟨w4.heap.size, 1, none⟩ = some (.int .i64 b.y) := (cell_of_row _ _ 1 _ _ _ hqr).trans rfl
          have hst : Hid (tk a b 2 = t1 (tk a b 1) a.y b.y) := rfl
          obtain ⟨hs1, hs2⟩ := hs
          generalize tk a b 1 = s at *
          generalize tk a b 2 = s' at *
          clear hqr
          by_cases hx : a.y = 0
          · have hxx : (a.y != 0) = false := by simpa using hx
            have hst2 : Hid (s' = s) := by show _ = _; rw [hst.out, t1, if_pos hx]
            clear hx
            go_wp2
            refine ⟨⟨Or.inr (Or.inr (Or.inl ⟨?_, ?_⟩)), hblH.out⟩, ?_⟩
            · first | rfl | simp
            · rw [hst2.out]
            · simp [intOf]
          · have hxx : (a.y != 0) = true := by simpa using hx
            have hd0 : 0 ≤ b.y / a.y := Int.ediv_nonneg (by assumption) (by assumption)
            by_cases hq : b.y / a.y < s
            · have hst2 : Hid (s' = b.y / a.y) := by show _ = _; rw [hst.out, t1, if_neg hx, if_pos hq]
              go_wp2
              refine ⟨⟨Or.inr (Or.inr (Or.inl ⟨?_, ?_⟩)), hblH.out⟩, ?_⟩
              · first | rfl | simp
              · rw [hst2.out]; first | rfl | (congr 1; omega) | skip
              · simp [intOf]
            · have hst2 : Hid (s' = s) := by show _ = _; rw [hst.out, t1, if_neg hx, if_neg hq]
              go_wp2
              refine ⟨⟨Or.inr (Or.inr (Or.inl ⟨?_, ?_⟩)), hblH.out⟩, ?_⟩
              · first | rfl | simp
              · rw [hst2.out]; first | rfl | (congr 1; omega) | skip
              · simp [intOf]
        · have hs : 0 ≤ tk a b 2 ∧ tk a b 2 ≤ 1099511627776 := t1_bd (t1_bd ⟨by omega, Int.le_refl _⟩ x1 y1) x3 y3
          have z0 : wr.cell? ⟨w4.heap.size, 2, none⟩ = some (.int .i64 b.z) := (cell_of_row _ _ 2 _ _ _ hqr).trans rfl
          have hst : Hid (tk a b 3 = t1 (tk a b 2) a.z b.z) := rfl
          obtain ⟨hs1, hs2⟩ := hs
          generalize tk a b 2 = s at *
          generalize tk a b 3 = s' at *
          clear hqr
          by_cases hx : a.z = 0
          · have hxx : (a.z != 0) = false := by simpa using hx
            have hst2 : Hid (s' = s) := by show _ = _; rw [hst.out, t1, if_pos hx]
            clear hx
            go_wp2
            refine ⟨⟨Or.inr (Or.inr (Or.inr ⟨?_, ?_⟩)), hblH.out⟩, ?_⟩
            · first | rfl | simp
            · rw [hst2.out]
            · simp [intOf]
          · have hxx : (a.z != 0) = true := by simpa using hx
            have hd0 : 0 ≤ b.z / a.z := Int.ediv_nonneg (by assumption) (by assumption)
            by_cases hq : b.z / a.z < s
            · have hst2 : Hid (s' = b.z / a.z) := by show _ = _; rw [hst.out, t1, if_neg hx, if_pos hq]
              go_wp2
              refine ⟨⟨Or.inr (Or.inr (Or.inr ⟨?_, ?_⟩)), hblH.out⟩, ?_⟩
              · first | rfl | simp
              · rw [hst2.out]; first | rfl | (congr 1; omega) | skip
              · simp [intOf]
            · have hst2 : Hid (s' = s) := by show _ = _; rw [hst.out, t1, if_neg hx, if_neg hq]
              go_wp2
              refine ⟨⟨Or.inr (Or.inr (Or.inr ⟨?_, ?_⟩)), hblH.out⟩, ?_⟩
              · first | rfl | simp
              · rw [hst2.out]; first | rfl | (congr 1; omega) | skip
              · simp [intOf]
        · clear hqr
          go_wp2
          go_ret2
          exact ⟨rfl, hBr.out⟩
  · have c' : (okN a && okN b) = false := by simpa using c
    have hce : ce false = 4 := rfl
    rw [c', hce] at hck
    have e1 : tV a b = 0 := by unfold tV; rw [if_neg (by rw [c']; exact Bool.false_ne_true)]
    have e2 : tE a b = 4 := by unfold tE; rw [if_neg (by rw [c']; exact Bool.false_ne_true)]
    rw [e1, e2]
    clear hB c c' hce e1 e2
    go_enter Try.func7, Try.ntmps7
    go_wp2_with (first
      | (go_at_call 14; refine hck.mono ?_; rintro e w3 ⟨rfl, hb3⟩; have hB3 : Below w.heap.size w w3 := hBH.out.trans (hb3.mono hBH.out.size); clear hck)
      | go_in)
    go_ret2
    exact ⟨rfl, hB3⟩
end Go.Proofs.Ytlbnoggnnibmjaa
