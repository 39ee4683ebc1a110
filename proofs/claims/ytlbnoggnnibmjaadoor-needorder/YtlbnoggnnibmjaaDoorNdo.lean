/- NeedOrder, walked. -/
import Derived.Test.YtlbnoggnnibmjaaDoorNdz
namespace Go.Proofs.YtlbnoggnnibmjaaDoor
open Go.RowKit Ndm
set_option linter.unusedSectionVars false
set_option linter.unusedVariables false

theorem ft_anti (a b : N3) : (decide (a.x = b.x) && (decide (a.y = b.y) && decide (a.z = b.z))) = (ftN a b && ftN b a) := by
  rw [Bool.eq_iff_iff]
  simp only [Bool.and_eq_true, decide_eq_true_eq, ftN_iff]
  omega
theorem ft_trans {a b c : N3} (h1 : ftN a b = true) (h2 : ftN b c = true) : ftN a c = true := by
  rw [ftN_iff] at *
  omega
theorem gd_four {w : World} (e f g h : Int) : Calls Tryd.prog 19 #[.slice (some ⟨w.heap.size, 0, none⟩) 4 4] (w.alloc (.cells #[.int .i64 e, .int .i64 f, .int .i64 g, .int .i64 h] 24)) fun r w' => r = .returned (.bool (gdB [e, f, g, h])) ∧ w' = w.alloc (.cells #[.int .i64 e, .int .i64 f, .int .i64 g, .int .i64 h] 24) := by
  refine good_any (L := [e, f, g, h]) rfl (fun j hj => ?_) (by omega)
  have hb := heap_alloc_new w (.cells #[.int .i64 e, .int .i64 f, .int .i64 g, .int .i64 h] 24)
  rcases (show j = 0 ∨ j = 1 ∨ j = 2 ∨ j = 3 by omega) with rfl | rfl | rfl | rfl
  all_goals exact (cell_of_row _ _ _ _ _ _ hb).trans rfl

set_option maxHeartbeats 2000000 in
set_option maxRecDepth 100000 in
theorem needOrder_walk (a b c : N3) (w : World) : Calls Tryd.prog 6 #[(.agg #[.int .i64 a.x, .int .i64 a.y, .int .i64 a.z]), (.agg #[.int .i64 b.x, .int .i64 b.y, .int .i64 b.z]), (.agg #[.int .i64 c.x, .int .i64 c.y, .int .i64 c.z])] w fun e w' => e = .returned (.bool true) ∧ Below w.heap.size w w' := by
  obtain ⟨h1, h2, h3, hB, hs⟩ := three_boxes w a b c
  have hne := needs_any (((w.alloc (.cells #[.int .i64 a.x, .int .i64 a.y, .int .i64 a.z] 23)).alloc (.cells #[.int .i64 b.x, .int .i64 b.y, .int .i64 b.z] 23)).alloc (.cells #[.int .i64 c.x, .int .i64 c.y, .int .i64 c.z] 23))
  have hBH : Hid (Below w.heap.size w (((w.alloc (.cells #[.int .i64 a.x, .int .i64 a.y, .int .i64 a.z] 23)).alloc (.cells #[.int .i64 b.x, .int .i64 b.y, .int .i64 b.z] 23)).alloc (.cells #[.int .i64 c.x, .int .i64 c.y, .int .i64 c.z] 23))) := hB
  have hsz := hB.size
  have heq := eqlN
  have hF1 := fun w1 => Fits_any a b w1
  have hF2 := fun w1 => Fits_any b c w1
  have hF3 := fun w1 => Fits_any a c w1
  have hF4 := fun w1 => Fits_any b a w1
  clear hB
  by_cases hok : okN a = true ∧ okN b = true ∧ okN c = true
  · obtain ⟨o1, o2, o3⟩ := hok
    have hz := ft_anti a b
    have htr : ftN a b = true → ftN b c = true → ftN a c = true := ft_trans
    rw [o1, o2, show ce (true && true) = 0 from rfl] at hF1
    rw [o2, o3, show ce (true && true) = 0 from rfl] at hF2
    rw [o1, o3, show ce (true && true) = 0 from rfl] at hF3
    rw [o2, o1, show ce (true && true) = 0 from rfl] at hF4
    simp only [Bool.true_and] at hF1 hF2 hF3 hF4
    have hgd := fun w1 : World => gd_four (w := w1) 0 0 0 0
    rw [show gdB [0, 0, 0, 0] = true from rfl] at hgd
    generalize ftN a b = x at *
    generalize ftN b c = y at *
    generalize ftN a c = z at *
    generalize ftN b a = u at *
    clear o1 o2 o3
    obtain ⟨hc⟩ : Nonempty ((x = false ∧ Hid (True)) ∨ (x = true ∧ y = false ∧ u = false) ∨ (x = true ∧ y = false ∧ u = true) ∨ (x = true ∧ y = true ∧ z = true ∧ u = false) ∨ (x = true ∧ y = true ∧ z = true ∧ u = true)) := by
      refine ⟨?_⟩
      cases x
      · exact Or.inl ⟨rfl, trivial⟩
      · cases y
        · cases u <;> simp
        · rw [htr rfl rfl]; cases u <;> simp
    clear htr
    rcases hc with ⟨rfl, _⟩ | ⟨rfl, rfl, rfl⟩ | ⟨rfl, rfl, rfl⟩ | ⟨rfl, rfl, rfl, rfl⟩ | ⟨rfl, rfl, rfl, rfl⟩
    all_goals
      first | rw [show (false && u) = false from rfl] at hz | rw [show (true && false) = false from rfl] at hz | rw [show (true && true) = true from rfl] at hz
      go_enter Tryd.func6, Tryd.ntmps6
      go_wp2_with (first
        | (go_at_call 13; refine hne.mono ?_; rintro e w1 ⟨rfl, hb1⟩; have g1 : NBox w1 w.heap.size a := (hb1.block w.heap.size (Array.getElem?_eq_some_iff.1 h1).1).trans h1; have g2 : NBox w1 (w.heap.size + 1) b := (hb1.block (w.heap.size + 1) (Array.getElem?_eq_some_iff.1 h2).1).trans h2; have g3 : NBox w1 (w.heap.size + 2) c := (hb1.block (w.heap.size + 2) (Array.getElem?_eq_some_iff.1 h3).1).trans h3; have hB1 : Below w.heap.size w w1 := hBH.out.trans (hb1.mono hBH.out.size); clear hne)
        | (refine load_wanted rfl 23 _ rfl _ rfl _ _ _ _ g1 Tryd.underlying23 rfl (need_info _ rfl) ?_)
        | (refine load_wanted rfl 23 _ rfl _ rfl _ _ _ _ g2 Tryd.underlying23 rfl (need_info _ rfl) ?_)
        | (refine load_wanted rfl 23 _ rfl _ rfl _ _ _ _ g3 Tryd.underlying23 rfl (need_info _ rfl) ?_)
        | (go_at_call 18; refine (hF1 w1).mono ?_; rintro e w2 ⟨rfl, hb2⟩; clear hF1; have i1 : NBox w2 (w.heap.size) a := g1.below hb2 g1.lt; have i2 : NBox w2 (w.heap.size + 1) b := g2.below hb2 g2.lt; have i3 : NBox w2 (w.heap.size + 2) c := g3.below hb2 g3.lt; have hB2 : Below w.heap.size w w2 := hB1.trans (hb2.mono hB1.size); clear g1 g2 g3)
        | (refine load_wanted rfl 23 _ rfl _ rfl _ _ _ _ i1 Tryd.underlying23 rfl (need_info _ rfl) ?_)
        | (refine load_wanted rfl 23 _ rfl _ rfl _ _ _ _ i2 Tryd.underlying23 rfl (need_info _ rfl) ?_)
        | (refine load_wanted rfl 23 _ rfl _ rfl _ _ _ _ i3 Tryd.underlying23 rfl (need_info _ rfl) ?_)
        | (go_at_call 18; refine (hF2 w2).mono ?_; rintro e w3 ⟨rfl, hb3⟩; clear hF2; have j1 : NBox w3 (w.heap.size) a := i1.below hb3 i1.lt; have j2 : NBox w3 (w.heap.size + 1) b := i2.below hb3 i2.lt; have j3 : NBox w3 (w.heap.size + 2) c := i3.below hb3 i3.lt; have hB3 : Below w.heap.size w w3 := hB2.trans (hb3.mono hB2.size); clear i1 i2 i3)
        | (refine load_wanted rfl 23 _ rfl _ rfl _ _ _ _ j1 Tryd.underlying23 rfl (need_info _ rfl) ?_)
        | (refine load_wanted rfl 23 _ rfl _ rfl _ _ _ _ j2 Tryd.underlying23 rfl (need_info _ rfl) ?_)
        | (refine load_wanted rfl 23 _ rfl _ rfl _ _ _ _ j3 Tryd.underlying23 rfl (need_info _ rfl) ?_)
        | (go_at_call 18; refine (hF3 w3).mono ?_; rintro e w4 ⟨rfl, hb4⟩; clear hF3; have k1 : NBox w4 (w.heap.size) a := j1.below hb4 j1.lt; have k2 : NBox w4 (w.heap.size + 1) b := j2.below hb4 j2.lt; have k3 : NBox w4 (w.heap.size + 2) c := j3.below hb4 j3.lt; have hB4 : Below w.heap.size w w4 := hB3.trans (hb4.mono hB3.size); clear j1 j2 j3)
        | (refine load_wanted rfl 23 _ rfl _ rfl _ _ _ _ k1 Tryd.underlying23 rfl (need_info _ rfl) ?_)
        | (refine load_wanted rfl 23 _ rfl _ rfl _ _ _ _ k2 Tryd.underlying23 rfl (need_info _ rfl) ?_)
        | (refine load_wanted rfl 23 _ rfl _ rfl _ _ _ _ k3 Tryd.underlying23 rfl (need_info _ rfl) ?_)
        | (go_at_call 18; refine (hF4 w4).mono ?_; rintro e w5 ⟨rfl, hb5⟩; clear hF4; have m1 : NBox w5 (w.heap.size) a := k1.below hb5 k1.lt; have m2 : NBox w5 (w.heap.size + 1) b := k2.below hb5 k2.lt; have m3 : NBox w5 (w.heap.size + 2) c := k3.below hb5 k3.lt; have hB5 : Below w.heap.size w w5 := hB4.trans (hb5.mono hB4.size); clear k1 k2 k3)
        | (go_at_call 19; refine (hgd w5).mono ?_; rintro e w6 ⟨rfl, hw6⟩; clear hgd; have hB6 : Below w.heap.size w w6 := hw6 ▸ hB5.alloc hB5.size _; have n1 : w6.heap[w.heap.size]? = some (.cells #[.int .i64 a.x, .int .i64 a.y, .int .i64 a.z] 23 (0, 0)) := hw6 ▸ (Below.heap_alloc _ _ _ m1.lt).trans m1; have n2 : w6.heap[w.heap.size + 1]? = some (.cells #[.int .i64 b.x, .int .i64 b.y, .int .i64 b.z] 23 (0, 0)) := hw6 ▸ (Below.heap_alloc _ _ _ m2.lt).trans m2; clear hw6 m1 m2 m3)
        | (refine load_wanted rfl 23 _ rfl _ rfl _ _ _ _ n1 Tryd.underlying23 rfl (need_info _ rfl) ?_)
        | (refine load_wanted rfl 23 _ rfl _ rfl _ _ _ _ n2 Tryd.underlying23 rfl (need_info _ rfl) ?_)
        | go_in)
      go_ret
      exact ⟨by first | rfl | simp, hB6⟩
  · have hgd : ∀ w1 : World, _ := fun w1 : World => gd_four (w := w1) (ce (okN a && okN b)) (ce (okN b && okN c)) (ce (okN a && okN c)) (ce (okN b && okN a))
    have hno : gdB [ce (okN a && okN b), ce (okN b && okN c), ce (okN a && okN c), ce (okN b && okN a)] = false := by
      cases q1 : okN a <;> cases q2 : okN b <;> cases q3 : okN c <;> first | rfl | (exact absurd ⟨q1, q2, q3⟩ hok)
    rw [hno] at hgd
    generalize (okN a && okN b && ftN a b) = x at *
    generalize (okN b && okN c && ftN b c) = y at *
    generalize (okN a && okN c && ftN a c) = z at *
    generalize (okN b && okN a && ftN b a) = u at *
    generalize ce (okN a && okN b) = e1 at *
    generalize ce (okN b && okN c) = e2 at *
    generalize ce (okN a && okN c) = e3 at *
    generalize ce (okN b && okN a) = e4 at *
    clear hno hok
    go_enter Tryd.func6, Tryd.ntmps6
    go_wp2_with (first
        | (go_at_call 13; refine hne.mono ?_; rintro e w1 ⟨rfl, hb1⟩; have g1 : NBox w1 w.heap.size a := (hb1.block w.heap.size (Array.getElem?_eq_some_iff.1 h1).1).trans h1; have g2 : NBox w1 (w.heap.size + 1) b := (hb1.block (w.heap.size + 1) (Array.getElem?_eq_some_iff.1 h2).1).trans h2; have g3 : NBox w1 (w.heap.size + 2) c := (hb1.block (w.heap.size + 2) (Array.getElem?_eq_some_iff.1 h3).1).trans h3; have hB1 : Below w.heap.size w w1 := hBH.out.trans (hb1.mono hBH.out.size); clear hne)
        | (refine load_wanted rfl 23 _ rfl _ rfl _ _ _ _ g1 Tryd.underlying23 rfl (need_info _ rfl) ?_)
        | (refine load_wanted rfl 23 _ rfl _ rfl _ _ _ _ g2 Tryd.underlying23 rfl (need_info _ rfl) ?_)
        | (refine load_wanted rfl 23 _ rfl _ rfl _ _ _ _ g3 Tryd.underlying23 rfl (need_info _ rfl) ?_)
        | (go_at_call 18; refine (hF1 w1).mono ?_; rintro e w2 ⟨rfl, hb2⟩; clear hF1; have i1 : NBox w2 (w.heap.size) a := g1.below hb2 g1.lt; have i2 : NBox w2 (w.heap.size + 1) b := g2.below hb2 g2.lt; have i3 : NBox w2 (w.heap.size + 2) c := g3.below hb2 g3.lt; have hB2 : Below w.heap.size w w2 := hB1.trans (hb2.mono hB1.size); clear g1 g2 g3)
        | (refine load_wanted rfl 23 _ rfl _ rfl _ _ _ _ i1 Tryd.underlying23 rfl (need_info _ rfl) ?_)
        | (refine load_wanted rfl 23 _ rfl _ rfl _ _ _ _ i2 Tryd.underlying23 rfl (need_info _ rfl) ?_)
        | (refine load_wanted rfl 23 _ rfl _ rfl _ _ _ _ i3 Tryd.underlying23 rfl (need_info _ rfl) ?_)
        | (go_at_call 18; refine (hF2 w2).mono ?_; rintro e w3 ⟨rfl, hb3⟩; clear hF2; have j1 : NBox w3 (w.heap.size) a := i1.below hb3 i1.lt; have j2 : NBox w3 (w.heap.size + 1) b := i2.below hb3 i2.lt; have j3 : NBox w3 (w.heap.size + 2) c := i3.below hb3 i3.lt; have hB3 : Below w.heap.size w w3 := hB2.trans (hb3.mono hB2.size); clear i1 i2 i3)
        | (refine load_wanted rfl 23 _ rfl _ rfl _ _ _ _ j1 Tryd.underlying23 rfl (need_info _ rfl) ?_)
        | (refine load_wanted rfl 23 _ rfl _ rfl _ _ _ _ j2 Tryd.underlying23 rfl (need_info _ rfl) ?_)
        | (refine load_wanted rfl 23 _ rfl _ rfl _ _ _ _ j3 Tryd.underlying23 rfl (need_info _ rfl) ?_)
        | (go_at_call 18; refine (hF3 w3).mono ?_; rintro e w4 ⟨rfl, hb4⟩; clear hF3; have k1 : NBox w4 (w.heap.size) a := j1.below hb4 j1.lt; have k2 : NBox w4 (w.heap.size + 1) b := j2.below hb4 j2.lt; have k3 : NBox w4 (w.heap.size + 2) c := j3.below hb4 j3.lt; have hB4 : Below w.heap.size w w4 := hB3.trans (hb4.mono hB3.size); clear j1 j2 j3)
        | (refine load_wanted rfl 23 _ rfl _ rfl _ _ _ _ k1 Tryd.underlying23 rfl (need_info _ rfl) ?_)
        | (refine load_wanted rfl 23 _ rfl _ rfl _ _ _ _ k2 Tryd.underlying23 rfl (need_info _ rfl) ?_)
        | (refine load_wanted rfl 23 _ rfl _ rfl _ _ _ _ k3 Tryd.underlying23 rfl (need_info _ rfl) ?_)
        | (go_at_call 18; refine (hF4 w4).mono ?_; rintro e w5 ⟨rfl, hb5⟩; clear hF4; have m1 : NBox w5 (w.heap.size) a := k1.below hb5 k1.lt; have m2 : NBox w5 (w.heap.size + 1) b := k2.below hb5 k2.lt; have m3 : NBox w5 (w.heap.size + 2) c := k3.below hb5 k3.lt; have hB5 : Below w.heap.size w w5 := hB4.trans (hb5.mono hB4.size); clear k1 k2 k3)
        | (go_at_call 19; refine (hgd w5).mono ?_; rintro e w6 ⟨rfl, hw6⟩; clear hgd; have hB6 : Below w.heap.size w w6 := hw6 ▸ hB5.alloc hB5.size _; have n1 : w6.heap[w.heap.size]? = some (.cells #[.int .i64 a.x, .int .i64 a.y, .int .i64 a.z] 23 (0, 0)) := hw6 ▸ (Below.heap_alloc _ _ _ m1.lt).trans m1; have n2 : w6.heap[w.heap.size + 1]? = some (.cells #[.int .i64 b.x, .int .i64 b.y, .int .i64 b.z] 23 (0, 0)) := hw6 ▸ (Below.heap_alloc _ _ _ m2.lt).trans m2; clear hw6 m1 m2 m3)
        | (refine load_wanted rfl 23 _ rfl _ rfl _ _ _ _ n1 Tryd.underlying23 rfl (need_info _ rfl) ?_)
        | (refine load_wanted rfl 23 _ rfl _ rfl _ _ _ _ n2 Tryd.underlying23 rfl (need_info _ rfl) ?_)
        | go_in)
    go_ret
    exact ⟨by first | rfl | simp, hB6⟩
end Go.Proofs.YtlbnoggnnibmjaaDoor
