/- The law's times. -/
import Derived.Test.YtlbnoggnnibmjaaNdq
namespace Go.Proofs.Ytlbnoggnnibmjaa
open Go.RowKit Ndm
set_option linter.unusedSectionVars false
set_option linter.unusedVariables false

/-- One kind does not bear so often. -/
def t2 (x y n : Int) : Bool := decide (0 < x ∧ y / x < n)
def tmB (a b : N3) (n : Int) : Bool := !t2 a.x b.x n && (!t2 a.y b.y n && !t2 a.z b.z n)

set_option maxHeartbeats 8000000 in
set_option maxRecDepth 100000 in
theorem timesL_any (a b : N3) (n : Int) (w : World) (ha : okN a = true) (hb : okN b = true) : Calls Try.prog 13 #[(.agg #[.int .i64 a.x, .int .i64 a.y, .int .i64 a.z]), (.agg #[.int .i64 b.x, .int .i64 b.y, .int .i64 b.z]), .int .i64 n] w fun e w' => e = .returned (.bool (tmB a b n)) ∧ Below w.heap.size w w' := by
  obtain ⟨h1, h2, hB, hs⟩ := two_boxes w a b
  have am := fun c w1 => amR_any c w1
  obtain ⟨⟨⟨x1, x2⟩, ⟨x3, x4⟩, x5, x6⟩, ⟨y1, y2⟩, ⟨y3, y4⟩, y5, y6⟩ := And.intro (okN_iff.1 ha) (okN_iff.1 hb)
  clear ha hb
  go_enter Try.func13, Try.ntmps13
  go_upto_region 1 with fail
  go_cut [7, 8] from 10 to 13 (fun p q wx => ∃ g h : Nat, p = .pointer (some ⟨g, 0, none⟩) ∧ q = .pointer (some ⟨h, 0, none⟩) ∧ wx.heap[g]? = some (.cells #[.int .i64 a.x, .int .i64 a.y, .int .i64 a.z] 39 (0, 0)) ∧ wx.heap[h]? = some (.cells #[.int .i64 b.x, .int .i64 b.y, .int .i64 b.z] 39 (0, 0)) ∧ Below w.heap.size w wx)
  case first =>
    generalize ((w.alloc (.cells #[.int .i64 a.x, .int .i64 a.y, .int .i64 a.z] 23)).alloc (.cells #[.int .i64 b.x, .int .i64 b.y, .int .i64 b.z] 23)) = w1 at *
    refine Tkc.region_anyC (C := fun w' => NBox w' w.heap.size a ∧ NBox w' (w.heap.size + 1) b) (s := 7) (by kernel_rfl) ?_
    have hC : NBox w1.drew w.heap.size a ∧ NBox w1.drew (w.heap.size + 1) b := ⟨h1, h2⟩
    have hB : Below w.heap.size w w1.drew := hB.drew
    generalize w1.drew = w2 at *
    refine Tkc.takeC (i := 0) (v := (.agg #[.int .i64 a.x, .int .i64 a.y, .int .i64 a.z])) rfl (by kernel_rfl) (by kernel_rfl) (by kernel_rfl) (fun _ _ _ h => h) (by decide) (by kernel_rfl) (by kernel_rfl) hC ⟨by rfl, fun w hw => by have k0 := hw.1.c0; have k1 := hw.1.c1; have k2 := hw.1.c2; go_simp⟩ ?_
    try go_frame
    refine Tkc.takeC (i := 2) (v := (.agg #[.int .i64 b.x, .int .i64 b.y, .int .i64 b.z])) rfl (by kernel_rfl) (by kernel_rfl) (by kernel_rfl) (fun _ _ _ h => h) (by decide) (by kernel_rfl) (by kernel_rfl) hC ⟨by rfl, fun w hw => by have k0 := hw.2.c0; have k1 := hw.2.c1; have k2 := hw.2.c2; go_simp⟩ ?_
    try go_frame
    refine Tkc.manyC [1, 4, 5] (by kernel_rfl) (by decide) (fun _ => hC) ?_
    intro i hi
    rcases (show i = 1 ∨ i = 4 ∨ i = 5 by simpa using hi) with rfl | rfl | rfl
    · clear hi
      refine Tkc.opC (i := 1) rfl (by rfl) (fun K hK => ?_)
      go_simp
      refine (am a _).mono ?_
      rintro e w3 ⟨rfl, hb⟩
      refine hK _ _ ?_
      clear hK K
      have hC : NBox w3 w.heap.size a ∧ NBox w3 (w.heap.size + 1) b := ⟨hC.1.below hb hC.1.lt, hC.2.below hb hC.2.lt⟩
      have hB : Below w.heap.size w w3 := hB.trans (hb.mono hB.size)
      clear hb
      refine Tkc.manyC [3, 4, 5] (by kernel_rfl) (by decide) (fun _ => hC) ?_
      intro i hi
      rcases (show i = 3 ∨ i = 4 ∨ i = 5 by simpa using hi) with rfl | rfl | rfl
      · clear hi
        refine Tkc.opC (i := 3) rfl (by rfl) (fun K hK => ?_)
        go_simp
        refine (am b _).mono ?_
        rintro e w4 ⟨rfl, hb⟩
        refine hK _ _ ?_
        clear hK K
        have hC : NBox w4 w.heap.size a ∧ NBox w4 (w.heap.size + 1) b := ⟨hC.1.below hb hC.1.lt, hC.2.below hb hC.2.lt⟩
        have hB : Below w.heap.size w w4 := hB.trans (hb.mono hB.size)
        clear hb
        refine Tkc.manyC [4, 5] (by kernel_rfl) (by decide) (fun _ => hC) ?_
        intro i hi
        rcases (show i = 4 ∨ i = 5 by simpa using hi) with rfl | rfl
        · clear hi
          refine Tkc.opC (i := 4) rfl (by rfl) (fun K hK => ?_)
          refine wp_alloc_arr rfl ?_
          show K (Act.put _ (some 7) _) _
          refine hK _ _ ?_
          clear hK K
          try go_frame
          have h4 : (w4.alloc (.cells #[.int .i64 0, .int .i64 0, .int .i64 0] 39)).heap[w4.heap.size]? = some (.cells #[.int .i64 0, .int .i64 0, .int .i64 0] 39 (0, 0)) := heap_alloc_new _ _
          have hC0 := hC.2.lt
          have hC : NBox (w4.alloc (.cells #[.int .i64 0, .int .i64 0, .int .i64 0] 39)) w.heap.size a ∧ NBox (w4.alloc (.cells #[.int .i64 0, .int .i64 0, .int .i64 0] 39)) (w.heap.size + 1) b := ⟨(Below.heap_alloc _ _ _ hC.1.lt).trans hC.1, (Below.heap_alloc _ _ _ hC.2.lt).trans hC.2⟩
          have hB : Below w.heap.size w (w4.alloc (.cells #[.int .i64 0, .int .i64 0, .int .i64 0] 39)) := hB.alloc hB.size _
          have hge4 : Hid (w.heap.size + 1 < w4.heap.size) := hC0
          clear hC0
          generalize w4.alloc (.cells #[.int .i64 0, .int .i64 0, .int .i64 0] 39) = w5 at *
          generalize w4.heap.size = g4 at *
          refine Tkc.onlyC (i := 5) rfl (by kernel_rfl) (fun _ => hC) (by rfl) (fun K hK => ?_)
          refine wp_alloc_arr rfl ?_
          show K (Act.put _ (some 8) _) _
          refine hK _ _ ?_
          clear hK K
          try go_frame
          have h5 : (w5.alloc (.cells #[.int .i64 0, .int .i64 0, .int .i64 0] 39)).heap[w5.heap.size]? = some (.cells #[.int .i64 0, .int .i64 0, .int .i64 0] 39 (0, 0)) := heap_alloc_new _ _
          have hne : g4 ≠ w5.heap.size := Nat.ne_of_lt (Array.getElem?_eq_some_iff.1 h4).1
          have h4 : (w5.alloc (.cells #[.int .i64 0, .int .i64 0, .int .i64 0] 39)).heap[g4]? = some (.cells #[.int .i64 0, .int .i64 0, .int .i64 0] 39 (0, 0)) := (Below.heap_alloc _ _ _ (Array.getElem?_eq_some_iff.1 h4).1).trans h4
          have hC0 := hC.2.lt
          have hC : NBox (w5.alloc (.cells #[.int .i64 0, .int .i64 0, .int .i64 0] 39)) w.heap.size a ∧ NBox (w5.alloc (.cells #[.int .i64 0, .int .i64 0, .int .i64 0] 39)) (w.heap.size + 1) b := ⟨(Below.heap_alloc _ _ _ hC.1.lt).trans hC.1, (Below.heap_alloc _ _ _ hC.2.lt).trans hC.2⟩
          have hB : Below w.heap.size w (w5.alloc (.cells #[.int .i64 0, .int .i64 0, .int .i64 0] 39)) := hB.alloc hB.size _
          have hge5 : Hid (w.heap.size + 1 < w5.heap.size) := hC0
          clear hC0
          generalize w5.alloc (.cells #[.int .i64 0, .int .i64 0, .int .i64 0] 39) = w6 at *
          generalize w5.heap.size = g5 at *
          refine Tkc.onlyC (i := 6) rfl (by kernel_rfl) (fun _ => hC) (by rfl) (fun K hK => ?_)
          refine wp_store_row 39 _ _ rfl _ #[.int .i64 a.x, .int .i64 a.y, .int .i64 a.z] rfl rfl _ _ h4 (arr_info _ rfl) rfl (need_one _ _ _) ?_
          show K (Act.put _ none _) _
          refine hK _ _ ?_
          clear hK K
          try go_frame
          have hx := setRow_heap _ g4 _ #[.int .i64 a.x, .int .i64 a.y, .int .i64 a.z] _ _ h4
          have h5 : (w6.setRow g4 #[.int .i64 a.x, .int .i64 a.y, .int .i64 a.z]).heap[g5]? = some (.cells #[.int .i64 0, .int .i64 0, .int .i64 0] 39 (0, 0)) := (setRow_other _ g4 g5 _ (fun e => hne e.symm)).trans h5
          have hB : Below w.heap.size w (w6.setRow g4 #[.int .i64 a.x, .int .i64 a.y, .int .i64 a.z]) := below_row hB (Nat.le_of_lt (Nat.lt_of_succ_lt hge4.out))
          have hC : NBox (w6.setRow g4 #[.int .i64 a.x, .int .i64 a.y, .int .i64 a.z]) w.heap.size a ∧ NBox (w6.setRow g4 #[.int .i64 a.x, .int .i64 a.y, .int .i64 a.z]) (w.heap.size + 1) b := ⟨(setRow_other _ g4 w.heap.size _ (by have := hge4.out; omega)).trans hC.1, (setRow_other _ g4 (w.heap.size + 1) _ (by have := hge4.out; omega)).trans hC.2⟩
          generalize w6.setRow g4 #[.int .i64 a.x, .int .i64 a.y, .int .i64 a.z] = w7 at *
          refine Tkc.onlyC (i := 7) rfl (by kernel_rfl) (fun _ => hC) (by rfl) (fun K hK => ?_)
          refine wp_store_row 39 _ _ rfl _ #[.int .i64 b.x, .int .i64 b.y, .int .i64 b.z] rfl rfl _ _ h5 (arr_info _ rfl) rfl (need_one _ _ _) ?_
          show K (Act.put _ none _) _
          refine hK _ _ ?_
          clear hK K
          try go_frame
          have hy := setRow_heap _ g5 _ #[.int .i64 b.x, .int .i64 b.y, .int .i64 b.z] _ _ h5
          have hx := (setRow_other _ g5 g4 #[.int .i64 b.x, .int .i64 b.y, .int .i64 b.z] (fun e => hne e)).trans hx
          have hB : Below w.heap.size w (w7.setRow g5 #[.int .i64 b.x, .int .i64 b.y, .int .i64 b.z]) := below_row hB (Nat.le_of_lt (Nat.lt_of_succ_lt hge5.out))
          refine Tkc.doneC (by kernel_rfl) (fun hz => by have hz' : true = false := hz; cases hz') ?_
          try go_frame
          try (go_wp2_with fail)
          go_meet
          exact ⟨_, _, rfl, rfl, hx, hy, hB⟩
        · clear hi
          refine Tkc.opC (i := 5) rfl (by rfl) (fun K hK => ?_)
          refine wp_alloc_arr rfl ?_
          show K (Act.put _ (some 8) _) _
          refine hK _ _ ?_
          clear hK K
          try go_frame
          have h5 : (w4.alloc (.cells #[.int .i64 0, .int .i64 0, .int .i64 0] 39)).heap[w4.heap.size]? = some (.cells #[.int .i64 0, .int .i64 0, .int .i64 0] 39 (0, 0)) := heap_alloc_new _ _
          have hC0 := hC.2.lt
          have hC : NBox (w4.alloc (.cells #[.int .i64 0, .int .i64 0, .int .i64 0] 39)) w.heap.size a ∧ NBox (w4.alloc (.cells #[.int .i64 0, .int .i64 0, .int .i64 0] 39)) (w.heap.size + 1) b := ⟨(Below.heap_alloc _ _ _ hC.1.lt).trans hC.1, (Below.heap_alloc _ _ _ hC.2.lt).trans hC.2⟩
          have hB : Below w.heap.size w (w4.alloc (.cells #[.int .i64 0, .int .i64 0, .int .i64 0] 39)) := hB.alloc hB.size _
          have hge5 : Hid (w.heap.size + 1 < w4.heap.size) := hC0
          clear hC0
          generalize w4.alloc (.cells #[.int .i64 0, .int .i64 0, .int .i64 0] 39) = w5 at *
          generalize w4.heap.size = g5 at *
          refine Tkc.onlyC (i := 4) rfl (by kernel_rfl) (fun _ => hC) (by rfl) (fun K hK => ?_)
          refine wp_alloc_arr rfl ?_
          show K (Act.put _ (some 7) _) _
          refine hK _ _ ?_
          clear hK K
          try go_frame
          have h4 : (w5.alloc (.cells #[.int .i64 0, .int .i64 0, .int .i64 0] 39)).heap[w5.heap.size]? = some (.cells #[.int .i64 0, .int .i64 0, .int .i64 0] 39 (0, 0)) := heap_alloc_new _ _
          have hne : g5 ≠ w5.heap.size := Nat.ne_of_lt (Array.getElem?_eq_some_iff.1 h5).1
          have h5 : (w5.alloc (.cells #[.int .i64 0, .int .i64 0, .int .i64 0] 39)).heap[g5]? = some (.cells #[.int .i64 0, .int .i64 0, .int .i64 0] 39 (0, 0)) := (Below.heap_alloc _ _ _ (Array.getElem?_eq_some_iff.1 h5).1).trans h5
          have hC0 := hC.2.lt
          have hC : NBox (w5.alloc (.cells #[.int .i64 0, .int .i64 0, .int .i64 0] 39)) w.heap.size a ∧ NBox (w5.alloc (.cells #[.int .i64 0, .int .i64 0, .int .i64 0] 39)) (w.heap.size + 1) b := ⟨(Below.heap_alloc _ _ _ hC.1.lt).trans hC.1, (Below.heap_alloc _ _ _ hC.2.lt).trans hC.2⟩
          have hB : Below w.heap.size w (w5.alloc (.cells #[.int .i64 0, .int .i64 0, .int .i64 0] 39)) := hB.alloc hB.size _
          have hge4 : Hid (w.heap.size + 1 < w5.heap.size) := hC0
          clear hC0
          generalize w5.alloc (.cells #[.int .i64 0, .int .i64 0, .int .i64 0] 39) = w6 at *
          generalize w5.heap.size = g4 at *
          refine Tkc.onlyC (i := 6) rfl (by kernel_rfl) (fun _ => hC) (by rfl) (fun K hK => ?_)
          refine wp_store_row 39 _ _ rfl _ #[.int .i64 a.x, .int .i64 a.y, .int .i64 a.z] rfl rfl _ _ h4 (arr_info _ rfl) rfl (need_one _ _ _) ?_
          show K (Act.put _ none _) _
          refine hK _ _ ?_
          clear hK K
          try go_frame
          have hx := setRow_heap _ g4 _ #[.int .i64 a.x, .int .i64 a.y, .int .i64 a.z] _ _ h4
          have h5 : (w6.setRow g4 #[.int .i64 a.x, .int .i64 a.y, .int .i64 a.z]).heap[g5]? = some (.cells #[.int .i64 0, .int .i64 0, .int .i64 0] 39 (0, 0)) := (setRow_other _ g4 g5 _ (fun e => hne e)).trans h5
          have hB : Below w.heap.size w (w6.setRow g4 #[.int .i64 a.x, .int .i64 a.y, .int .i64 a.z]) := below_row hB (Nat.le_of_lt (Nat.lt_of_succ_lt hge4.out))
          have hC : NBox (w6.setRow g4 #[.int .i64 a.x, .int .i64 a.y, .int .i64 a.z]) w.heap.size a ∧ NBox (w6.setRow g4 #[.int .i64 a.x, .int .i64 a.y, .int .i64 a.z]) (w.heap.size + 1) b := ⟨(setRow_other _ g4 w.heap.size _ (by have := hge4.out; omega)).trans hC.1, (setRow_other _ g4 (w.heap.size + 1) _ (by have := hge4.out; omega)).trans hC.2⟩
          generalize w6.setRow g4 #[.int .i64 a.x, .int .i64 a.y, .int .i64 a.z] = w7 at *
          refine Tkc.onlyC (i := 7) rfl (by kernel_rfl) (fun _ => hC) (by rfl) (fun K hK => ?_)
          refine wp_store_row 39 _ _ rfl _ #[.int .i64 b.x, .int .i64 b.y, .int .i64 b.z] rfl rfl _ _ h5 (arr_info _ rfl) rfl (need_one _ _ _) ?_
          show K (Act.put _ none _) _
          refine hK _ _ ?_
          clear hK K
          try go_frame
          have hy := setRow_heap _ g5 _ #[.int .i64 b.x, .int .i64 b.y, .int .i64 b.z] _ _ h5
          have hx := (setRow_other _ g5 g4 #[.int .i64 b.x, .int .i64 b.y, .int .i64 b.z] (fun e => hne e.symm)).trans hx
          have hB : Below w.heap.size w (w7.setRow g5 #[.int .i64 b.x, .int .i64 b.y, .int .i64 b.z]) := below_row hB (Nat.le_of_lt (Nat.lt_of_succ_lt hge5.out))
          refine Tkc.doneC (by kernel_rfl) (fun hz => by have hz' : true = false := hz; cases hz') ?_
          try go_frame
          try (go_wp2_with fail)
          go_meet
          exact ⟨_, _, rfl, rfl, hx, hy, hB⟩
      · clear hi
        refine Tkc.opC (i := 4) rfl (by rfl) (fun K hK => ?_)
        refine wp_alloc_arr rfl ?_
        show K (Act.put _ (some 7) _) _
        refine hK _ _ ?_
        clear hK K
        try go_frame
        have h4 : (w3.alloc (.cells #[.int .i64 0, .int .i64 0, .int .i64 0] 39)).heap[w3.heap.size]? = some (.cells #[.int .i64 0, .int .i64 0, .int .i64 0] 39 (0, 0)) := heap_alloc_new _ _
        have hC0 := hC.2.lt
        have hC : NBox (w3.alloc (.cells #[.int .i64 0, .int .i64 0, .int .i64 0] 39)) w.heap.size a ∧ NBox (w3.alloc (.cells #[.int .i64 0, .int .i64 0, .int .i64 0] 39)) (w.heap.size + 1) b := ⟨(Below.heap_alloc _ _ _ hC.1.lt).trans hC.1, (Below.heap_alloc _ _ _ hC.2.lt).trans hC.2⟩
        have hB : Below w.heap.size w (w3.alloc (.cells #[.int .i64 0, .int .i64 0, .int .i64 0] 39)) := hB.alloc hB.size _
        have hge4 : Hid (w.heap.size + 1 < w3.heap.size) := hC0
        clear hC0
        generalize w3.alloc (.cells #[.int .i64 0, .int .i64 0, .int .i64 0] 39) = w4 at *
        generalize w3.heap.size = g4 at *
        refine Tkc.manyC [3, 5] (by kernel_rfl) (by decide) (fun _ => hC) ?_
        intro i hi
        rcases (show i = 3 ∨ i = 5 by simpa using hi) with rfl | rfl
        · clear hi
          refine Tkc.opC (i := 3) rfl (by rfl) (fun K hK => ?_)
          go_simp
          refine (am b _).mono ?_
          rintro e w5 ⟨rfl, hb⟩
          refine hK _ _ ?_
          clear hK K
          have hC : NBox w5 w.heap.size a ∧ NBox w5 (w.heap.size + 1) b := ⟨hC.1.below hb hC.1.lt, hC.2.below hb hC.2.lt⟩
          have h4 : w5.heap[g4]? = some (.cells #[.int .i64 0, .int .i64 0, .int .i64 0] 39 (0, 0)) := (hb.block _ (Array.getElem?_eq_some_iff.1 h4).1).trans h4
          have hB : Below w.heap.size w w5 := hB.trans (hb.mono hB.size)
          clear hb
          refine Tkc.onlyC (i := 5) rfl (by kernel_rfl) (fun _ => hC) (by rfl) (fun K hK => ?_)
          refine wp_alloc_arr rfl ?_
          show K (Act.put _ (some 8) _) _
          refine hK _ _ ?_
          clear hK K
          try go_frame
          have h5 : (w5.alloc (.cells #[.int .i64 0, .int .i64 0, .int .i64 0] 39)).heap[w5.heap.size]? = some (.cells #[.int .i64 0, .int .i64 0, .int .i64 0] 39 (0, 0)) := heap_alloc_new _ _
          have hne : g4 ≠ w5.heap.size := Nat.ne_of_lt (Array.getElem?_eq_some_iff.1 h4).1
          have h4 : (w5.alloc (.cells #[.int .i64 0, .int .i64 0, .int .i64 0] 39)).heap[g4]? = some (.cells #[.int .i64 0, .int .i64 0, .int .i64 0] 39 (0, 0)) := (Below.heap_alloc _ _ _ (Array.getElem?_eq_some_iff.1 h4).1).trans h4
          have hC0 := hC.2.lt
          have hC : NBox (w5.alloc (.cells #[.int .i64 0, .int .i64 0, .int .i64 0] 39)) w.heap.size a ∧ NBox (w5.alloc (.cells #[.int .i64 0, .int .i64 0, .int .i64 0] 39)) (w.heap.size + 1) b := ⟨(Below.heap_alloc _ _ _ hC.1.lt).trans hC.1, (Below.heap_alloc _ _ _ hC.2.lt).trans hC.2⟩
          have hB : Below w.heap.size w (w5.alloc (.cells #[.int .i64 0, .int .i64 0, .int .i64 0] 39)) := hB.alloc hB.size _
          have hge5 : Hid (w.heap.size + 1 < w5.heap.size) := hC0
          clear hC0
          generalize w5.alloc (.cells #[.int .i64 0, .int .i64 0, .int .i64 0] 39) = w6 at *
          generalize w5.heap.size = g5 at *
          refine Tkc.onlyC (i := 6) rfl (by kernel_rfl) (fun _ => hC) (by rfl) (fun K hK => ?_)
          refine wp_store_row 39 _ _ rfl _ #[.int .i64 a.x, .int .i64 a.y, .int .i64 a.z] rfl rfl _ _ h4 (arr_info _ rfl) rfl (need_one _ _ _) ?_
          show K (Act.put _ none _) _
          refine hK _ _ ?_
          clear hK K
          try go_frame
          have hx := setRow_heap _ g4 _ #[.int .i64 a.x, .int .i64 a.y, .int .i64 a.z] _ _ h4
          have h5 : (w6.setRow g4 #[.int .i64 a.x, .int .i64 a.y, .int .i64 a.z]).heap[g5]? = some (.cells #[.int .i64 0, .int .i64 0, .int .i64 0] 39 (0, 0)) := (setRow_other _ g4 g5 _ (fun e => hne e.symm)).trans h5
          have hB : Below w.heap.size w (w6.setRow g4 #[.int .i64 a.x, .int .i64 a.y, .int .i64 a.z]) := below_row hB (Nat.le_of_lt (Nat.lt_of_succ_lt hge4.out))
          have hC : NBox (w6.setRow g4 #[.int .i64 a.x, .int .i64 a.y, .int .i64 a.z]) w.heap.size a ∧ NBox (w6.setRow g4 #[.int .i64 a.x, .int .i64 a.y, .int .i64 a.z]) (w.heap.size + 1) b := ⟨(setRow_other _ g4 w.heap.size _ (by have := hge4.out; omega)).trans hC.1, (setRow_other _ g4 (w.heap.size + 1) _ (by have := hge4.out; omega)).trans hC.2⟩
          generalize w6.setRow g4 #[.int .i64 a.x, .int .i64 a.y, .int .i64 a.z] = w7 at *
          refine Tkc.onlyC (i := 7) rfl (by kernel_rfl) (fun _ => hC) (by rfl) (fun K hK => ?_)
          refine wp_store_row 39 _ _ rfl _ #[.int .i64 b.x, .int .i64 b.y, .int .i64 b.z] rfl rfl _ _ h5 (arr_info _ rfl) rfl (need_one _ _ _) ?_
          show K (Act.put _ none _) _
          refine hK _ _ ?_
          clear hK K
          try go_frame
          have hy := setRow_heap _ g5 _ #[.int .i64 b.x, .int .i64 b.y, .int .i64 b.z] _ _ h5
          have hx := (setRow_other _ g5 g4 #[.int .i64 b.x, .int .i64 b.y, .int .i64 b.z] (fun e => hne e)).trans hx
          have hB : Below w.heap.size w (w7.setRow g5 #[.int .i64 b.x, .int .i64 b.y, .int .i64 b.z]) := below_row hB (Nat.le_of_lt (Nat.lt_of_succ_lt hge5.out))
          refine Tkc.doneC (by kernel_rfl) (fun hz => by have hz' : true = false := hz; cases hz') ?_
          try go_frame
          try (go_wp2_with fail)
          go_meet
          exact ⟨_, _, rfl, rfl, hx, hy, hB⟩
        · clear hi
          refine Tkc.opC (i := 5) rfl (by rfl) (fun K hK => ?_)
          refine wp_alloc_arr rfl ?_
          show K (Act.put _ (some 8) _) _
          refine hK _ _ ?_
          clear hK K
          try go_frame
          have h5 : (w4.alloc (.cells #[.int .i64 0, .int .i64 0, .int .i64 0] 39)).heap[w4.heap.size]? = some (.cells #[.int .i64 0, .int .i64 0, .int .i64 0] 39 (0, 0)) := heap_alloc_new _ _
          have hne : g4 ≠ w4.heap.size := Nat.ne_of_lt (Array.getElem?_eq_some_iff.1 h4).1
          have h4 : (w4.alloc (.cells #[.int .i64 0, .int .i64 0, .int .i64 0] 39)).heap[g4]? = some (.cells #[.int .i64 0, .int .i64 0, .int .i64 0] 39 (0, 0)) := (Below.heap_alloc _ _ _ (Array.getElem?_eq_some_iff.1 h4).1).trans h4
          have hC0 := hC.2.lt
          have hC : NBox (w4.alloc (.cells #[.int .i64 0, .int .i64 0, .int .i64 0] 39)) w.heap.size a ∧ NBox (w4.alloc (.cells #[.int .i64 0, .int .i64 0, .int .i64 0] 39)) (w.heap.size + 1) b := ⟨(Below.heap_alloc _ _ _ hC.1.lt).trans hC.1, (Below.heap_alloc _ _ _ hC.2.lt).trans hC.2⟩
          have hB : Below w.heap.size w (w4.alloc (.cells #[.int .i64 0, .int .i64 0, .int .i64 0] 39)) := hB.alloc hB.size _
          have hge5 : Hid (w.heap.size + 1 < w4.heap.size) := hC0
          clear hC0
          generalize w4.alloc (.cells #[.int .i64 0, .int .i64 0, .int .i64 0] 39) = w5 at *
          generalize w4.heap.size = g5 at *
          refine Tkc.onlyC (i := 3) rfl (by kernel_rfl) (fun _ => hC) (by rfl) (fun K hK => ?_)
          go_simp
          refine (am b _).mono ?_
          rintro e w6 ⟨rfl, hb⟩
          refine hK _ _ ?_
          clear hK K
          have hC : NBox w6 w.heap.size a ∧ NBox w6 (w.heap.size + 1) b := ⟨hC.1.below hb hC.1.lt, hC.2.below hb hC.2.lt⟩
          have h4 : w6.heap[g4]? = some (.cells #[.int .i64 0, .int .i64 0, .int .i64 0] 39 (0, 0)) := (hb.block _ (Array.getElem?_eq_some_iff.1 h4).1).trans h4
          have h5 : w6.heap[g5]? = some (.cells #[.int .i64 0, .int .i64 0, .int .i64 0] 39 (0, 0)) := (hb.block _ (Array.getElem?_eq_some_iff.1 h5).1).trans h5
          have hB : Below w.heap.size w w6 := hB.trans (hb.mono hB.size)
          clear hb
          refine Tkc.onlyC (i := 6) rfl (by kernel_rfl) (fun _ => hC) (by rfl) (fun K hK => ?_)
          refine wp_store_row 39 _ _ rfl _ #[.int .i64 a.x, .int .i64 a.y, .int .i64 a.z] rfl rfl _ _ h4 (arr_info _ rfl) rfl (need_one _ _ _) ?_
          show K (Act.put _ none _) _
          refine hK _ _ ?_
          clear hK K
          try go_frame
          have hx := setRow_heap _ g4 _ #[.int .i64 a.x, .int .i64 a.y, .int .i64 a.z] _ _ h4
          have h5 : (w6.setRow g4 #[.int .i64 a.x, .int .i64 a.y, .int .i64 a.z]).heap[g5]? = some (.cells #[.int .i64 0, .int .i64 0, .int .i64 0] 39 (0, 0)) := (setRow_other _ g4 g5 _ (fun e => hne e.symm)).trans h5
          have hB : Below w.heap.size w (w6.setRow g4 #[.int .i64 a.x, .int .i64 a.y, .int .i64 a.z]) := below_row hB (Nat.le_of_lt (Nat.lt_of_succ_lt hge4.out))
          have hC : NBox (w6.setRow g4 #[.int .i64 a.x, .int .i64 a.y, .int .i64 a.z]) w.heap.size a ∧ NBox (w6.setRow g4 #[.int .i64 a.x, .int .i64 a.y, .int .i64 a.z]) (w.heap.size + 1) b := ⟨(setRow_other _ g4 w.heap.size _ (by have := hge4.out; omega)).trans hC.1, (setRow_other _ g4 (w.heap.size + 1) _ (by have := hge4.out; omega)).trans hC.2⟩
          generalize w6.setRow g4 #[.int .i64 a.x, .int .i64 a.y, .int .i64 a.z] = w7 at *
          refine Tkc.onlyC (i := 7) rfl (by kernel_rfl) (fun _ => hC) (by rfl) (fun K hK => ?_)
          refine wp_store_row 39 _ _ rfl _ #[.int .i64 b.x, .int .i64 b.y, .int .i64 b.z] rfl rfl _ _ h5 (arr_info _ rfl) rfl (need_one _ _ _) ?_
          show K (Act.put _ none _) _
          refine hK _ _ ?_
          clear hK K
          try go_frame
          have hy := setRow_heap _ g5 _ #[.int .i64 b.x, .int .i64 b.y, .int .i64 b.z] _ _ h5
          have hx := (setRow_other _ g5 g4 #[.int .i64 b.x, .int .i64 b.y, .int .i64 b.z] (fun e => hne e)).trans hx
          have hB : Below w.heap.size w (w7.setRow g5 #[.int .i64 b.x, .int .i64 b.y, .int .i64 b.z]) := below_row hB (Nat.le_of_lt (Nat.lt_of_succ_lt hge5.out))
          refine Tkc.doneC (by kernel_rfl) (fun hz => by have hz' : true = false := hz; cases hz') ?_
          try go_frame
          try (go_wp2_with fail)
          go_meet
          exact ⟨_, _, rfl, rfl, hx, hy, hB⟩
      · clear hi
        refine Tkc.opC (i := 5) rfl (by rfl) (fun K hK => ?_)
        refine wp_alloc_arr rfl ?_
        show K (Act.put _ (some 8) _) _
        refine hK _ _ ?_
        clear hK K
        try go_frame
        have h5 : (w3.alloc (.cells #[.int .i64 0, .int .i64 0, .int .i64 0] 39)).heap[w3.heap.size]? = some (.cells #[.int .i64 0, .int .i64 0, .int .i64 0] 39 (0, 0)) := heap_alloc_new _ _
        have hC0 := hC.2.lt
        have hC : NBox (w3.alloc (.cells #[.int .i64 0, .int .i64 0, .int .i64 0] 39)) w.heap.size a ∧ NBox (w3.alloc (.cells #[.int .i64 0, .int .i64 0, .int .i64 0] 39)) (w.heap.size + 1) b := ⟨(Below.heap_alloc _ _ _ hC.1.lt).trans hC.1, (Below.heap_alloc _ _ _ hC.2.lt).trans hC.2⟩
        have hB : Below w.heap.size w (w3.alloc (.cells #[.int .i64 0, .int .i64 0, .int .i64 0] 39)) := hB.alloc hB.size _
        have hge5 : Hid (w.heap.size + 1 < w3.heap.size) := hC0
        clear hC0
        generalize w3.alloc (.cells #[.int .i64 0, .int .i64 0, .int .i64 0] 39) = w4 at *
        generalize w3.heap.size = g5 at *
        refine Tkc.manyC [3, 4] (by kernel_rfl) (by decide) (fun _ => hC) ?_
        intro i hi
        rcases (show i = 3 ∨ i = 4 by simpa using hi) with rfl | rfl
        · clear hi
          refine Tkc.opC (i := 3) rfl (by rfl) (fun K hK => ?_)
          go_simp
          refine (am b _).mono ?_
          rintro e w5 ⟨rfl, hb⟩
          refine hK _ _ ?_
          clear hK K
          have hC : NBox w5 w.heap.size a ∧ NBox w5 (w.heap.size + 1) b := ⟨hC.1.below hb hC.1.lt, hC.2.below hb hC.2.lt⟩
          have h5 : w5.heap[g5]? = some (.cells #[.int .i64 0, .int .i64 0, .int .i64 0] 39 (0, 0)) := (hb.block _ (Array.getElem?_eq_some_iff.1 h5).1).trans h5
          have hB : Below w.heap.size w w5 := hB.trans (hb.mono hB.size)
          clear hb
          refine Tkc.onlyC (i := 4) rfl (by kernel_rfl) (fun _ => hC) (by rfl) (fun K hK => ?_)
          refine wp_alloc_arr rfl ?_
          show K (Act.put _ (some 7) _) _
          refine hK _ _ ?_
          clear hK K
          try go_frame
          have h4 : (w5.alloc (.cells #[.int .i64 0, .int .i64 0, .int .i64 0] 39)).heap[w5.heap.size]? = some (.cells #[.int .i64 0, .int .i64 0, .int .i64 0] 39 (0, 0)) := heap_alloc_new _ _
          have hne : g5 ≠ w5.heap.size := Nat.ne_of_lt (Array.getElem?_eq_some_iff.1 h5).1
          have h5 : (w5.alloc (.cells #[.int .i64 0, .int .i64 0, .int .i64 0] 39)).heap[g5]? = some (.cells #[.int .i64 0, .int .i64 0, .int .i64 0] 39 (0, 0)) := (Below.heap_alloc _ _ _ (Array.getElem?_eq_some_iff.1 h5).1).trans h5
          have hC0 := hC.2.lt
          have hC : NBox (w5.alloc (.cells #[.int .i64 0, .int .i64 0, .int .i64 0] 39)) w.heap.size a ∧ NBox (w5.alloc (.cells #[.int .i64 0, .int .i64 0, .int .i64 0] 39)) (w.heap.size + 1) b := ⟨(Below.heap_alloc _ _ _ hC.1.lt).trans hC.1, (Below.heap_alloc _ _ _ hC.2.lt).trans hC.2⟩
          have hB : Below w.heap.size w (w5.alloc (.cells #[.int .i64 0, .int .i64 0, .int .i64 0] 39)) := hB.alloc hB.size _
          have hge4 : Hid (w.heap.size + 1 < w5.heap.size) := hC0
          clear hC0
          generalize w5.alloc (.cells #[.int .i64 0, .int .i64 0, .int .i64 0] 39) = w6 at *
          generalize w5.heap.size = g4 at *
          refine Tkc.onlyC (i := 6) rfl (by kernel_rfl) (fun _ => hC) (by rfl) (fun K hK => ?_)
          refine wp_store_row 39 _ _ rfl _ #[.int .i64 a.x, .int .i64 a.y, .int .i64 a.z] rfl rfl _ _ h4 (arr_info _ rfl) rfl (need_one _ _ _) ?_
          show K (Act.put _ none _) _
          refine hK _ _ ?_
          clear hK K
          try go_frame
          have hx := setRow_heap _ g4 _ #[.int .i64 a.x, .int .i64 a.y, .int .i64 a.z] _ _ h4
          have h5 : (w6.setRow g4 #[.int .i64 a.x, .int .i64 a.y, .int .i64 a.z]).heap[g5]? = some (.cells #[.int .i64 0, .int .i64 0, .int .i64 0] 39 (0, 0)) := (setRow_other _ g4 g5 _ (fun e => hne e)).trans h5
          have hB : Below w.heap.size w (w6.setRow g4 #[.int .i64 a.x, .int .i64 a.y, .int .i64 a.z]) := below_row hB (Nat.le_of_lt (Nat.lt_of_succ_lt hge4.out))
          have hC : NBox (w6.setRow g4 #[.int .i64 a.x, .int .i64 a.y, .int .i64 a.z]) w.heap.size a ∧ NBox (w6.setRow g4 #[.int .i64 a.x, .int .i64 a.y, .int .i64 a.z]) (w.heap.size + 1) b := ⟨(setRow_other _ g4 w.heap.size _ (by have := hge4.out; omega)).trans hC.1, (setRow_other _ g4 (w.heap.size + 1) _ (by have := hge4.out; omega)).trans hC.2⟩
          generalize w6.setRow g4 #[.int .i64 a.x, .int .i64 a.y, .int .i64 a.z] = w7 at *
          refine Tkc.onlyC (i := 7) rfl (by kernel_rfl) (fun _ => hC) (by rfl) (fun K hK => ?_)
          refine wp_store_row 39 _ _ rfl _ #[.int .i64 b.x, .int .i64 b.y, .int .i64 b.z] rfl rfl _ _ h5 (arr_info _ rfl) rfl (need_one _ _ _) ?_
          show K (Act.put _ none _) _
          refine hK _ _ ?_
          clear hK K
          try go_frame
          have hy := setRow_heap _ g5 _ #[.int .i64 b.x, .int .i64 b.y, .int .i64 b.z] _ _ h5
          have hx := (setRow_other _ g5 g4 #[.int .i64 b.x, .int .i64 b.y, .int .i64 b.z] (fun e => hne e.symm)).trans hx
          have hB : Below w.heap.size w (w7.setRow g5 #[.int .i64 b.x, .int .i64 b.y, .int .i64 b.z]) := below_row hB (Nat.le_of_lt (Nat.lt_of_succ_lt hge5.out))
          refine Tkc.doneC (by kernel_rfl) (fun hz => by have hz' : true = false := hz; cases hz') ?_
          try go_frame
          try (go_wp2_with fail)
          go_meet
          exact ⟨_, _, rfl, rfl, hx, hy, hB⟩
        · clear hi
          refine Tkc.opC (i := 4) rfl (by rfl) (fun K hK => ?_)
          refine wp_alloc_arr rfl ?_
          show K (Act.put _ (some 7) _) _
          refine hK _ _ ?_
          clear hK K
          try go_frame
          have h4 : (w4.alloc (.cells #[.int .i64 0, .int .i64 0, .int .i64 0] 39)).heap[w4.heap.size]? = some (.cells #[.int .i64 0, .int .i64 0, .int .i64 0] 39 (0, 0)) := heap_alloc_new _ _
          have hne : g5 ≠ w4.heap.size := Nat.ne_of_lt (Array.getElem?_eq_some_iff.1 h5).1
          have h5 : (w4.alloc (.cells #[.int .i64 0, .int .i64 0, .int .i64 0] 39)).heap[g5]? = some (.cells #[.int .i64 0, .int .i64 0, .int .i64 0] 39 (0, 0)) := (Below.heap_alloc _ _ _ (Array.getElem?_eq_some_iff.1 h5).1).trans h5
          have hC0 := hC.2.lt
          have hC : NBox (w4.alloc (.cells #[.int .i64 0, .int .i64 0, .int .i64 0] 39)) w.heap.size a ∧ NBox (w4.alloc (.cells #[.int .i64 0, .int .i64 0, .int .i64 0] 39)) (w.heap.size + 1) b := ⟨(Below.heap_alloc _ _ _ hC.1.lt).trans hC.1, (Below.heap_alloc _ _ _ hC.2.lt).trans hC.2⟩
          have hB : Below w.heap.size w (w4.alloc (.cells #[.int .i64 0, .int .i64 0, .int .i64 0] 39)) := hB.alloc hB.size _
          have hge4 : Hid (w.heap.size + 1 < w4.heap.size) := hC0
          clear hC0
          generalize w4.alloc (.cells #[.int .i64 0, .int .i64 0, .int .i64 0] 39) = w5 at *
          generalize w4.heap.size = g4 at *
          refine Tkc.onlyC (i := 3) rfl (by kernel_rfl) (fun _ => hC) (by rfl) (fun K hK => ?_)
          go_simp
          refine (am b _).mono ?_
          rintro e w6 ⟨rfl, hb⟩
          refine hK _ _ ?_
          clear hK K
          have hC : NBox w6 w.heap.size a ∧ NBox w6 (w.heap.size + 1) b := ⟨hC.1.below hb hC.1.lt, hC.2.below hb hC.2.lt⟩
          have h4 : w6.heap[g4]? = some (.cells #[.int .i64 0, .int .i64 0, .int .i64 0] 39 (0, 0)) := (hb.block _ (Array.getElem?_eq_some_iff.1 h4).1).trans h4
          have h5 : w6.heap[g5]? = some (.cells #[.int .i64 0, .int .i64 0, .int .i64 0] 39 (0, 0)) := (hb.block _ (Array.getElem?_eq_some_iff.1 h5).1).trans h5
          have hB : Below w.heap.size w w6 := hB.trans (hb.mono hB.size)
          clear hb
          refine Tkc.onlyC (i := 6) rfl (by kernel_rfl) (fun _ => hC) (by rfl) (fun K hK => ?_)
          refine wp_store_row 39 _ _ rfl _ #[.int .i64 a.x, .int .i64 a.y, .int .i64 a.z] rfl rfl _ _ h4 (arr_info _ rfl) rfl (need_one _ _ _) ?_
          show K (Act.put _ none _) _
          refine hK _ _ ?_
          clear hK K
          try go_frame
          have hx := setRow_heap _ g4 _ #[.int .i64 a.x, .int .i64 a.y, .int .i64 a.z] _ _ h4
          have h5 : (w6.setRow g4 #[.int .i64 a.x, .int .i64 a.y, .int .i64 a.z]).heap[g5]? = some (.cells #[.int .i64 0, .int .i64 0, .int .i64 0] 39 (0, 0)) := (setRow_other _ g4 g5 _ (fun e => hne e)).trans h5
          have hB : Below w.heap.size w (w6.setRow g4 #[.int .i64 a.x, .int .i64 a.y, .int .i64 a.z]) := below_row hB (Nat.le_of_lt (Nat.lt_of_succ_lt hge4.out))
          have hC : NBox (w6.setRow g4 #[.int .i64 a.x, .int .i64 a.y, .int .i64 a.z]) w.heap.size a ∧ NBox (w6.setRow g4 #[.int .i64 a.x, .int .i64 a.y, .int .i64 a.z]) (w.heap.size + 1) b := ⟨(setRow_other _ g4 w.heap.size _ (by have := hge4.out; omega)).trans hC.1, (setRow_other _ g4 (w.heap.size + 1) _ (by have := hge4.out; omega)).trans hC.2⟩
          generalize w6.setRow g4 #[.int .i64 a.x, .int .i64 a.y, .int .i64 a.z] = w7 at *
          refine Tkc.onlyC (i := 7) rfl (by kernel_rfl) (fun _ => hC) (by rfl) (fun K hK => ?_)
          refine wp_store_row 39 _ _ rfl _ #[.int .i64 b.x, .int .i64 b.y, .int .i64 b.z] rfl rfl _ _ h5 (arr_info _ rfl) rfl (need_one _ _ _) ?_
          show K (Act.put _ none _) _
          refine hK _ _ ?_
          clear hK K
          try go_frame
          have hy := setRow_heap _ g5 _ #[.int .i64 b.x, .int .i64 b.y, .int .i64 b.z] _ _ h5
          have hx := (setRow_other _ g5 g4 #[.int .i64 b.x, .int .i64 b.y, .int .i64 b.z] (fun e => hne e.symm)).trans hx
          have hB : Below w.heap.size w (w7.setRow g5 #[.int .i64 b.x, .int .i64 b.y, .int .i64 b.z]) := below_row hB (Nat.le_of_lt (Nat.lt_of_succ_lt hge5.out))
          refine Tkc.doneC (by kernel_rfl) (fun hz => by have hz' : true = false := hz; cases hz') ?_
          try go_frame
          try (go_wp2_with fail)
          go_meet
          exact ⟨_, _, rfl, rfl, hx, hy, hB⟩
    · clear hi
      refine Tkc.opC (i := 4) rfl (by rfl) (fun K hK => ?_)
      refine wp_alloc_arr rfl ?_
      show K (Act.put _ (some 7) _) _
      refine hK _ _ ?_
      clear hK K
      try go_frame
      have h4 : (w2.alloc (.cells #[.int .i64 0, .int .i64 0, .int .i64 0] 39)).heap[w2.heap.size]? = some (.cells #[.int .i64 0, .int .i64 0, .int .i64 0] 39 (0, 0)) := heap_alloc_new _ _
      have hC0 := hC.2.lt
      have hC : NBox (w2.alloc (.cells #[.int .i64 0, .int .i64 0, .int .i64 0] 39)) w.heap.size a ∧ NBox (w2.alloc (.cells #[.int .i64 0, .int .i64 0, .int .i64 0] 39)) (w.heap.size + 1) b := ⟨(Below.heap_alloc _ _ _ hC.1.lt).trans hC.1, (Below.heap_alloc _ _ _ hC.2.lt).trans hC.2⟩
      have hB : Below w.heap.size w (w2.alloc (.cells #[.int .i64 0, .int .i64 0, .int .i64 0] 39)) := hB.alloc hB.size _
      have hge4 : Hid (w.heap.size + 1 < w2.heap.size) := hC0
      clear hC0
      generalize w2.alloc (.cells #[.int .i64 0, .int .i64 0, .int .i64 0] 39) = w3 at *
      generalize w2.heap.size = g4 at *
      refine Tkc.manyC [1, 5] (by kernel_rfl) (by decide) (fun _ => hC) ?_
      intro i hi
      rcases (show i = 1 ∨ i = 5 by simpa using hi) with rfl | rfl
      · clear hi
        refine Tkc.opC (i := 1) rfl (by rfl) (fun K hK => ?_)
        go_simp
        refine (am a _).mono ?_
        rintro e w4 ⟨rfl, hb⟩
        refine hK _ _ ?_
        clear hK K
        have hC : NBox w4 w.heap.size a ∧ NBox w4 (w.heap.size + 1) b := ⟨hC.1.below hb hC.1.lt, hC.2.below hb hC.2.lt⟩
        have h4 : w4.heap[g4]? = some (.cells #[.int .i64 0, .int .i64 0, .int .i64 0] 39 (0, 0)) := (hb.block _ (Array.getElem?_eq_some_iff.1 h4).1).trans h4
        have hB : Below w.heap.size w w4 := hB.trans (hb.mono hB.size)
        clear hb
        refine Tkc.manyC [3, 5] (by kernel_rfl) (by decide) (fun _ => hC) ?_
        intro i hi
        rcases (show i = 3 ∨ i = 5 by simpa using hi) with rfl | rfl
        · clear hi
          refine Tkc.opC (i := 3) rfl (by rfl) (fun K hK => ?_)
          go_simp
          refine (am b _).mono ?_
          rintro e w5 ⟨rfl, hb⟩
          refine hK _ _ ?_
          clear hK K
          have hC : NBox w5 w.heap.size a ∧ NBox w5 (w.heap.size + 1) b := ⟨hC.1.below hb hC.1.lt, hC.2.below hb hC.2.lt⟩
          have h4 : w5.heap[g4]? = some (.cells #[.int .i64 0, .int .i64 0, .int .i64 0] 39 (0, 0)) := (hb.block _ (Array.getElem?_eq_some_iff.1 h4).1).trans h4
          have hB : Below w.heap.size w w5 := hB.trans (hb.mono hB.size)
          clear hb
          refine Tkc.onlyC (i := 5) rfl (by kernel_rfl) (fun _ => hC) (by rfl) (fun K hK => ?_)
          refine wp_alloc_arr rfl ?_
          show K (Act.put _ (some 8) _) _
          refine hK _ _ ?_
          clear hK K
          try go_frame
          have h5 : (w5.alloc (.cells #[.int .i64 0, .int .i64 0, .int .i64 0] 39)).heap[w5.heap.size]? = some (.cells #[.int .i64 0, .int .i64 0, .int .i64 0] 39 (0, 0)) := heap_alloc_new _ _
          have hne : g4 ≠ w5.heap.size := Nat.ne_of_lt (Array.getElem?_eq_some_iff.1 h4).1
          have h4 : (w5.alloc (.cells #[.int .i64 0, .int .i64 0, .int .i64 0] 39)).heap[g4]? = some (.cells #[.int .i64 0, .int .i64 0, .int .i64 0] 39 (0, 0)) := (Below.heap_alloc _ _ _ (Array.getElem?_eq_some_iff.1 h4).1).trans h4
          have hC0 := hC.2.lt
          have hC : NBox (w5.alloc (.cells #[.int .i64 0, .int .i64 0, .int .i64 0] 39)) w.heap.size a ∧ NBox (w5.alloc (.cells #[.int .i64 0, .int .i64 0, .int .i64 0] 39)) (w.heap.size + 1) b := ⟨(Below.heap_alloc _ _ _ hC.1.lt).trans hC.1, (Below.heap_alloc _ _ _ hC.2.lt).trans hC.2⟩
          have hB : Below w.heap.size w (w5.alloc (.cells #[.int .i64 0, .int .i64 0, .int .i64 0] 39)) := hB.alloc hB.size _
          have hge5 : Hid (w.heap.size + 1 < w5.heap.size) := hC0
          clear hC0
          generalize w5.alloc (.cells #[.int .i64 0, .int .i64 0, .int .i64 0] 39) = w6 at *
          generalize w5.heap.size = g5 at *
          refine Tkc.onlyC (i := 6) rfl (by kernel_rfl) (fun _ => hC) (by rfl) (fun K hK => ?_)
          refine wp_store_row 39 _ _ rfl _ #[.int .i64 a.x, .int .i64 a.y, .int .i64 a.z] rfl rfl _ _ h4 (arr_info _ rfl) rfl (need_one _ _ _) ?_
          show K (Act.put _ none _) _
          refine hK _ _ ?_
          clear hK K
          try go_frame
          have hx := setRow_heap _ g4 _ #[.int .i64 a.x, .int .i64 a.y, .int .i64 a.z] _ _ h4
          have h5 : (w6.setRow g4 #[.int .i64 a.x, .int .i64 a.y, .int .i64 a.z]).heap[g5]? = some (.cells #[.int .i64 0, .int .i64 0, .int .i64 0] 39 (0, 0)) := (setRow_other _ g4 g5 _ (fun e => hne e.symm)).trans h5
          have hB : Below w.heap.size w (w6.setRow g4 #[.int .i64 a.x, .int .i64 a.y, .int .i64 a.z]) := below_row hB (Nat.le_of_lt (Nat.lt_of_succ_lt hge4.out))
          have hC : NBox (w6.setRow g4 #[.int .i64 a.x, .int .i64 a.y, .int .i64 a.z]) w.heap.size a ∧ NBox (w6.setRow g4 #[.int .i64 a.x, .int .i64 a.y, .int .i64 a.z]) (w.heap.size + 1) b := ⟨(setRow_other _ g4 w.heap.size _ (by have := hge4.out; omega)).trans hC.1, (setRow_other _ g4 (w.heap.size + 1) _ (by have := hge4.out; omega)).trans hC.2⟩
          generalize w6.setRow g4 #[.int .i64 a.x, .int .i64 a.y, .int .i64 a.z] = w7 at *
          refine Tkc.onlyC (i := 7) rfl (by kernel_rfl) (fun _ => hC) (by rfl) (fun K hK => ?_)
          refine wp_store_row 39 _ _ rfl _ #[.int .i64 b.x, .int .i64 b.y, .int .i64 b.z] rfl rfl _ _ h5 (arr_info _ rfl) rfl (need_one _ _ _) ?_
          show K (Act.put _ none _) _
          refine hK _ _ ?_
          clear hK K
          try go_frame
          have hy := setRow_heap _ g5 _ #[.int .i64 b.x, .int .i64 b.y, .int .i64 b.z] _ _ h5
          have hx := (setRow_other _ g5 g4 #[.int .i64 b.x, .int .i64 b.y, .int .i64 b.z] (fun e => hne e)).trans hx
          have hB : Below w.heap.size w (w7.setRow g5 #[.int .i64 b.x, .int .i64 b.y, .int .i64 b.z]) := below_row hB (Nat.le_of_lt (Nat.lt_of_succ_lt hge5.out))
          refine Tkc.doneC (by kernel_rfl) (fun hz => by have hz' : true = false := hz; cases hz') ?_
          try go_frame
          try (go_wp2_with fail)
          go_meet
          exact ⟨_, _, rfl, rfl, hx, hy, hB⟩
        · clear hi
          refine Tkc.opC (i := 5) rfl (by rfl) (fun K hK => ?_)
          refine wp_alloc_arr rfl ?_
          show K (Act.put _ (some 8) _) _
          refine hK _ _ ?_
          clear hK K
          try go_frame
          have h5 : (w4.alloc (.cells #[.int .i64 0, .int .i64 0, .int .i64 0] 39)).heap[w4.heap.size]? = some (.cells #[.int .i64 0, .int .i64 0, .int .i64 0] 39 (0, 0)) := heap_alloc_new _ _
          have hne : g4 ≠ w4.heap.size := Nat.ne_of_lt (Array.getElem?_eq_some_iff.1 h4).1
          have h4 : (w4.alloc (.cells #[.int .i64 0, .int .i64 0, .int .i64 0] 39)).heap[g4]? = some (.cells #[.int .i64 0, .int .i64 0, .int .i64 0] 39 (0, 0)) := (Below.heap_alloc _ _ _ (Array.getElem?_eq_some_iff.1 h4).1).trans h4
          have hC0 := hC.2.lt
          have hC : NBox (w4.alloc (.cells #[.int .i64 0, .int .i64 0, .int .i64 0] 39)) w.heap.size a ∧ NBox (w4.alloc (.cells #[.int .i64 0, .int .i64 0, .int .i64 0] 39)) (w.heap.size + 1) b := ⟨(Below.heap_alloc _ _ _ hC.1.lt).trans hC.1, (Below.heap_alloc _ _ _ hC.2.lt).trans hC.2⟩
          have hB : Below w.heap.size w (w4.alloc (.cells #[.int .i64 0, .int .i64 0, .int .i64 0] 39)) := hB.alloc hB.size _
          have hge5 : Hid (w.heap.size + 1 < w4.heap.size) := hC0
          clear hC0
          generalize w4.alloc (.cells #[.int .i64 0, .int .i64 0, .int .i64 0] 39) = w5 at *
          generalize w4.heap.size = g5 at *
          refine Tkc.onlyC (i := 3) rfl (by kernel_rfl) (fun _ => hC) (by rfl) (fun K hK => ?_)
          go_simp
          refine (am b _).mono ?_
          rintro e w6 ⟨rfl, hb⟩
          refine hK _ _ ?_
          clear hK K
          have hC : NBox w6 w.heap.size a ∧ NBox w6 (w.heap.size + 1) b := ⟨hC.1.below hb hC.1.lt, hC.2.below hb hC.2.lt⟩
          have h4 : w6.heap[g4]? = some (.cells #[.int .i64 0, .int .i64 0, .int .i64 0] 39 (0, 0)) := (hb.block _ (Array.getElem?_eq_some_iff.1 h4).1).trans h4
          have h5 : w6.heap[g5]? = some (.cells #[.int .i64 0, .int .i64 0, .int .i64 0] 39 (0, 0)) := (hb.block _ (Array.getElem?_eq_some_iff.1 h5).1).trans h5
          have hB : Below w.heap.size w w6 := hB.trans (hb.mono hB.size)
          clear hb
          refine Tkc.onlyC (i := 6) rfl (by kernel_rfl) (fun _ => hC) (by rfl) (fun K hK => ?_)
          refine wp_store_row 39 _ _ rfl _ #[.int .i64 a.x, .int .i64 a.y, .int .i64 a.z] rfl rfl _ _ h4 (arr_info _ rfl) rfl (need_one _ _ _) ?_
          show K (Act.put _ none _) _
          refine hK _ _ ?_
          clear hK K
          try go_frame
          have hx := setRow_heap _ g4 _ #[.int .i64 a.x, .int .i64 a.y, .int .i64 a.z] _ _ h4
          have h5 : (w6.setRow g4 #[.int .i64 a.x, .int .i64 a.y, .int .i64 a.z]).heap[g5]? = some (.cells #[.int .i64 0, .int .i64 0, .int .i64 0] 39 (0, 0)) := (setRow_other _ g4 g5 _ (fun e => hne e.symm)).trans h5
          have hB : Below w.heap.size w (w6.setRow g4 #[.int .i64 a.x, .int .i64 a.y, .int .i64 a.z]) := below_row hB (Nat.le_of_lt (Nat.lt_of_succ_lt hge4.out))
          have hC : NBox (w6.setRow g4 #[.int .i64 a.x, .int .i64 a.y, .int .i64 a.z]) w.heap.size a ∧ NBox (w6.setRow g4 #[.int .i64 a.x, .int .i64 a.y, .int .i64 a.z]) (w.heap.size + 1) b := ⟨(setRow_other _ g4 w.heap.size _ (by have := hge4.out; omega)).trans hC.1, (setRow_other _ g4 (w.heap.size + 1) _ (by have := hge4.out; omega)).trans hC.2⟩
          generalize w6.setRow g4 #[.int .i64 a.x, .int .i64 a.y, .int .i64 a.z] = w7 at *
          refine Tkc.onlyC (i := 7) rfl (by kernel_rfl) (fun _ => hC) (by rfl) (fun K hK => ?_)
          refine wp_store_row 39 _ _ rfl _ #[.int .i64 b.x, .int .i64 b.y, .int .i64 b.z] rfl rfl _ _ h5 (arr_info _ rfl) rfl (need_one _ _ _) ?_
          show K (Act.put _ none _) _
          refine hK _ _ ?_
          clear hK K
          try go_frame
          have hy := setRow_heap _ g5 _ #[.int .i64 b.x, .int .i64 b.y, .int .i64 b.z] _ _ h5
          have hx := (setRow_other _ g5 g4 #[.int .i64 b.x, .int .i64 b.y, .int .i64 b.z] (fun e => hne e)).trans hx
          have hB : Below w.heap.size w (w7.setRow g5 #[.int .i64 b.x, .int .i64 b.y, .int .i64 b.z]) := below_row hB (Nat.le_of_lt (Nat.lt_of_succ_lt hge5.out))
          refine Tkc.doneC (by kernel_rfl) (fun hz => by have hz' : true = false := hz; cases hz') ?_
          try go_frame
          try (go_wp2_with fail)
          go_meet
          exact ⟨_, _, rfl, rfl, hx, hy, hB⟩
      · clear hi
        refine Tkc.opC (i := 5) rfl (by rfl) (fun K hK => ?_)
        refine wp_alloc_arr rfl ?_
        show K (Act.put _ (some 8) _) _
        refine hK _ _ ?_
        clear hK K
        try go_frame
        have h5 : (w3.alloc (.cells #[.int .i64 0, .int .i64 0, .int .i64 0] 39)).heap[w3.heap.size]? = some (.cells #[.int .i64 0, .int .i64 0, .int .i64 0] 39 (0, 0)) := heap_alloc_new _ _
        have hne : g4 ≠ w3.heap.size := Nat.ne_of_lt (Array.getElem?_eq_some_iff.1 h4).1
        have h4 : (w3.alloc (.cells #[.int .i64 0, .int .i64 0, .int .i64 0] 39)).heap[g4]? = some (.cells #[.int .i64 0, .int .i64 0, .int .i64 0] 39 (0, 0)) := (Below.heap_alloc _ _ _ (Array.getElem?_eq_some_iff.1 h4).1).trans h4
        have hC0 := hC.2.lt
        have hC : NBox (w3.alloc (.cells #[.int .i64 0, .int .i64 0, .int .i64 0] 39)) w.heap.size a ∧ NBox (w3.alloc (.cells #[.int .i64 0, .int .i64 0, .int .i64 0] 39)) (w.heap.size + 1) b := ⟨(Below.heap_alloc _ _ _ hC.1.lt).trans hC.1, (Below.heap_alloc _ _ _ hC.2.lt).trans hC.2⟩
        have hB : Below w.heap.size w (w3.alloc (.cells #[.int .i64 0, .int .i64 0, .int .i64 0] 39)) := hB.alloc hB.size _
        have hge5 : Hid (w.heap.size + 1 < w3.heap.size) := hC0
        clear hC0
        generalize w3.alloc (.cells #[.int .i64 0, .int .i64 0, .int .i64 0] 39) = w4 at *
        generalize w3.heap.size = g5 at *
        refine Tkc.onlyC (i := 1) rfl (by kernel_rfl) (fun _ => hC) (by rfl) (fun K hK => ?_)
        go_simp
        refine (am a _).mono ?_
        rintro e w5 ⟨rfl, hb⟩
        refine hK _ _ ?_
        clear hK K
        have hC : NBox w5 w.heap.size a ∧ NBox w5 (w.heap.size + 1) b := ⟨hC.1.below hb hC.1.lt, hC.2.below hb hC.2.lt⟩
        have h4 : w5.heap[g4]? = some (.cells #[.int .i64 0, .int .i64 0, .int .i64 0] 39 (0, 0)) := (hb.block _ (Array.getElem?_eq_some_iff.1 h4).1).trans h4
        have h5 : w5.heap[g5]? = some (.cells #[.int .i64 0, .int .i64 0, .int .i64 0] 39 (0, 0)) := (hb.block _ (Array.getElem?_eq_some_iff.1 h5).1).trans h5
        have hB : Below w.heap.size w w5 := hB.trans (hb.mono hB.size)
        clear hb
        refine Tkc.onlyC (i := 3) rfl (by kernel_rfl) (fun _ => hC) (by rfl) (fun K hK => ?_)
        go_simp
        refine (am b _).mono ?_
        rintro e w6 ⟨rfl, hb⟩
        refine hK _ _ ?_
        clear hK K
        have hC : NBox w6 w.heap.size a ∧ NBox w6 (w.heap.size + 1) b := ⟨hC.1.below hb hC.1.lt, hC.2.below hb hC.2.lt⟩
        have h4 : w6.heap[g4]? = some (.cells #[.int .i64 0, .int .i64 0, .int .i64 0] 39 (0, 0)) := (hb.block _ (Array.getElem?_eq_some_iff.1 h4).1).trans h4
        have h5 : w6.heap[g5]? = some (.cells #[.int .i64 0, .int .i64 0, .int .i64 0] 39 (0, 0)) := (hb.block _ (Array.getElem?_eq_some_iff.1 h5).1).trans h5
        have hB : Below w.heap.size w w6 := hB.trans (hb.mono hB.size)
        clear hb
        refine Tkc.onlyC (i := 6) rfl (by kernel_rfl) (fun _ => hC) (by rfl) (fun K hK => ?_)
        refine wp_store_row 39 _ _ rfl _ #[.int .i64 a.x, .int .i64 a.y, .int .i64 a.z] rfl rfl _ _ h4 (arr_info _ rfl) rfl (need_one _ _ _) ?_
        show K (Act.put _ none _) _
        refine hK _ _ ?_
        clear hK K
        try go_frame
        have hx := setRow_heap _ g4 _ #[.int .i64 a.x, .int .i64 a.y, .int .i64 a.z] _ _ h4
        have h5 : (w6.setRow g4 #[.int .i64 a.x, .int .i64 a.y, .int .i64 a.z]).heap[g5]? = some (.cells #[.int .i64 0, .int .i64 0, .int .i64 0] 39 (0, 0)) := (setRow_other _ g4 g5 _ (fun e => hne e.symm)).trans h5
        have hB : Below w.heap.size w (w6.setRow g4 #[.int .i64 a.x, .int .i64 a.y, .int .i64 a.z]) := below_row hB (Nat.le_of_lt (Nat.lt_of_succ_lt hge4.out))
        have hC : NBox (w6.setRow g4 #[.int .i64 a.x, .int .i64 a.y, .int .i64 a.z]) w.heap.size a ∧ NBox (w6.setRow g4 #[.int .i64 a.x, .int .i64 a.y, .int .i64 a.z]) (w.heap.size + 1) b := ⟨(setRow_other _ g4 w.heap.size _ (by have := hge4.out; omega)).trans hC.1, (setRow_other _ g4 (w.heap.size + 1) _ (by have := hge4.out; omega)).trans hC.2⟩
        generalize w6.setRow g4 #[.int .i64 a.x, .int .i64 a.y, .int .i64 a.z] = w7 at *
        refine Tkc.onlyC (i := 7) rfl (by kernel_rfl) (fun _ => hC) (by rfl) (fun K hK => ?_)
        refine wp_store_row 39 _ _ rfl _ #[.int .i64 b.x, .int .i64 b.y, .int .i64 b.z] rfl rfl _ _ h5 (arr_info _ rfl) rfl (need_one _ _ _) ?_
        show K (Act.put _ none _) _
        refine hK _ _ ?_
        clear hK K
        try go_frame
        have hy := setRow_heap _ g5 _ #[.int .i64 b.x, .int .i64 b.y, .int .i64 b.z] _ _ h5
        have hx := (setRow_other _ g5 g4 #[.int .i64 b.x, .int .i64 b.y, .int .i64 b.z] (fun e => hne e)).trans hx
        have hB : Below w.heap.size w (w7.setRow g5 #[.int .i64 b.x, .int .i64 b.y, .int .i64 b.z]) := below_row hB (Nat.le_of_lt (Nat.lt_of_succ_lt hge5.out))
        refine Tkc.doneC (by kernel_rfl) (fun hz => by have hz' : true = false := hz; cases hz') ?_
        try go_frame
        try (go_wp2_with fail)
        go_meet
        exact ⟨_, _, rfl, rfl, hx, hy, hB⟩
    · clear hi
      refine Tkc.opC (i := 5) rfl (by rfl) (fun K hK => ?_)
      refine wp_alloc_arr rfl ?_
      show K (Act.put _ (some 8) _) _
      refine hK _ _ ?_
      clear hK K
      try go_frame
      have h5 : (w2.alloc (.cells #[.int .i64 0, .int .i64 0, .int .i64 0] 39)).heap[w2.heap.size]? = some (.cells #[.int .i64 0, .int .i64 0, .int .i64 0] 39 (0, 0)) := heap_alloc_new _ _
      have hC0 := hC.2.lt
      have hC : NBox (w2.alloc (.cells #[.int .i64 0, .int .i64 0, .int .i64 0] 39)) w.heap.size a ∧ NBox (w2.alloc (.cells #[.int .i64 0, .int .i64 0, .int .i64 0] 39)) (w.heap.size + 1) b := ⟨(Below.heap_alloc _ _ _ hC.1.lt).trans hC.1, (Below.heap_alloc _ _ _ hC.2.lt).trans hC.2⟩
      have hB : Below w.heap.size w (w2.alloc (.cells #[.int .i64 0, .int .i64 0, .int .i64 0] 39)) := hB.alloc hB.size _
      have hge5 : Hid (w.heap.size + 1 < w2.heap.size) := hC0
      clear hC0
      generalize w2.alloc (.cells #[.int .i64 0, .int .i64 0, .int .i64 0] 39) = w3 at *
      generalize w2.heap.size = g5 at *
      refine Tkc.manyC [1, 4] (by kernel_rfl) (by decide) (fun _ => hC) ?_
      intro i hi
      rcases (show i = 1 ∨ i = 4 by simpa using hi) with rfl | rfl
      · clear hi
        refine Tkc.opC (i := 1) rfl (by rfl) (fun K hK => ?_)
        go_simp
        refine (am a _).mono ?_
        rintro e w4 ⟨rfl, hb⟩
        refine hK _ _ ?_
        clear hK K
        have hC : NBox w4 w.heap.size a ∧ NBox w4 (w.heap.size + 1) b := ⟨hC.1.below hb hC.1.lt, hC.2.below hb hC.2.lt⟩
        have h5 : w4.heap[g5]? = some (.cells #[.int .i64 0, .int .i64 0, .int .i64 0] 39 (0, 0)) := (hb.block _ (Array.getElem?_eq_some_iff.1 h5).1).trans h5
        have hB : Below w.heap.size w w4 := hB.trans (hb.mono hB.size)
        clear hb
        refine Tkc.manyC [3, 4] (by kernel_rfl) (by decide) (fun _ => hC) ?_
        intro i hi
        rcases (show i = 3 ∨ i = 4 by simpa using hi) with rfl | rfl
        · clear hi
          refine Tkc.opC (i := 3) rfl (by rfl) (fun K hK => ?_)
          go_simp
          refine (am b _).mono ?_
          rintro e w5 ⟨rfl, hb⟩
          refine hK _ _ ?_
          clear hK K
          have hC : NBox w5 w.heap.size a ∧ NBox w5 (w.heap.size + 1) b := ⟨hC.1.below hb hC.1.lt, hC.2.below hb hC.2.lt⟩
          have h5 : w5.heap[g5]? = some (.cells #[.int .i64 0, .int .i64 0, .int .i64 0] 39 (0, 0)) := (hb.block _ (Array.getElem?_eq_some_iff.1 h5).1).trans h5
          have hB : Below w.heap.size w w5 := hB.trans (hb.mono hB.size)
          clear hb
          refine Tkc.onlyC (i := 4) rfl (by kernel_rfl) (fun _ => hC) (by rfl) (fun K hK => ?_)
          refine wp_alloc_arr rfl ?_
          show K (Act.put _ (some 7) _) _
          refine hK _ _ ?_
          clear hK K
          try go_frame
          have h4 : (w5.alloc (.cells #[.int .i64 0, .int .i64 0, .int .i64 0] 39)).heap[w5.heap.size]? = some (.cells #[.int .i64 0, .int .i64 0, .int .i64 0] 39 (0, 0)) := heap_alloc_new _ _
          have hne : g5 ≠ w5.heap.size := Nat.ne_of_lt (Array.getElem?_eq_some_iff.1 h5).1
          have h5 : (w5.alloc (.cells #[.int .i64 0, .int .i64 0, .int .i64 0] 39)).heap[g5]? = some (.cells #[.int .i64 0, .int .i64 0, .int .i64 0] 39 (0, 0)) := (Below.heap_alloc _ _ _ (Array.getElem?_eq_some_iff.1 h5).1).trans h5
          have hC0 := hC.2.lt
          have hC : NBox (w5.alloc (.cells #[.int .i64 0, .int .i64 0, .int .i64 0] 39)) w.heap.size a ∧ NBox (w5.alloc (.cells #[.int .i64 0, .int .i64 0, .int .i64 0] 39)) (w.heap.size + 1) b := ⟨(Below.heap_alloc _ _ _ hC.1.lt).trans hC.1, (Below.heap_alloc _ _ _ hC.2.lt).trans hC.2⟩
          have hB : Below w.heap.size w (w5.alloc (.cells #[.int .i64 0, .int .i64 0, .int .i64 0] 39)) := hB.alloc hB.size _
          have hge4 : Hid (w.heap.size + 1 < w5.heap.size) := hC0
          clear hC0
          generalize w5.alloc (.cells #[.int .i64 0, .int .i64 0, .int .i64 0] 39) = w6 at *
          generalize w5.heap.size = g4 at *
          refine Tkc.onlyC (i := 6) rfl (by kernel_rfl) (fun _ => hC) (by rfl) (fun K hK => ?_)
          refine wp_store_row 39 _ _ rfl _ #[.int .i64 a.x, .int .i64 a.y, .int .i64 a.z] rfl rfl _ _ h4 (arr_info _ rfl) rfl (need_one _ _ _) ?_
          show K (Act.put _ none _) _
          refine hK _ _ ?_
          clear hK K
          try go_frame
          have hx := setRow_heap _ g4 _ #[.int .i64 a.x, .int .i64 a.y, .int .i64 a.z] _ _ h4
          have h5 : (w6.setRow g4 #[.int .i64 a.x, .int .i64 a.y, .int .i64 a.z]).heap[g5]? = some (.cells #[.int .i64 0, .int .i64 0, .int .i64 0] 39 (0, 0)) := (setRow_other _ g4 g5 _ (fun e => hne e)).trans h5
          have hB : Below w.heap.size w (w6.setRow g4 #[.int .i64 a.x, .int .i64 a.y, .int .i64 a.z]) := below_row hB (Nat.le_of_lt (Nat.lt_of_succ_lt hge4.out))
          have hC : NBox (w6.setRow g4 #[.int .i64 a.x, .int .i64 a.y, .int .i64 a.z]) w.heap.size a ∧ NBox (w6.setRow g4 #[.int .i64 a.x, .int .i64 a.y, .int .i64 a.z]) (w.heap.size + 1) b := ⟨(setRow_other _ g4 w.heap.size _ (by have := hge4.out; omega)).trans hC.1, (setRow_other _ g4 (w.heap.size + 1) _ (by have := hge4.out; omega)).trans hC.2⟩
          generalize w6.setRow g4 #[.int .i64 a.x, .int .i64 a.y, .int .i64 a.z] = w7 at *
          refine Tkc.onlyC (i := 7) rfl (by kernel_rfl) (fun _ => hC) (by rfl) (fun K hK => ?_)
          refine wp_store_row 39 _ _ rfl _ #[.int .i64 b.x, .int .i64 b.y, .int .i64 b.z] rfl rfl _ _ h5 (arr_info _ rfl) rfl (need_one _ _ _) ?_
          show K (Act.put _ none _) _
          refine hK _ _ ?_
          clear hK K
          try go_frame
          have hy := setRow_heap _ g5 _ #[.int .i64 b.x, .int .i64 b.y, .int .i64 b.z] _ _ h5
          have hx := (setRow_other _ g5 g4 #[.int .i64 b.x, .int .i64 b.y, .int .i64 b.z] (fun e => hne e.symm)).trans hx
          have hB : Below w.heap.size w (w7.setRow g5 #[.int .i64 b.x, .int .i64 b.y, .int .i64 b.z]) := below_row hB (Nat.le_of_lt (Nat.lt_of_succ_lt hge5.out))
          refine Tkc.doneC (by kernel_rfl) (fun hz => by have hz' : true = false := hz; cases hz') ?_
          try go_frame
          try (go_wp2_with fail)
          go_meet
          exact ⟨_, _, rfl, rfl, hx, hy, hB⟩
        · clear hi
          refine Tkc.opC (i := 4) rfl (by rfl) (fun K hK => ?_)
          refine wp_alloc_arr rfl ?_
          show K (Act.put _ (some 7) _) _
          refine hK _ _ ?_
          clear hK K
          try go_frame
          have h4 : (w4.alloc (.cells #[.int .i64 0, .int .i64 0, .int .i64 0] 39)).heap[w4.heap.size]? = some (.cells #[.int .i64 0, .int .i64 0, .int .i64 0] 39 (0, 0)) := heap_alloc_new _ _
          have hne : g5 ≠ w4.heap.size := Nat.ne_of_lt (Array.getElem?_eq_some_iff.1 h5).1
          have h5 : (w4.alloc (.cells #[.int .i64 0, .int .i64 0, .int .i64 0] 39)).heap[g5]? = some (.cells #[.int .i64 0, .int .i64 0, .int .i64 0] 39 (0, 0)) := (Below.heap_alloc _ _ _ (Array.getElem?_eq_some_iff.1 h5).1).trans h5
          have hC0 := hC.2.lt
          have hC : NBox (w4.alloc (.cells #[.int .i64 0, .int .i64 0, .int .i64 0] 39)) w.heap.size a ∧ NBox (w4.alloc (.cells #[.int .i64 0, .int .i64 0, .int .i64 0] 39)) (w.heap.size + 1) b := ⟨(Below.heap_alloc _ _ _ hC.1.lt).trans hC.1, (Below.heap_alloc _ _ _ hC.2.lt).trans hC.2⟩
          have hB : Below w.heap.size w (w4.alloc (.cells #[.int .i64 0, .int .i64 0, .int .i64 0] 39)) := hB.alloc hB.size _
          have hge4 : Hid (w.heap.size + 1 < w4.heap.size) := hC0
          clear hC0
          generalize w4.alloc (.cells #[.int .i64 0, .int .i64 0, .int .i64 0] 39) = w5 at *
          generalize w4.heap.size = g4 at *
          refine Tkc.onlyC (i := 3) rfl (by kernel_rfl) (fun _ => hC) (by rfl) (fun K hK => ?_)
          go_simp
          refine (am b _).mono ?_
          rintro e w6 ⟨rfl, hb⟩
          refine hK _ _ ?_
          clear hK K
          have hC : NBox w6 w.heap.size a ∧ NBox w6 (w.heap.size + 1) b := ⟨hC.1.below hb hC.1.lt, hC.2.below hb hC.2.lt⟩
          have h4 : w6.heap[g4]? = some (.cells #[.int .i64 0, .int .i64 0, .int .i64 0] 39 (0, 0)) := (hb.block _ (Array.getElem?_eq_some_iff.1 h4).1).trans h4
          have h5 : w6.heap[g5]? = some (.cells #[.int .i64 0, .int .i64 0, .int .i64 0] 39 (0, 0)) := (hb.block _ (Array.getElem?_eq_some_iff.1 h5).1).trans h5
          have hB : Below w.heap.size w w6 := hB.trans (hb.mono hB.size)
          clear hb
          refine Tkc.onlyC (i := 6) rfl (by kernel_rfl) (fun _ => hC) (by rfl) (fun K hK => ?_)
          refine wp_store_row 39 _ _ rfl _ #[.int .i64 a.x, .int .i64 a.y, .int .i64 a.z] rfl rfl _ _ h4 (arr_info _ rfl) rfl (need_one _ _ _) ?_
          show K (Act.put _ none _) _
          refine hK _ _ ?_
          clear hK K
          try go_frame
          have hx := setRow_heap _ g4 _ #[.int .i64 a.x, .int .i64 a.y, .int .i64 a.z] _ _ h4
          have h5 : (w6.setRow g4 #[.int .i64 a.x, .int .i64 a.y, .int .i64 a.z]).heap[g5]? = some (.cells #[.int .i64 0, .int .i64 0, .int .i64 0] 39 (0, 0)) := (setRow_other _ g4 g5 _ (fun e => hne e)).trans h5
          have hB : Below w.heap.size w (w6.setRow g4 #[.int .i64 a.x, .int .i64 a.y, .int .i64 a.z]) := below_row hB (Nat.le_of_lt (Nat.lt_of_succ_lt hge4.out))
          have hC : NBox (w6.setRow g4 #[.int .i64 a.x, .int .i64 a.y, .int .i64 a.z]) w.heap.size a ∧ NBox (w6.setRow g4 #[.int .i64 a.x, .int .i64 a.y, .int .i64 a.z]) (w.heap.size + 1) b := ⟨(setRow_other _ g4 w.heap.size _ (by have := hge4.out; omega)).trans hC.1, (setRow_other _ g4 (w.heap.size + 1) _ (by have := hge4.out; omega)).trans hC.2⟩
          generalize w6.setRow g4 #[.int .i64 a.x, .int .i64 a.y, .int .i64 a.z] = w7 at *
          refine Tkc.onlyC (i := 7) rfl (by kernel_rfl) (fun _ => hC) (by rfl) (fun K hK => ?_)
          refine wp_store_row 39 _ _ rfl _ #[.int .i64 b.x, .int .i64 b.y, .int .i64 b.z] rfl rfl _ _ h5 (arr_info _ rfl) rfl (need_one _ _ _) ?_
          show K (Act.put _ none _) _
          refine hK _ _ ?_
          clear hK K
          try go_frame
          have hy := setRow_heap _ g5 _ #[.int .i64 b.x, .int .i64 b.y, .int .i64 b.z] _ _ h5
          have hx := (setRow_other _ g5 g4 #[.int .i64 b.x, .int .i64 b.y, .int .i64 b.z] (fun e => hne e.symm)).trans hx
          have hB : Below w.heap.size w (w7.setRow g5 #[.int .i64 b.x, .int .i64 b.y, .int .i64 b.z]) := below_row hB (Nat.le_of_lt (Nat.lt_of_succ_lt hge5.out))
          refine Tkc.doneC (by kernel_rfl) (fun hz => by have hz' : true = false := hz; cases hz') ?_
          try go_frame
          try (go_wp2_with fail)
          go_meet
          exact ⟨_, _, rfl, rfl, hx, hy, hB⟩
      · clear hi
        refine Tkc.opC (i := 4) rfl (by rfl) (fun K hK => ?_)
        refine wp_alloc_arr rfl ?_
        show K (Act.put _ (some 7) _) _
        refine hK _ _ ?_
        clear hK K
        try go_frame
        have h4 : (w3.alloc (.cells #[.int .i64 0, .int .i64 0, .int .i64 0] 39)).heap[w3.heap.size]? = some (.cells #[.int .i64 0, .int .i64 0, .int .i64 0] 39 (0, 0)) := heap_alloc_new _ _
        have hne : g5 ≠ w3.heap.size := Nat.ne_of_lt (Array.getElem?_eq_some_iff.1 h5).1
        have h5 : (w3.alloc (.cells #[.int .i64 0, .int .i64 0, .int .i64 0] 39)).heap[g5]? = some (.cells #[.int .i64 0, .int .i64 0, .int .i64 0] 39 (0, 0)) := (Below.heap_alloc _ _ _ (Array.getElem?_eq_some_iff.1 h5).1).trans h5
        have hC0 := hC.2.lt
        have hC : NBox (w3.alloc (.cells #[.int .i64 0, .int .i64 0, .int .i64 0] 39)) w.heap.size a ∧ NBox (w3.alloc (.cells #[.int .i64 0, .int .i64 0, .int .i64 0] 39)) (w.heap.size + 1) b := ⟨(Below.heap_alloc _ _ _ hC.1.lt).trans hC.1, (Below.heap_alloc _ _ _ hC.2.lt).trans hC.2⟩
        have hB : Below w.heap.size w (w3.alloc (.cells #[.int .i64 0, .int .i64 0, .int .i64 0] 39)) := hB.alloc hB.size _
        have hge4 : Hid (w.heap.size + 1 < w3.heap.size) := hC0
        clear hC0
        generalize w3.alloc (.cells #[.int .i64 0, .int .i64 0, .int .i64 0] 39) = w4 at *
        generalize w3.heap.size = g4 at *
        refine Tkc.onlyC (i := 1) rfl (by kernel_rfl) (fun _ => hC) (by rfl) (fun K hK => ?_)
        go_simp
        refine (am a _).mono ?_
        rintro e w5 ⟨rfl, hb⟩
        refine hK _ _ ?_
        clear hK K
        have hC : NBox w5 w.heap.size a ∧ NBox w5 (w.heap.size + 1) b := ⟨hC.1.below hb hC.1.lt, hC.2.below hb hC.2.lt⟩
        have h4 : w5.heap[g4]? = some (.cells #[.int .i64 0, .int .i64 0, .int .i64 0] 39 (0, 0)) := (hb.block _ (Array.getElem?_eq_some_iff.1 h4).1).trans h4
        have h5 : w5.heap[g5]? = some (.cells #[.int .i64 0, .int .i64 0, .int .i64 0] 39 (0, 0)) := (hb.block _ (Array.getElem?_eq_some_iff.1 h5).1).trans h5
        have hB : Below w.heap.size w w5 := hB.trans (hb.mono hB.size)
        clear hb
        refine Tkc.onlyC (i := 3) rfl (by kernel_rfl) (fun _ => hC) (by rfl) (fun K hK => ?_)
        go_simp
        refine (am b _).mono ?_
        rintro e w6 ⟨rfl, hb⟩
        refine hK _ _ ?_
        clear hK K
        have hC : NBox w6 w.heap.size a ∧ NBox w6 (w.heap.size + 1) b := ⟨hC.1.below hb hC.1.lt, hC.2.below hb hC.2.lt⟩
        have h4 : w6.heap[g4]? = some (.cells #[.int .i64 0, .int .i64 0, .int .i64 0] 39 (0, 0)) := (hb.block _ (Array.getElem?_eq_some_iff.1 h4).1).trans h4
        have h5 : w6.heap[g5]? = some (.cells #[.int .i64 0, .int .i64 0, .int .i64 0] 39 (0, 0)) := (hb.block _ (Array.getElem?_eq_some_iff.1 h5).1).trans h5
        have hB : Below w.heap.size w w6 := hB.trans (hb.mono hB.size)
        clear hb
        refine Tkc.onlyC (i := 6) rfl (by kernel_rfl) (fun _ => hC) (by rfl) (fun K hK => ?_)
        refine wp_store_row 39 _ _ rfl _ #[.int .i64 a.x, .int .i64 a.y, .int .i64 a.z] rfl rfl _ _ h4 (arr_info _ rfl) rfl (need_one _ _ _) ?_
        show K (Act.put _ none _) _
        refine hK _ _ ?_
        clear hK K
        try go_frame
        have hx := setRow_heap _ g4 _ #[.int .i64 a.x, .int .i64 a.y, .int .i64 a.z] _ _ h4
        have h5 : (w6.setRow g4 #[.int .i64 a.x, .int .i64 a.y, .int .i64 a.z]).heap[g5]? = some (.cells #[.int .i64 0, .int .i64 0, .int .i64 0] 39 (0, 0)) := (setRow_other _ g4 g5 _ (fun e => hne e)).trans h5
        have hB : Below w.heap.size w (w6.setRow g4 #[.int .i64 a.x, .int .i64 a.y, .int .i64 a.z]) := below_row hB (Nat.le_of_lt (Nat.lt_of_succ_lt hge4.out))
        have hC : NBox (w6.setRow g4 #[.int .i64 a.x, .int .i64 a.y, .int .i64 a.z]) w.heap.size a ∧ NBox (w6.setRow g4 #[.int .i64 a.x, .int .i64 a.y, .int .i64 a.z]) (w.heap.size + 1) b := ⟨(setRow_other _ g4 w.heap.size _ (by have := hge4.out; omega)).trans hC.1, (setRow_other _ g4 (w.heap.size + 1) _ (by have := hge4.out; omega)).trans hC.2⟩
        generalize w6.setRow g4 #[.int .i64 a.x, .int .i64 a.y, .int .i64 a.z] = w7 at *
        refine Tkc.onlyC (i := 7) rfl (by kernel_rfl) (fun _ => hC) (by rfl) (fun K hK => ?_)
        refine wp_store_row 39 _ _ rfl _ #[.int .i64 b.x, .int .i64 b.y, .int .i64 b.z] rfl rfl _ _ h5 (arr_info _ rfl) rfl (need_one _ _ _) ?_
        show K (Act.put _ none _) _
        refine hK _ _ ?_
        clear hK K
        try go_frame
        have hy := setRow_heap _ g5 _ #[.int .i64 b.x, .int .i64 b.y, .int .i64 b.z] _ _ h5
        have hx := (setRow_other _ g5 g4 #[.int .i64 b.x, .int .i64 b.y, .int .i64 b.z] (fun e => hne e.symm)).trans hx
        have hB : Below w.heap.size w (w7.setRow g5 #[.int .i64 b.x, .int .i64 b.y, .int .i64 b.z]) := below_row hB (Nat.le_of_lt (Nat.lt_of_succ_lt hge5.out))
        refine Tkc.doneC (by kernel_rfl) (fun hz => by have hz' : true = false := hz; cases hz') ?_
        try go_frame
        try (go_wp2_with fail)
        go_meet
        exact ⟨_, _, rfl, rfl, hx, hy, hB⟩
  case rest =>
    obtain ⟨g, h, rfl, rfl, hx, hy, hB⟩ := hcut
    have hxH : Hid (wc.heap[g]? = some (.cells #[.int .i64 a.x, .int .i64 a.y, .int .i64 a.z] 39 (0, 0))) := hx
    have hyH : Hid (wc.heap[h]? = some (.cells #[.int .i64 b.x, .int .i64 b.y, .int .i64 b.z] 39 (0, 0))) := hy
    have hBH : Hid (Below w.heap.size w wc) := hB
    clear hB hx hy h1 h2 am
    go_wp2
    go_loopw [14] (fun iv wr => (iv = .int .i64 0 ∨ iv = .int .i64 1 ∧ Hid (t2 a.x b.x n = false) ∨ iv = .int .i64 2 ∧ Hid (t2 a.x b.x n = false ∧ t2 a.y b.y n = false) ∨ iv = .int .i64 3 ∧ Hid (t2 a.x b.x n = false ∧ t2 a.y b.y n = false ∧ t2 a.z b.z n = false)) ∧ Below wc.heap.size wc wr)
      (fun iv _ => 3 - (intOf iv).toNat)
    case atStart => exact ⟨Or.inl rfl, Below.refl _ _⟩
    case round =>
      obtain ⟨hor, hbl⟩ := hrel
      have hxr := (hbl.block g (Array.getElem?_eq_some_iff.1 hxH.out).1).trans hxH.out
      have hyr := (hbl.block h (Array.getElem?_eq_some_iff.1 hyH.out).1).trans hyH.out
      have hblH : Hid (Below wc.heap.size wc wr) := hbl
      have hBr : Hid (Below w.heap.size w wr) := hBH.out.trans (hbl.mono hBH.out.size)
      clear hbl
      rcases hor with rfl | ⟨rfl, hp⟩ | ⟨rfl, hp⟩ | ⟨rfl, hp⟩
      · have z0 : wr.cell? ⟨g, 0, none⟩ = some (.int .i64 a.x) := (cell_of_row _ _ 0 _ _ _ hxr).trans rfl
        have u0 : wr.cell? ⟨h, 0, none⟩ = some (.int .i64 b.x) := (cell_of_row _ _ 0 _ _ _ hyr).trans rfl
        clear hxr hyr
        by_cases c1 : 0 < a.x
        · have hd1 : decide (0 < a.x) = true := by simpa using c1
          have hnz : ¬ a.x = 0 := by omega
          have hq0 : 0 ≤ b.x / a.x := Int.ediv_nonneg (by assumption) (by assumption)
          by_cases c2 : b.x / a.x < n
          · have hT : Hid (t2 a.x b.x n = true) := decide_eq_true ⟨c1, c2⟩
            have e : Hid (tmB a b n = false) := Bool.and_eq_false_iff.2 (Or.inl (by rw [hT.out]; rfl))
            go_wp2
            go_quiet (fail)
            go_wp2
            go_ret
            exact ⟨by rw [e.out]; first | rfl | simp, drewN_below hBr.out nq⟩
          · have hf : Hid (t2 a.x b.x n = false) := decide_eq_false fun h => c2 h.2
            go_wp2
            go_quiet (fail)
            go_wp2
            refine ⟨⟨Or.inr (Or.inl ⟨by first | rfl | simp, hf.out⟩), drewN_below hblH.out nq⟩, ?_⟩
            simp [intOf]
        · have hd1 : decide (0 < a.x) = false := by simpa using c1
          have hf : Hid (t2 a.x b.x n = false) := decide_eq_false fun h => c1 h.1
          go_wp2
          go_quiet (fail)
          go_wp2
          refine ⟨⟨Or.inr (Or.inl ⟨by first | rfl | simp, hf.out⟩), drewN_below hblH.out nq⟩, ?_⟩
          simp [intOf]
      · have z0 : wr.cell? ⟨g, 1, none⟩ = some (.int .i64 a.y) := (cell_of_row _ _ 1 _ _ _ hxr).trans rfl
        have u0 : wr.cell? ⟨h, 1, none⟩ = some (.int .i64 b.y) := (cell_of_row _ _ 1 _ _ _ hyr).trans rfl
        clear hxr hyr
        by_cases c1 : 0 < a.y
        · have hd1 : decide (0 < a.y) = true := by simpa using c1
          have hnz : ¬ a.y = 0 := by omega
          have hq0 : 0 ≤ b.y / a.y := Int.ediv_nonneg (by assumption) (by assumption)
          by_cases c2 : b.y / a.y < n
          · have hT : Hid (t2 a.y b.y n = true) := decide_eq_true ⟨c1, c2⟩
            have e : Hid (tmB a b n = false) := Bool.and_eq_false_iff.2 (Or.inr (Bool.and_eq_false_iff.2 (Or.inl (by rw [hT.out]; rfl))))
            go_wp2
            go_quiet (fail)
            go_wp2
            go_ret
            exact ⟨by rw [e.out]; first | rfl | simp, drewN_below hBr.out nq⟩
          · have hf : Hid (t2 a.y b.y n = false) := decide_eq_false fun h => c2 h.2
            go_wp2
            go_quiet (fail)
            go_wp2
            refine ⟨⟨Or.inr (Or.inr (Or.inl ⟨by first | rfl | simp, ⟨hp.out, hf.out⟩⟩)), drewN_below hblH.out nq⟩, ?_⟩
            simp [intOf]
        · have hd1 : decide (0 < a.y) = false := by simpa using c1
          have hf : Hid (t2 a.y b.y n = false) := decide_eq_false fun h => c1 h.1
          go_wp2
          go_quiet (fail)
          go_wp2
          refine ⟨⟨Or.inr (Or.inr (Or.inl ⟨by first | rfl | simp, ⟨hp.out, hf.out⟩⟩)), drewN_below hblH.out nq⟩, ?_⟩
          simp [intOf]
      · have z0 : wr.cell? ⟨g, 2, none⟩ = some (.int .i64 a.z) := (cell_of_row _ _ 2 _ _ _ hxr).trans rfl
        have u0 : wr.cell? ⟨h, 2, none⟩ = some (.int .i64 b.z) := (cell_of_row _ _ 2 _ _ _ hyr).trans rfl
        clear hxr hyr
        by_cases c1 : 0 < a.z
        · have hd1 : decide (0 < a.z) = true := by simpa using c1
          have hnz : ¬ a.z = 0 := by omega
          have hq0 : 0 ≤ b.z / a.z := Int.ediv_nonneg (by assumption) (by assumption)
          by_cases c2 : b.z / a.z < n
          · have hT : Hid (t2 a.z b.z n = true) := decide_eq_true ⟨c1, c2⟩
            have e : Hid (tmB a b n = false) := Bool.and_eq_false_iff.2 (Or.inr (Bool.and_eq_false_iff.2 (Or.inr (by rw [hT.out]; rfl))))
            go_wp2
            go_quiet (fail)
            go_wp2
            go_ret
            exact ⟨by rw [e.out]; first | rfl | simp, drewN_below hBr.out nq⟩
          · have hf : Hid (t2 a.z b.z n = false) := decide_eq_false fun h => c2 h.2
            go_wp2
            go_quiet (fail)
            go_wp2
            refine ⟨⟨Or.inr (Or.inr (Or.inr ⟨by first | rfl | simp, ⟨hp.out.1, hp.out.2, hf.out⟩⟩)), drewN_below hblH.out nq⟩, ?_⟩
            simp [intOf]
        · have hd1 : decide (0 < a.z) = false := by simpa using c1
          have hf : Hid (t2 a.z b.z n = false) := decide_eq_false fun h => c1 h.1
          go_wp2
          go_quiet (fail)
          go_wp2
          refine ⟨⟨Or.inr (Or.inr (Or.inr ⟨by first | rfl | simp, ⟨hp.out.1, hp.out.2, hf.out⟩⟩)), drewN_below hblH.out nq⟩, ?_⟩
          simp [intOf]
      · clear hxr hyr
        have e : Hid (tmB a b n = true) := by
          show _ = _
          unfold tmB
          rw [hp.out.1, hp.out.2.1, hp.out.2.2]
          rfl
        go_wp2
        go_ret
        exact ⟨by rw [e.out]; first | rfl | simp, hBr.out⟩
end Go.Proofs.Ytlbnoggnnibmjaa
