/- Package list: newWork's blocks are made in any order. -/
import Derived.Test.YthfpdbogbmccjaaDoorJni
namespace Go.Proofs.YthfpdbogbmccjaaDoor
open Go.RowKit Gm Pm
set_option linter.unusedSectionVars false
set_option linter.unusedVariables false

def nwOps : Array Oper := #[{ dst := some 14, op := Op.move (Operand.tmp 2), type := 23, pos := "list.go:153", after := #[], guard := none },
  { dst := some 15, op := Op.move (Operand.tmp 7), type := 3, pos := "list.go:153", after := #[], guard := none },
  { dst := some 16, op := Op.makeSlice 43 (Operand.tmp 15) (Operand.tmp 15), type := 43, pos := "list.go:153", after := #[{ on := 1, ground := Ground.data }, { on := 1, ground := Ground.data }], guard := none },
  { dst := some 17, op := Op.move (Operand.tmp 7), type := 3, pos := "list.go:153", after := #[], guard := none },
  { dst := some 18, op := Op.makeSlice 23 (Operand.tmp 17) (Operand.tmp 17), type := 23, pos := "list.go:153", after := #[{ on := 3, ground := Ground.data }, { on := 3, ground := Ground.data }], guard := none },
  { dst := some 19, op := Op.move (Operand.tmp 0), type := 3, pos := "list.go:153", after := #[], guard := none },
  { dst := some 20, op := Op.makeSlice 23 (Operand.tmp 19) (Operand.tmp 19), type := 23, pos := "list.go:153", after := #[{ on := 5, ground := Ground.data }, { on := 5, ground := Ground.data }], guard := none },
  { dst := some 21, op := Op.move (Operand.tmp 7), type := 3, pos := "list.go:153", after := #[], guard := none },
  { dst := some 22, op := Op.makeSlice 24 (Operand.tmp 21) (Operand.tmp 21), type := 24, pos := "list.go:153", after := #[{ on := 7, ground := Ground.data }, { on := 7, ground := Ground.data }], guard := none },
  { dst := some 23, op := Op.build 45 #[(0, Operand.tmp 14), (1, Operand.tmp 16), (2, Operand.tmp 18), (3, Operand.tmp 20), (4, Operand.tmp 22)], type := 45, pos := "list.go:153", after := #[{ on := 0, ground := Ground.data }, { on := 2, ground := Ground.data }, { on := 4, ground := Ground.data }, { on := 6, ground := Ground.data }, { on := 8, ground := Ground.data }], guard := none },
  { dst := some 24, op := Op.box 45 (Operand.tmp 23), type := 40, pos := "list.go:153", after := #[{ on := 9, ground := Ground.data }], guard := none },
  { dst := some 8, op := Op.assign (Operand.tmp 24), type := 40, pos := "list.go:153", after := #[{ on := 10, ground := Ground.data }, { on := 0, ground := Ground.phase }, { on := 1, ground := Ground.phase }, { on := 2, ground := Ground.phase }, { on := 3, ground := Ground.phase }, { on := 4, ground := Ground.phase }, { on := 5, ground := Ground.phase }, { on := 6, ground := Ground.phase }, { on := 7, ground := Ground.phase }, { on := 8, ground := Ground.phase }, { on := 9, ground := Ground.phase }, { on := 10, ground := Ground.phase }], guard := none }]
set_option maxHeartbeats 40000000 in
set_option maxRecDepth 100000 in
theorem nw_tree {w wd : World} {q pd : Option Addr} {n m ln cap cd : Nat} {Q : Exit → Act → World → Prop} (hQ : ∀ c a w d v, Q (.panic c) (a.put d v) w → Q (.panic c) a w) (hnH : Hid (n ≤ 60)) (hmH : Hid (m ≤ 20)) (hN0 : Nw w wd n m (fun _ => none))
    (key : ∀ (gp gA gE gF gT : Nat) (w5 : World), Mw w w5 gp gA gE gF gT n m pd cd → Q .normal { tmps := ((Value.int .i64 (m : Int)) :: (Value.slice q ln cap) :: (Value.slice pd n cd) :: undef :: undef :: undef :: (Value.pointer none) :: (Value.int .i64 (n : Int)) :: (Value.pointer (some ⟨gp, 0, none⟩)) :: undef :: undef :: undef :: (Value.slice pd n cd) :: (Value.int .i64 (n : Int)) :: (Value.slice pd n cd) :: (Value.int .i64 (n : Int)) :: (Value.slice (some ⟨gA, 0, none⟩) n n) :: (Value.int .i64 (n : Int)) :: (Value.slice (some ⟨gE, 0, none⟩) n n) :: (Value.int .i64 (m : Int)) :: (Value.slice (some ⟨gF, 0, none⟩) m m) :: (Value.int .i64 (n : Int)) :: (Value.slice (some ⟨gT, 0, none⟩) n n) :: (Value.agg #[.slice pd n cd, .slice (some ⟨gA, 0, none⟩) n n, .slice (some ⟨gE, 0, none⟩) n n, .slice (some ⟨gF, 0, none⟩) m m, .slice (some ⟨gT, 0, none⟩) n n]) :: (Value.pointer (some ⟨gp, 0, none⟩)) :: undef :: undef :: undef :: undef :: undef :: undef :: undef :: undef :: undef :: undef :: undef :: undef :: undef :: undef :: undef :: undef :: undef :: undef :: undef :: undef :: undef :: undef :: undef :: undef :: undef :: undef :: undef :: undef :: undef :: undef :: undef :: undef :: undef :: undef :: undef :: undef :: undef :: undef :: undef :: undef :: undef :: undef :: []).toArray, defers := [] } w5) :
    Tkc.anyC Tryd.prog .any nwOps (fun _ => True) 99 Q 12 (Array.replicate 12 false) { tmps := ((Value.int .i64 (m : Int)) :: (Value.slice q ln cap) :: (Value.slice pd n cd) :: undef :: undef :: undef :: (Value.pointer none) :: (Value.int .i64 (n : Int)) :: undef :: undef :: undef :: undef :: (Value.slice pd n cd) :: (Value.int .i64 (n : Int)) :: undef :: undef :: undef :: undef :: undef :: undef :: undef :: undef :: undef :: undef :: undef :: undef :: undef :: undef :: undef :: undef :: undef :: undef :: undef :: undef :: undef :: undef :: undef :: undef :: undef :: undef :: undef :: undef :: undef :: undef :: undef :: undef :: undef :: undef :: undef :: undef :: undef :: undef :: undef :: undef :: undef :: undef :: undef :: undef :: undef :: undef :: undef :: undef :: undef :: undef :: undef :: undef :: undef :: []).toArray, defers := [] } wd := by
  refine Tkc.takeC (i := 0) (oi := { dst := some 14, op := Op.move (Operand.tmp 2), type := 23, pos := "list.go:153", after := #[], guard := none }) (v := .slice pd n cd) (by kernel_rfl) (by kernel_rfl) (by kernel_rfl) (by kernel_rfl) (fun c a w h => hQ c a w _ _ h) (by decide) (by kernel_rfl) (by kernel_rfl) trivial ⟨by kernel_rfl, fun wq hw => by go_simp⟩ ?_
  simp only [Act.put, List.setIfInBounds_toArray, List.set_cons_succ, List.set_cons_zero]
  refine Tkc.takeC (i := 1) (oi := { dst := some 15, op := Op.move (Operand.tmp 7), type := 3, pos := "list.go:153", after := #[], guard := none }) (v := .int .i64 (n : Int)) (by kernel_rfl) (by kernel_rfl) (by kernel_rfl) (by kernel_rfl) (fun c a w h => hQ c a w _ _ h) (by decide) (by kernel_rfl) (by kernel_rfl) trivial ⟨by kernel_rfl, fun wq hw => by go_simp⟩ ?_
  simp only [Act.put, List.setIfInBounds_toArray, List.set_cons_succ, List.set_cons_zero]
  refine Tkc.takeC (i := 3) (oi := { dst := some 17, op := Op.move (Operand.tmp 7), type := 3, pos := "list.go:153", after := #[], guard := none }) (v := .int .i64 (n : Int)) (by kernel_rfl) (by kernel_rfl) (by kernel_rfl) (by kernel_rfl) (fun c a w h => hQ c a w _ _ h) (by decide) (by kernel_rfl) (by kernel_rfl) trivial ⟨by kernel_rfl, fun wq hw => by go_simp⟩ ?_
  simp only [Act.put, List.setIfInBounds_toArray, List.set_cons_succ, List.set_cons_zero]
  refine Tkc.takeC (i := 5) (oi := { dst := some 19, op := Op.move (Operand.tmp 0), type := 3, pos := "list.go:153", after := #[], guard := none }) (v := .int .i64 (m : Int)) (by kernel_rfl) (by kernel_rfl) (by kernel_rfl) (by kernel_rfl) (fun c a w h => hQ c a w _ _ h) (by decide) (by kernel_rfl) (by kernel_rfl) trivial ⟨by kernel_rfl, fun wq hw => by go_simp⟩ ?_
  simp only [Act.put, List.setIfInBounds_toArray, List.set_cons_succ, List.set_cons_zero]
  refine Tkc.takeC (i := 7) (oi := { dst := some 21, op := Op.move (Operand.tmp 7), type := 3, pos := "list.go:153", after := #[], guard := none }) (v := .int .i64 (n : Int)) (by kernel_rfl) (by kernel_rfl) (by kernel_rfl) (by kernel_rfl) (fun c a w h => hQ c a w _ _ h) (by decide) (by kernel_rfl) (by kernel_rfl) trivial ⟨by kernel_rfl, fun wq hw => by go_simp⟩ ?_
  simp only [Act.put, List.setIfInBounds_toArray, List.set_cons_succ, List.set_cons_zero]
  refine Tkc.manyC [2, 4, 6, 8] (by kernel_rfl) (by decide) (fun _ => trivial) ?_
  intro ix hix
  rcases (show ix = 2 ∨ ix = 4 ∨ ix = 6 ∨ ix = 8 by simpa using hix) with rfl | rfl | rfl | rfl
  · clear hix
    refine Tkc.opC (i := 2) (o := { dst := some 16, op := Op.makeSlice 43 (Operand.tmp 15) (Operand.tmp 15), type := 43, pos := "list.go:153", after := #[{ on := 1, ground := Ground.data }, { on := 1, ground := Ground.data }], guard := none }) (by kernel_rfl) (by kernel_rfl) (fun K hK => ?_)
    refine step_make 43 47 (.tmp 15) (by kernel_rfl) (.slice none 0 0) 1 24 n Tryd.underlying43 info_row (by kernel_rfl) (by have := hnH.out; have := hmH.out; omega) (by have := hnH.out; have := hmH.out; omega) (hK _ _ ?_)
    clear hK K
    have hN2 : Nw w _ n m _ := hN0.make 0
    generalize hzw2 : wd.alloc (.cells (madeCells (Value.cells (.slice none 0 0)) (n * 1)) 47) = w2
    rw [show wd.alloc (wob n m 0) = w2 from hzw2] at hN2
    clear hzw2
    simp only [Act.put, List.setIfInBounds_toArray, List.set_cons_succ, List.set_cons_zero]
    refine Tkc.manyC [4, 6, 8] (by kernel_rfl) (by decide) (fun _ => trivial) ?_
    intro ix hix
    rcases (show ix = 4 ∨ ix = 6 ∨ ix = 8 by simpa using hix) with rfl | rfl | rfl
    · clear hix
      refine Tkc.opC (i := 4) (o := { dst := some 18, op := Op.makeSlice 23 (Operand.tmp 17) (Operand.tmp 17), type := 23, pos := "list.go:153", after := #[{ on := 3, ground := Ground.data }, { on := 3, ground := Ground.data }], guard := none }) (by kernel_rfl) (by kernel_rfl) (fun K hK => ?_)
      refine step_make 23 2 (.tmp 17) (by kernel_rfl) (.int .i64 0) 1 8 n Tryd.underlying23 info_i64 (by kernel_rfl) (by have := hnH.out; have := hmH.out; omega) (by have := hnH.out; have := hmH.out; omega) (hK _ _ ?_)
      clear hK K
      have hN24 : Nw w _ n m _ := hN2.make 1
      generalize hzw24 : w2.alloc (.cells (madeCells (Value.cells (.int .i64 0)) (n * 1)) 2) = w24
      rw [show w2.alloc (wob n m 1) = w24 from hzw24] at hN24
      clear hzw24
      simp only [Act.put, List.setIfInBounds_toArray, List.set_cons_succ, List.set_cons_zero]
      refine Tkc.manyC [6, 8] (by kernel_rfl) (by decide) (fun _ => trivial) ?_
      intro ix hix
      rcases (show ix = 6 ∨ ix = 8 by simpa using hix) with rfl | rfl
      · clear hix
        refine Tkc.opC (i := 6) (o := { dst := some 20, op := Op.makeSlice 23 (Operand.tmp 19) (Operand.tmp 19), type := 23, pos := "list.go:153", after := #[{ on := 5, ground := Ground.data }, { on := 5, ground := Ground.data }], guard := none }) (by kernel_rfl) (by kernel_rfl) (fun K hK => ?_)
        refine step_make 23 2 (.tmp 19) (by kernel_rfl) (.int .i64 0) 1 8 m Tryd.underlying23 info_i64 (by kernel_rfl) (by have := hnH.out; have := hmH.out; omega) (by have := hnH.out; have := hmH.out; omega) (hK _ _ ?_)
        clear hK K
        have hN246 : Nw w _ n m _ := hN24.make 2
        generalize hzw246 : w24.alloc (.cells (madeCells (Value.cells (.int .i64 0)) (m * 1)) 2) = w246
        rw [show w24.alloc (wob n m 2) = w246 from hzw246] at hN246
        clear hzw246
        simp only [Act.put, List.setIfInBounds_toArray, List.set_cons_succ, List.set_cons_zero]
        refine Tkc.onlyC (i := 8) (o := { dst := some 22, op := Op.makeSlice 24 (Operand.tmp 21) (Operand.tmp 21), type := 24, pos := "list.go:153", after := #[{ on := 7, ground := Ground.data }, { on := 7, ground := Ground.data }], guard := none }) (by kernel_rfl) (by kernel_rfl) (fun _ => trivial) (by kernel_rfl) (fun K hK => ?_)
        refine step_make 24 50 (.tmp 21) (by kernel_rfl) (.agg #[.int .i64 0, .int .i64 0]) 2 16 n Tryd.underlying24 info_turn (by kernel_rfl) (by have := hnH.out; have := hmH.out; omega) (by have := hnH.out; have := hmH.out; omega) (hK _ _ ?_)
        clear hK K
        have hN2468 : Nw w _ n m _ := hN246.make 3
        generalize hzw2468 : w246.alloc (.cells (madeCells (Value.cells (.agg #[.int .i64 0, .int .i64 0])) (n * 2)) 50) = w2468
        rw [show w246.alloc (wob n m 3) = w2468 from hzw2468] at hN2468
        clear hzw2468
        simp only [Act.put, List.setIfInBounds_toArray, List.set_cons_succ, List.set_cons_zero]
        refine Tkc.takeC (i := 9) (oi := { dst := some 23, op := Op.build 45 #[(0, Operand.tmp 14), (1, Operand.tmp 16), (2, Operand.tmp 18), (3, Operand.tmp 20), (4, Operand.tmp 22)], type := 45, pos := "list.go:153", after := #[{ on := 0, ground := Ground.data }, { on := 2, ground := Ground.data }, { on := 4, ground := Ground.data }, { on := 6, ground := Ground.data }, { on := 8, ground := Ground.data }], guard := none }) (v := .agg #[.slice pd n cd, .slice (some ⟨wd.heap.size, 0, none⟩) n n, .slice (some ⟨w2.heap.size, 0, none⟩) n n, .slice (some ⟨w24.heap.size, 0, none⟩) m m, .slice (some ⟨w246.heap.size, 0, none⟩) n n]) (by kernel_rfl) (by kernel_rfl) (by kernel_rfl) (by kernel_rfl) (fun c a w h => hQ c a w _ _ h) (by decide) (by kernel_rfl) (by kernel_rfl) trivial ⟨by kernel_rfl, fun wq hw => by go_simp⟩ ?_
        simp only [Act.put, List.setIfInBounds_toArray, List.set_cons_succ, List.set_cons_zero]
        refine Tkc.onlyC (i := 10) (o := { dst := some 24, op := Op.box 45 (Operand.tmp 23), type := 40, pos := "list.go:153", after := #[{ on := 9, ground := Ground.data }], guard := none }) (by kernel_rfl) (by kernel_rfl) (fun _ => trivial) (by kernel_rfl) (fun K hK => ?_)
        go_simp
        refine hK _ _ ?_
        clear hK K
        try simp only [Act.put, List.setIfInBounds_toArray, List.set_cons_succ, List.set_cons_zero]
        refine Tkc.takeC (i := 11) (oi := { dst := some 8, op := Op.assign (Operand.tmp 24), type := 40, pos := "list.go:153", after := #[{ on := 10, ground := Ground.data }, { on := 0, ground := Ground.phase }, { on := 1, ground := Ground.phase }, { on := 2, ground := Ground.phase }, { on := 3, ground := Ground.phase }, { on := 4, ground := Ground.phase }, { on := 5, ground := Ground.phase }, { on := 6, ground := Ground.phase }, { on := 7, ground := Ground.phase }, { on := 8, ground := Ground.phase }, { on := 9, ground := Ground.phase }, { on := 10, ground := Ground.phase }], guard := none }) (v := .pointer (some ⟨w2468.heap.size, 0, none⟩)) (by kernel_rfl) (by kernel_rfl) (by kernel_rfl) (by kernel_rfl) (fun c a w h => hQ c a w _ _ h) (by decide) (by kernel_rfl) (by kernel_rfl) trivial ⟨by kernel_rfl, fun wq hw => by go_simp⟩ ?_
        simp only [Act.put, List.setIfInBounds_toArray, List.set_cons_succ, List.set_cons_zero]
        refine Tkc.doneC (by kernel_rfl) (fun _ => trivial) ?_
        exact key _ _ _ _ _ _ (Mw.of hN2468 rfl rfl rfl rfl)
      · clear hix
        refine Tkc.opC (i := 8) (o := { dst := some 22, op := Op.makeSlice 24 (Operand.tmp 21) (Operand.tmp 21), type := 24, pos := "list.go:153", after := #[{ on := 7, ground := Ground.data }, { on := 7, ground := Ground.data }], guard := none }) (by kernel_rfl) (by kernel_rfl) (fun K hK => ?_)
        refine step_make 24 50 (.tmp 21) (by kernel_rfl) (.agg #[.int .i64 0, .int .i64 0]) 2 16 n Tryd.underlying24 info_turn (by kernel_rfl) (by have := hnH.out; have := hmH.out; omega) (by have := hnH.out; have := hmH.out; omega) (hK _ _ ?_)
        clear hK K
        have hN248 : Nw w _ n m _ := hN24.make 3
        generalize hzw248 : w24.alloc (.cells (madeCells (Value.cells (.agg #[.int .i64 0, .int .i64 0])) (n * 2)) 50) = w248
        rw [show w24.alloc (wob n m 3) = w248 from hzw248] at hN248
        clear hzw248
        simp only [Act.put, List.setIfInBounds_toArray, List.set_cons_succ, List.set_cons_zero]
        refine Tkc.onlyC (i := 6) (o := { dst := some 20, op := Op.makeSlice 23 (Operand.tmp 19) (Operand.tmp 19), type := 23, pos := "list.go:153", after := #[{ on := 5, ground := Ground.data }, { on := 5, ground := Ground.data }], guard := none }) (by kernel_rfl) (by kernel_rfl) (fun _ => trivial) (by kernel_rfl) (fun K hK => ?_)
        refine step_make 23 2 (.tmp 19) (by kernel_rfl) (.int .i64 0) 1 8 m Tryd.underlying23 info_i64 (by kernel_rfl) (by have := hnH.out; have := hmH.out; omega) (by have := hnH.out; have := hmH.out; omega) (hK _ _ ?_)
        clear hK K
        have hN2486 : Nw w _ n m _ := hN248.make 2
        generalize hzw2486 : w248.alloc (.cells (madeCells (Value.cells (.int .i64 0)) (m * 1)) 2) = w2486
        rw [show w248.alloc (wob n m 2) = w2486 from hzw2486] at hN2486
        clear hzw2486
        simp only [Act.put, List.setIfInBounds_toArray, List.set_cons_succ, List.set_cons_zero]
        refine Tkc.takeC (i := 9) (oi := { dst := some 23, op := Op.build 45 #[(0, Operand.tmp 14), (1, Operand.tmp 16), (2, Operand.tmp 18), (3, Operand.tmp 20), (4, Operand.tmp 22)], type := 45, pos := "list.go:153", after := #[{ on := 0, ground := Ground.data }, { on := 2, ground := Ground.data }, { on := 4, ground := Ground.data }, { on := 6, ground := Ground.data }, { on := 8, ground := Ground.data }], guard := none }) (v := .agg #[.slice pd n cd, .slice (some ⟨wd.heap.size, 0, none⟩) n n, .slice (some ⟨w2.heap.size, 0, none⟩) n n, .slice (some ⟨w248.heap.size, 0, none⟩) m m, .slice (some ⟨w24.heap.size, 0, none⟩) n n]) (by kernel_rfl) (by kernel_rfl) (by kernel_rfl) (by kernel_rfl) (fun c a w h => hQ c a w _ _ h) (by decide) (by kernel_rfl) (by kernel_rfl) trivial ⟨by kernel_rfl, fun wq hw => by go_simp⟩ ?_
        simp only [Act.put, List.setIfInBounds_toArray, List.set_cons_succ, List.set_cons_zero]
        refine Tkc.onlyC (i := 10) (o := { dst := some 24, op := Op.box 45 (Operand.tmp 23), type := 40, pos := "list.go:153", after := #[{ on := 9, ground := Ground.data }], guard := none }) (by kernel_rfl) (by kernel_rfl) (fun _ => trivial) (by kernel_rfl) (fun K hK => ?_)
        go_simp
        refine hK _ _ ?_
        clear hK K
        try simp only [Act.put, List.setIfInBounds_toArray, List.set_cons_succ, List.set_cons_zero]
        refine Tkc.takeC (i := 11) (oi := { dst := some 8, op := Op.assign (Operand.tmp 24), type := 40, pos := "list.go:153", after := #[{ on := 10, ground := Ground.data }, { on := 0, ground := Ground.phase }, { on := 1, ground := Ground.phase }, { on := 2, ground := Ground.phase }, { on := 3, ground := Ground.phase }, { on := 4, ground := Ground.phase }, { on := 5, ground := Ground.phase }, { on := 6, ground := Ground.phase }, { on := 7, ground := Ground.phase }, { on := 8, ground := Ground.phase }, { on := 9, ground := Ground.phase }, { on := 10, ground := Ground.phase }], guard := none }) (v := .pointer (some ⟨w2486.heap.size, 0, none⟩)) (by kernel_rfl) (by kernel_rfl) (by kernel_rfl) (by kernel_rfl) (fun c a w h => hQ c a w _ _ h) (by decide) (by kernel_rfl) (by kernel_rfl) trivial ⟨by kernel_rfl, fun wq hw => by go_simp⟩ ?_
        simp only [Act.put, List.setIfInBounds_toArray, List.set_cons_succ, List.set_cons_zero]
        refine Tkc.doneC (by kernel_rfl) (fun _ => trivial) ?_
        exact key _ _ _ _ _ _ (Mw.of hN2486 rfl rfl rfl rfl)
    · clear hix
      refine Tkc.opC (i := 6) (o := { dst := some 20, op := Op.makeSlice 23 (Operand.tmp 19) (Operand.tmp 19), type := 23, pos := "list.go:153", after := #[{ on := 5, ground := Ground.data }, { on := 5, ground := Ground.data }], guard := none }) (by kernel_rfl) (by kernel_rfl) (fun K hK => ?_)
      refine step_make 23 2 (.tmp 19) (by kernel_rfl) (.int .i64 0) 1 8 m Tryd.underlying23 info_i64 (by kernel_rfl) (by have := hnH.out; have := hmH.out; omega) (by have := hnH.out; have := hmH.out; omega) (hK _ _ ?_)
      clear hK K
      have hN26 : Nw w _ n m _ := hN2.make 2
      generalize hzw26 : w2.alloc (.cells (madeCells (Value.cells (.int .i64 0)) (m * 1)) 2) = w26
      rw [show w2.alloc (wob n m 2) = w26 from hzw26] at hN26
      clear hzw26
      simp only [Act.put, List.setIfInBounds_toArray, List.set_cons_succ, List.set_cons_zero]
      refine Tkc.manyC [4, 8] (by kernel_rfl) (by decide) (fun _ => trivial) ?_
      intro ix hix
      rcases (show ix = 4 ∨ ix = 8 by simpa using hix) with rfl | rfl
      · clear hix
        refine Tkc.opC (i := 4) (o := { dst := some 18, op := Op.makeSlice 23 (Operand.tmp 17) (Operand.tmp 17), type := 23, pos := "list.go:153", after := #[{ on := 3, ground := Ground.data }, { on := 3, ground := Ground.data }], guard := none }) (by kernel_rfl) (by kernel_rfl) (fun K hK => ?_)
        refine step_make 23 2 (.tmp 17) (by kernel_rfl) (.int .i64 0) 1 8 n Tryd.underlying23 info_i64 (by kernel_rfl) (by have := hnH.out; have := hmH.out; omega) (by have := hnH.out; have := hmH.out; omega) (hK _ _ ?_)
        clear hK K
        have hN264 : Nw w _ n m _ := hN26.make 1
        generalize hzw264 : w26.alloc (.cells (madeCells (Value.cells (.int .i64 0)) (n * 1)) 2) = w264
        rw [show w26.alloc (wob n m 1) = w264 from hzw264] at hN264
        clear hzw264
        simp only [Act.put, List.setIfInBounds_toArray, List.set_cons_succ, List.set_cons_zero]
        refine Tkc.onlyC (i := 8) (o := { dst := some 22, op := Op.makeSlice 24 (Operand.tmp 21) (Operand.tmp 21), type := 24, pos := "list.go:153", after := #[{ on := 7, ground := Ground.data }, { on := 7, ground := Ground.data }], guard := none }) (by kernel_rfl) (by kernel_rfl) (fun _ => trivial) (by kernel_rfl) (fun K hK => ?_)
        refine step_make 24 50 (.tmp 21) (by kernel_rfl) (.agg #[.int .i64 0, .int .i64 0]) 2 16 n Tryd.underlying24 info_turn (by kernel_rfl) (by have := hnH.out; have := hmH.out; omega) (by have := hnH.out; have := hmH.out; omega) (hK _ _ ?_)
        clear hK K
        have hN2648 : Nw w _ n m _ := hN264.make 3
        generalize hzw2648 : w264.alloc (.cells (madeCells (Value.cells (.agg #[.int .i64 0, .int .i64 0])) (n * 2)) 50) = w2648
        rw [show w264.alloc (wob n m 3) = w2648 from hzw2648] at hN2648
        clear hzw2648
        simp only [Act.put, List.setIfInBounds_toArray, List.set_cons_succ, List.set_cons_zero]
        refine Tkc.takeC (i := 9) (oi := { dst := some 23, op := Op.build 45 #[(0, Operand.tmp 14), (1, Operand.tmp 16), (2, Operand.tmp 18), (3, Operand.tmp 20), (4, Operand.tmp 22)], type := 45, pos := "list.go:153", after := #[{ on := 0, ground := Ground.data }, { on := 2, ground := Ground.data }, { on := 4, ground := Ground.data }, { on := 6, ground := Ground.data }, { on := 8, ground := Ground.data }], guard := none }) (v := .agg #[.slice pd n cd, .slice (some ⟨wd.heap.size, 0, none⟩) n n, .slice (some ⟨w26.heap.size, 0, none⟩) n n, .slice (some ⟨w2.heap.size, 0, none⟩) m m, .slice (some ⟨w264.heap.size, 0, none⟩) n n]) (by kernel_rfl) (by kernel_rfl) (by kernel_rfl) (by kernel_rfl) (fun c a w h => hQ c a w _ _ h) (by decide) (by kernel_rfl) (by kernel_rfl) trivial ⟨by kernel_rfl, fun wq hw => by go_simp⟩ ?_
        simp only [Act.put, List.setIfInBounds_toArray, List.set_cons_succ, List.set_cons_zero]
        refine Tkc.onlyC (i := 10) (o := { dst := some 24, op := Op.box 45 (Operand.tmp 23), type := 40, pos := "list.go:153", after := #[{ on := 9, ground := Ground.data }], guard := none }) (by kernel_rfl) (by kernel_rfl) (fun _ => trivial) (by kernel_rfl) (fun K hK => ?_)
        go_simp
        refine hK _ _ ?_
        clear hK K
        try simp only [Act.put, List.setIfInBounds_toArray, List.set_cons_succ, List.set_cons_zero]
        refine Tkc.takeC (i := 11) (oi := { dst := some 8, op := Op.assign (Operand.tmp 24), type := 40, pos := "list.go:153", after := #[{ on := 10, ground := Ground.data }, { on := 0, ground := Ground.phase }, { on := 1, ground := Ground.phase }, { on := 2, ground := Ground.phase }, { on := 3, ground := Ground.phase }, { on := 4, ground := Ground.phase }, { on := 5, ground := Ground.phase }, { on := 6, ground := Ground.phase }, { on := 7, ground := Ground.phase }, { on := 8, ground := Ground.phase }, { on := 9, ground := Ground.phase }, { on := 10, ground := Ground.phase }], guard := none }) (v := .pointer (some ⟨w2648.heap.size, 0, none⟩)) (by kernel_rfl) (by kernel_rfl) (by kernel_rfl) (by kernel_rfl) (fun c a w h => hQ c a w _ _ h) (by decide) (by kernel_rfl) (by kernel_rfl) trivial ⟨by kernel_rfl, fun wq hw => by go_simp⟩ ?_
        simp only [Act.put, List.setIfInBounds_toArray, List.set_cons_succ, List.set_cons_zero]
        refine Tkc.doneC (by kernel_rfl) (fun _ => trivial) ?_
        exact key _ _ _ _ _ _ (Mw.of hN2648 rfl rfl rfl rfl)
      · clear hix
        refine Tkc.opC (i := 8) (o := { dst := some 22, op := Op.makeSlice 24 (Operand.tmp 21) (Operand.tmp 21), type := 24, pos := "list.go:153", after := #[{ on := 7, ground := Ground.data }, { on := 7, ground := Ground.data }], guard := none }) (by kernel_rfl) (by kernel_rfl) (fun K hK => ?_)
        refine step_make 24 50 (.tmp 21) (by kernel_rfl) (.agg #[.int .i64 0, .int .i64 0]) 2 16 n Tryd.underlying24 info_turn (by kernel_rfl) (by have := hnH.out; have := hmH.out; omega) (by have := hnH.out; have := hmH.out; omega) (hK _ _ ?_)
        clear hK K
        have hN268 : Nw w _ n m _ := hN26.make 3
        generalize hzw268 : w26.alloc (.cells (madeCells (Value.cells (.agg #[.int .i64 0, .int .i64 0])) (n * 2)) 50) = w268
        rw [show w26.alloc (wob n m 3) = w268 from hzw268] at hN268
        clear hzw268
        simp only [Act.put, List.setIfInBounds_toArray, List.set_cons_succ, List.set_cons_zero]
        refine Tkc.onlyC (i := 4) (o := { dst := some 18, op := Op.makeSlice 23 (Operand.tmp 17) (Operand.tmp 17), type := 23, pos := "list.go:153", after := #[{ on := 3, ground := Ground.data }, { on := 3, ground := Ground.data }], guard := none }) (by kernel_rfl) (by kernel_rfl) (fun _ => trivial) (by kernel_rfl) (fun K hK => ?_)
        refine step_make 23 2 (.tmp 17) (by kernel_rfl) (.int .i64 0) 1 8 n Tryd.underlying23 info_i64 (by kernel_rfl) (by have := hnH.out; have := hmH.out; omega) (by have := hnH.out; have := hmH.out; omega) (hK _ _ ?_)
        clear hK K
        have hN2684 : Nw w _ n m _ := hN268.make 1
        generalize hzw2684 : w268.alloc (.cells (madeCells (Value.cells (.int .i64 0)) (n * 1)) 2) = w2684
        rw [show w268.alloc (wob n m 1) = w2684 from hzw2684] at hN2684
        clear hzw2684
        simp only [Act.put, List.setIfInBounds_toArray, List.set_cons_succ, List.set_cons_zero]
        refine Tkc.takeC (i := 9) (oi := { dst := some 23, op := Op.build 45 #[(0, Operand.tmp 14), (1, Operand.tmp 16), (2, Operand.tmp 18), (3, Operand.tmp 20), (4, Operand.tmp 22)], type := 45, pos := "list.go:153", after := #[{ on := 0, ground := Ground.data }, { on := 2, ground := Ground.data }, { on := 4, ground := Ground.data }, { on := 6, ground := Ground.data }, { on := 8, ground := Ground.data }], guard := none }) (v := .agg #[.slice pd n cd, .slice (some ⟨wd.heap.size, 0, none⟩) n n, .slice (some ⟨w268.heap.size, 0, none⟩) n n, .slice (some ⟨w2.heap.size, 0, none⟩) m m, .slice (some ⟨w26.heap.size, 0, none⟩) n n]) (by kernel_rfl) (by kernel_rfl) (by kernel_rfl) (by kernel_rfl) (fun c a w h => hQ c a w _ _ h) (by decide) (by kernel_rfl) (by kernel_rfl) trivial ⟨by kernel_rfl, fun wq hw => by go_simp⟩ ?_
        simp only [Act.put, List.setIfInBounds_toArray, List.set_cons_succ, List.set_cons_zero]
        refine Tkc.onlyC (i := 10) (o := { dst := some 24, op := Op.box 45 (Operand.tmp 23), type := 40, pos := "list.go:153", after := #[{ on := 9, ground := Ground.data }], guard := none }) (by kernel_rfl) (by kernel_rfl) (fun _ => trivial) (by kernel_rfl) (fun K hK => ?_)
        go_simp
        refine hK _ _ ?_
        clear hK K
        try simp only [Act.put, List.setIfInBounds_toArray, List.set_cons_succ, List.set_cons_zero]
        refine Tkc.takeC (i := 11) (oi := { dst := some 8, op := Op.assign (Operand.tmp 24), type := 40, pos := "list.go:153", after := #[{ on := 10, ground := Ground.data }, { on := 0, ground := Ground.phase }, { on := 1, ground := Ground.phase }, { on := 2, ground := Ground.phase }, { on := 3, ground := Ground.phase }, { on := 4, ground := Ground.phase }, { on := 5, ground := Ground.phase }, { on := 6, ground := Ground.phase }, { on := 7, ground := Ground.phase }, { on := 8, ground := Ground.phase }, { on := 9, ground := Ground.phase }, { on := 10, ground := Ground.phase }], guard := none }) (v := .pointer (some ⟨w2684.heap.size, 0, none⟩)) (by kernel_rfl) (by kernel_rfl) (by kernel_rfl) (by kernel_rfl) (fun c a w h => hQ c a w _ _ h) (by decide) (by kernel_rfl) (by kernel_rfl) trivial ⟨by kernel_rfl, fun wq hw => by go_simp⟩ ?_
        simp only [Act.put, List.setIfInBounds_toArray, List.set_cons_succ, List.set_cons_zero]
        refine Tkc.doneC (by kernel_rfl) (fun _ => trivial) ?_
        exact key _ _ _ _ _ _ (Mw.of hN2684 rfl rfl rfl rfl)
    · clear hix
      refine Tkc.opC (i := 8) (o := { dst := some 22, op := Op.makeSlice 24 (Operand.tmp 21) (Operand.tmp 21), type := 24, pos := "list.go:153", after := #[{ on := 7, ground := Ground.data }, { on := 7, ground := Ground.data }], guard := none }) (by kernel_rfl) (by kernel_rfl) (fun K hK => ?_)
      refine step_make 24 50 (.tmp 21) (by kernel_rfl) (.agg #[.int .i64 0, .int .i64 0]) 2 16 n Tryd.underlying24 info_turn (by kernel_rfl) (by have := hnH.out; have := hmH.out; omega) (by have := hnH.out; have := hmH.out; omega) (hK _ _ ?_)
      clear hK K
      have hN28 : Nw w _ n m _ := hN2.make 3
      generalize hzw28 : w2.alloc (.cells (madeCells (Value.cells (.agg #[.int .i64 0, .int .i64 0])) (n * 2)) 50) = w28
      rw [show w2.alloc (wob n m 3) = w28 from hzw28] at hN28
      clear hzw28
      simp only [Act.put, List.setIfInBounds_toArray, List.set_cons_succ, List.set_cons_zero]
      refine Tkc.manyC [4, 6] (by kernel_rfl) (by decide) (fun _ => trivial) ?_
      intro ix hix
      rcases (show ix = 4 ∨ ix = 6 by simpa using hix) with rfl | rfl
      · clear hix
        refine Tkc.opC (i := 4) (o := { dst := some 18, op := Op.makeSlice 23 (Operand.tmp 17) (Operand.tmp 17), type := 23, pos := "list.go:153", after := #[{ on := 3, ground := Ground.data }, { on := 3, ground := Ground.data }], guard := none }) (by kernel_rfl) (by kernel_rfl) (fun K hK => ?_)
        refine step_make 23 2 (.tmp 17) (by kernel_rfl) (.int .i64 0) 1 8 n Tryd.underlying23 info_i64 (by kernel_rfl) (by have := hnH.out; have := hmH.out; omega) (by have := hnH.out; have := hmH.out; omega) (hK _ _ ?_)
        clear hK K
        have hN284 : Nw w _ n m _ := hN28.make 1
        generalize hzw284 : w28.alloc (.cells (madeCells (Value.cells (.int .i64 0)) (n * 1)) 2) = w284
        rw [show w28.alloc (wob n m 1) = w284 from hzw284] at hN284
        clear hzw284
        simp only [Act.put, List.setIfInBounds_toArray, List.set_cons_succ, List.set_cons_zero]
        refine Tkc.onlyC (i := 6) (o := { dst := some 20, op := Op.makeSlice 23 (Operand.tmp 19) (Operand.tmp 19), type := 23, pos := "list.go:153", after := #[{ on := 5, ground := Ground.data }, { on := 5, ground := Ground.data }], guard := none }) (by kernel_rfl) (by kernel_rfl) (fun _ => trivial) (by kernel_rfl) (fun K hK => ?_)
        refine step_make 23 2 (.tmp 19) (by kernel_rfl) (.int .i64 0) 1 8 m Tryd.underlying23 info_i64 (by kernel_rfl) (by have := hnH.out; have := hmH.out; omega) (by have := hnH.out; have := hmH.out; omega) (hK _ _ ?_)
        clear hK K
        have hN2846 : Nw w _ n m _ := hN284.make 2
        generalize hzw2846 : w284.alloc (.cells (madeCells (Value.cells (.int .i64 0)) (m * 1)) 2) = w2846
        rw [show w284.alloc (wob n m 2) = w2846 from hzw2846] at hN2846
        clear hzw2846
        simp only [Act.put, List.setIfInBounds_toArray, List.set_cons_succ, List.set_cons_zero]
        refine Tkc.takeC (i := 9) (oi := { dst := some 23, op := Op.build 45 #[(0, Operand.tmp 14), (1, Operand.tmp 16), (2, Operand.tmp 18), (3, Operand.tmp 20), (4, Operand.tmp 22)], type := 45, pos := "list.go:153", after := #[{ on := 0, ground := Ground.data }, { on := 2, ground := Ground.data }, { on := 4, ground := Ground.data }, { on := 6, ground := Ground.data }, { on := 8, ground := Ground.data }], guard := none }) (v := .agg #[.slice pd n cd, .slice (some ⟨wd.heap.size, 0, none⟩) n n, .slice (some ⟨w28.heap.size, 0, none⟩) n n, .slice (some ⟨w284.heap.size, 0, none⟩) m m, .slice (some ⟨w2.heap.size, 0, none⟩) n n]) (by kernel_rfl) (by kernel_rfl) (by kernel_rfl) (by kernel_rfl) (fun c a w h => hQ c a w _ _ h) (by decide) (by kernel_rfl) (by kernel_rfl) trivial ⟨by kernel_rfl, fun wq hw => by go_simp⟩ ?_
        simp only [Act.put, List.setIfInBounds_toArray, List.set_cons_succ, List.set_cons_zero]
        refine Tkc.onlyC (i := 10) (o := { dst := some 24, op := Op.box 45 (Operand.tmp 23), type := 40, pos := "list.go:153", after := #[{ on := 9, ground := Ground.data }], guard := none }) (by kernel_rfl) (by kernel_rfl) (fun _ => trivial) (by kernel_rfl) (fun K hK => ?_)
        go_simp
        refine hK _ _ ?_
        clear hK K
        try simp only [Act.put, List.setIfInBounds_toArray, List.set_cons_succ, List.set_cons_zero]
        refine Tkc.takeC (i := 11) (oi := { dst := some 8, op := Op.assign (Operand.tmp 24), type := 40, pos := "list.go:153", after := #[{ on := 10, ground := Ground.data }, { on := 0, ground := Ground.phase }, { on := 1, ground := Ground.phase }, { on := 2, ground := Ground.phase }, { on := 3, ground := Ground.phase }, { on := 4, ground := Ground.phase }, { on := 5, ground := Ground.phase }, { on := 6, ground := Ground.phase }, { on := 7, ground := Ground.phase }, { on := 8, ground := Ground.phase }, { on := 9, ground := Ground.phase }, { on := 10, ground := Ground.phase }], guard := none }) (v := .pointer (some ⟨w2846.heap.size, 0, none⟩)) (by kernel_rfl) (by kernel_rfl) (by kernel_rfl) (by kernel_rfl) (fun c a w h => hQ c a w _ _ h) (by decide) (by kernel_rfl) (by kernel_rfl) trivial ⟨by kernel_rfl, fun wq hw => by go_simp⟩ ?_
        simp only [Act.put, List.setIfInBounds_toArray, List.set_cons_succ, List.set_cons_zero]
        refine Tkc.doneC (by kernel_rfl) (fun _ => trivial) ?_
        exact key _ _ _ _ _ _ (Mw.of hN2846 rfl rfl rfl rfl)
      · clear hix
        refine Tkc.opC (i := 6) (o := { dst := some 20, op := Op.makeSlice 23 (Operand.tmp 19) (Operand.tmp 19), type := 23, pos := "list.go:153", after := #[{ on := 5, ground := Ground.data }, { on := 5, ground := Ground.data }], guard := none }) (by kernel_rfl) (by kernel_rfl) (fun K hK => ?_)
        refine step_make 23 2 (.tmp 19) (by kernel_rfl) (.int .i64 0) 1 8 m Tryd.underlying23 info_i64 (by kernel_rfl) (by have := hnH.out; have := hmH.out; omega) (by have := hnH.out; have := hmH.out; omega) (hK _ _ ?_)
        clear hK K
        have hN286 : Nw w _ n m _ := hN28.make 2
        generalize hzw286 : w28.alloc (.cells (madeCells (Value.cells (.int .i64 0)) (m * 1)) 2) = w286
        rw [show w28.alloc (wob n m 2) = w286 from hzw286] at hN286
        clear hzw286
        simp only [Act.put, List.setIfInBounds_toArray, List.set_cons_succ, List.set_cons_zero]
        refine Tkc.onlyC (i := 4) (o := { dst := some 18, op := Op.makeSlice 23 (Operand.tmp 17) (Operand.tmp 17), type := 23, pos := "list.go:153", after := #[{ on := 3, ground := Ground.data }, { on := 3, ground := Ground.data }], guard := none }) (by kernel_rfl) (by kernel_rfl) (fun _ => trivial) (by kernel_rfl) (fun K hK => ?_)
        refine step_make 23 2 (.tmp 17) (by kernel_rfl) (.int .i64 0) 1 8 n Tryd.underlying23 info_i64 (by kernel_rfl) (by have := hnH.out; have := hmH.out; omega) (by have := hnH.out; have := hmH.out; omega) (hK _ _ ?_)
        clear hK K
        have hN2864 : Nw w _ n m _ := hN286.make 1
        generalize hzw2864 : w286.alloc (.cells (madeCells (Value.cells (.int .i64 0)) (n * 1)) 2) = w2864
        rw [show w286.alloc (wob n m 1) = w2864 from hzw2864] at hN2864
        clear hzw2864
        simp only [Act.put, List.setIfInBounds_toArray, List.set_cons_succ, List.set_cons_zero]
        refine Tkc.takeC (i := 9) (oi := { dst := some 23, op := Op.build 45 #[(0, Operand.tmp 14), (1, Operand.tmp 16), (2, Operand.tmp 18), (3, Operand.tmp 20), (4, Operand.tmp 22)], type := 45, pos := "list.go:153", after := #[{ on := 0, ground := Ground.data }, { on := 2, ground := Ground.data }, { on := 4, ground := Ground.data }, { on := 6, ground := Ground.data }, { on := 8, ground := Ground.data }], guard := none }) (v := .agg #[.slice pd n cd, .slice (some ⟨wd.heap.size, 0, none⟩) n n, .slice (some ⟨w286.heap.size, 0, none⟩) n n, .slice (some ⟨w28.heap.size, 0, none⟩) m m, .slice (some ⟨w2.heap.size, 0, none⟩) n n]) (by kernel_rfl) (by kernel_rfl) (by kernel_rfl) (by kernel_rfl) (fun c a w h => hQ c a w _ _ h) (by decide) (by kernel_rfl) (by kernel_rfl) trivial ⟨by kernel_rfl, fun wq hw => by go_simp⟩ ?_
        simp only [Act.put, List.setIfInBounds_toArray, List.set_cons_succ, List.set_cons_zero]
        refine Tkc.onlyC (i := 10) (o := { dst := some 24, op := Op.box 45 (Operand.tmp 23), type := 40, pos := "list.go:153", after := #[{ on := 9, ground := Ground.data }], guard := none }) (by kernel_rfl) (by kernel_rfl) (fun _ => trivial) (by kernel_rfl) (fun K hK => ?_)
        go_simp
        refine hK _ _ ?_
        clear hK K
        try simp only [Act.put, List.setIfInBounds_toArray, List.set_cons_succ, List.set_cons_zero]
        refine Tkc.takeC (i := 11) (oi := { dst := some 8, op := Op.assign (Operand.tmp 24), type := 40, pos := "list.go:153", after := #[{ on := 10, ground := Ground.data }, { on := 0, ground := Ground.phase }, { on := 1, ground := Ground.phase }, { on := 2, ground := Ground.phase }, { on := 3, ground := Ground.phase }, { on := 4, ground := Ground.phase }, { on := 5, ground := Ground.phase }, { on := 6, ground := Ground.phase }, { on := 7, ground := Ground.phase }, { on := 8, ground := Ground.phase }, { on := 9, ground := Ground.phase }, { on := 10, ground := Ground.phase }], guard := none }) (v := .pointer (some ⟨w2864.heap.size, 0, none⟩)) (by kernel_rfl) (by kernel_rfl) (by kernel_rfl) (by kernel_rfl) (fun c a w h => hQ c a w _ _ h) (by decide) (by kernel_rfl) (by kernel_rfl) trivial ⟨by kernel_rfl, fun wq hw => by go_simp⟩ ?_
        simp only [Act.put, List.setIfInBounds_toArray, List.set_cons_succ, List.set_cons_zero]
        refine Tkc.doneC (by kernel_rfl) (fun _ => trivial) ?_
        exact key _ _ _ _ _ _ (Mw.of hN2864 rfl rfl rfl rfl)
  · clear hix
    refine Tkc.opC (i := 4) (o := { dst := some 18, op := Op.makeSlice 23 (Operand.tmp 17) (Operand.tmp 17), type := 23, pos := "list.go:153", after := #[{ on := 3, ground := Ground.data }, { on := 3, ground := Ground.data }], guard := none }) (by kernel_rfl) (by kernel_rfl) (fun K hK => ?_)
    refine step_make 23 2 (.tmp 17) (by kernel_rfl) (.int .i64 0) 1 8 n Tryd.underlying23 info_i64 (by kernel_rfl) (by have := hnH.out; have := hmH.out; omega) (by have := hnH.out; have := hmH.out; omega) (hK _ _ ?_)
    clear hK K
    have hN4 : Nw w _ n m _ := hN0.make 1
    generalize hzw4 : wd.alloc (.cells (madeCells (Value.cells (.int .i64 0)) (n * 1)) 2) = w4
    rw [show wd.alloc (wob n m 1) = w4 from hzw4] at hN4
    clear hzw4
    simp only [Act.put, List.setIfInBounds_toArray, List.set_cons_succ, List.set_cons_zero]
    refine Tkc.manyC [2, 6, 8] (by kernel_rfl) (by decide) (fun _ => trivial) ?_
    intro ix hix
    rcases (show ix = 2 ∨ ix = 6 ∨ ix = 8 by simpa using hix) with rfl | rfl | rfl
    · clear hix
      refine Tkc.opC (i := 2) (o := { dst := some 16, op := Op.makeSlice 43 (Operand.tmp 15) (Operand.tmp 15), type := 43, pos := "list.go:153", after := #[{ on := 1, ground := Ground.data }, { on := 1, ground := Ground.data }], guard := none }) (by kernel_rfl) (by kernel_rfl) (fun K hK => ?_)
      refine step_make 43 47 (.tmp 15) (by kernel_rfl) (.slice none 0 0) 1 24 n Tryd.underlying43 info_row (by kernel_rfl) (by have := hnH.out; have := hmH.out; omega) (by have := hnH.out; have := hmH.out; omega) (hK _ _ ?_)
      clear hK K
      have hN42 : Nw w _ n m _ := hN4.make 0
      generalize hzw42 : w4.alloc (.cells (madeCells (Value.cells (.slice none 0 0)) (n * 1)) 47) = w42
      rw [show w4.alloc (wob n m 0) = w42 from hzw42] at hN42
      clear hzw42
      simp only [Act.put, List.setIfInBounds_toArray, List.set_cons_succ, List.set_cons_zero]
      refine Tkc.manyC [6, 8] (by kernel_rfl) (by decide) (fun _ => trivial) ?_
      intro ix hix
      rcases (show ix = 6 ∨ ix = 8 by simpa using hix) with rfl | rfl
      · clear hix
        refine Tkc.opC (i := 6) (o := { dst := some 20, op := Op.makeSlice 23 (Operand.tmp 19) (Operand.tmp 19), type := 23, pos := "list.go:153", after := #[{ on := 5, ground := Ground.data }, { on := 5, ground := Ground.data }], guard := none }) (by kernel_rfl) (by kernel_rfl) (fun K hK => ?_)
        refine step_make 23 2 (.tmp 19) (by kernel_rfl) (.int .i64 0) 1 8 m Tryd.underlying23 info_i64 (by kernel_rfl) (by have := hnH.out; have := hmH.out; omega) (by have := hnH.out; have := hmH.out; omega) (hK _ _ ?_)
        clear hK K
        have hN426 : Nw w _ n m _ := hN42.make 2
        generalize hzw426 : w42.alloc (.cells (madeCells (Value.cells (.int .i64 0)) (m * 1)) 2) = w426
        rw [show w42.alloc (wob n m 2) = w426 from hzw426] at hN426
        clear hzw426
        simp only [Act.put, List.setIfInBounds_toArray, List.set_cons_succ, List.set_cons_zero]
        refine Tkc.onlyC (i := 8) (o := { dst := some 22, op := Op.makeSlice 24 (Operand.tmp 21) (Operand.tmp 21), type := 24, pos := "list.go:153", after := #[{ on := 7, ground := Ground.data }, { on := 7, ground := Ground.data }], guard := none }) (by kernel_rfl) (by kernel_rfl) (fun _ => trivial) (by kernel_rfl) (fun K hK => ?_)
        refine step_make 24 50 (.tmp 21) (by kernel_rfl) (.agg #[.int .i64 0, .int .i64 0]) 2 16 n Tryd.underlying24 info_turn (by kernel_rfl) (by have := hnH.out; have := hmH.out; omega) (by have := hnH.out; have := hmH.out; omega) (hK _ _ ?_)
        clear hK K
        have hN4268 : Nw w _ n m _ := hN426.make 3
        generalize hzw4268 : w426.alloc (.cells (madeCells (Value.cells (.agg #[.int .i64 0, .int .i64 0])) (n * 2)) 50) = w4268
        rw [show w426.alloc (wob n m 3) = w4268 from hzw4268] at hN4268
        clear hzw4268
        simp only [Act.put, List.setIfInBounds_toArray, List.set_cons_succ, List.set_cons_zero]
        refine Tkc.takeC (i := 9) (oi := { dst := some 23, op := Op.build 45 #[(0, Operand.tmp 14), (1, Operand.tmp 16), (2, Operand.tmp 18), (3, Operand.tmp 20), (4, Operand.tmp 22)], type := 45, pos := "list.go:153", after := #[{ on := 0, ground := Ground.data }, { on := 2, ground := Ground.data }, { on := 4, ground := Ground.data }, { on := 6, ground := Ground.data }, { on := 8, ground := Ground.data }], guard := none }) (v := .agg #[.slice pd n cd, .slice (some ⟨w4.heap.size, 0, none⟩) n n, .slice (some ⟨wd.heap.size, 0, none⟩) n n, .slice (some ⟨w42.heap.size, 0, none⟩) m m, .slice (some ⟨w426.heap.size, 0, none⟩) n n]) (by kernel_rfl) (by kernel_rfl) (by kernel_rfl) (by kernel_rfl) (fun c a w h => hQ c a w _ _ h) (by decide) (by kernel_rfl) (by kernel_rfl) trivial ⟨by kernel_rfl, fun wq hw => by go_simp⟩ ?_
        simp only [Act.put, List.setIfInBounds_toArray, List.set_cons_succ, List.set_cons_zero]
        refine Tkc.onlyC (i := 10) (o := { dst := some 24, op := Op.box 45 (Operand.tmp 23), type := 40, pos := "list.go:153", after := #[{ on := 9, ground := Ground.data }], guard := none }) (by kernel_rfl) (by kernel_rfl) (fun _ => trivial) (by kernel_rfl) (fun K hK => ?_)
        go_simp
        refine hK _ _ ?_
        clear hK K
        try simp only [Act.put, List.setIfInBounds_toArray, List.set_cons_succ, List.set_cons_zero]
        refine Tkc.takeC (i := 11) (oi := { dst := some 8, op := Op.assign (Operand.tmp 24), type := 40, pos := "list.go:153", after := #[{ on := 10, ground := Ground.data }, { on := 0, ground := Ground.phase }, { on := 1, ground := Ground.phase }, { on := 2, ground := Ground.phase }, { on := 3, ground := Ground.phase }, { on := 4, ground := Ground.phase }, { on := 5, ground := Ground.phase }, { on := 6, ground := Ground.phase }, { on := 7, ground := Ground.phase }, { on := 8, ground := Ground.phase }, { on := 9, ground := Ground.phase }, { on := 10, ground := Ground.phase }], guard := none }) (v := .pointer (some ⟨w4268.heap.size, 0, none⟩)) (by kernel_rfl) (by kernel_rfl) (by kernel_rfl) (by kernel_rfl) (fun c a w h => hQ c a w _ _ h) (by decide) (by kernel_rfl) (by kernel_rfl) trivial ⟨by kernel_rfl, fun wq hw => by go_simp⟩ ?_
        simp only [Act.put, List.setIfInBounds_toArray, List.set_cons_succ, List.set_cons_zero]
        refine Tkc.doneC (by kernel_rfl) (fun _ => trivial) ?_
        exact key _ _ _ _ _ _ (Mw.of hN4268 rfl rfl rfl rfl)
      · clear hix
        refine Tkc.opC (i := 8) (o := { dst := some 22, op := Op.makeSlice 24 (Operand.tmp 21) (Operand.tmp 21), type := 24, pos := "list.go:153", after := #[{ on := 7, ground := Ground.data }, { on := 7, ground := Ground.data }], guard := none }) (by kernel_rfl) (by kernel_rfl) (fun K hK => ?_)
        refine step_make 24 50 (.tmp 21) (by kernel_rfl) (.agg #[.int .i64 0, .int .i64 0]) 2 16 n Tryd.underlying24 info_turn (by kernel_rfl) (by have := hnH.out; have := hmH.out; omega) (by have := hnH.out; have := hmH.out; omega) (hK _ _ ?_)
        clear hK K
        have hN428 : Nw w _ n m _ := hN42.make 3
        generalize hzw428 : w42.alloc (.cells (madeCells (Value.cells (.agg #[.int .i64 0, .int .i64 0])) (n * 2)) 50) = w428
        rw [show w42.alloc (wob n m 3) = w428 from hzw428] at hN428
        clear hzw428
        simp only [Act.put, List.setIfInBounds_toArray, List.set_cons_succ, List.set_cons_zero]
        refine Tkc.onlyC (i := 6) (o := { dst := some 20, op := Op.makeSlice 23 (Operand.tmp 19) (Operand.tmp 19), type := 23, pos := "list.go:153", after := #[{ on := 5, ground := Ground.data }, { on := 5, ground := Ground.data }], guard := none }) (by kernel_rfl) (by kernel_rfl) (fun _ => trivial) (by kernel_rfl) (fun K hK => ?_)
        refine step_make 23 2 (.tmp 19) (by kernel_rfl) (.int .i64 0) 1 8 m Tryd.underlying23 info_i64 (by kernel_rfl) (by have := hnH.out; have := hmH.out; omega) (by have := hnH.out; have := hmH.out; omega) (hK _ _ ?_)
        clear hK K
        have hN4286 : Nw w _ n m _ := hN428.make 2
        generalize hzw4286 : w428.alloc (.cells (madeCells (Value.cells (.int .i64 0)) (m * 1)) 2) = w4286
        rw [show w428.alloc (wob n m 2) = w4286 from hzw4286] at hN4286
        clear hzw4286
        simp only [Act.put, List.setIfInBounds_toArray, List.set_cons_succ, List.set_cons_zero]
        refine Tkc.takeC (i := 9) (oi := { dst := some 23, op := Op.build 45 #[(0, Operand.tmp 14), (1, Operand.tmp 16), (2, Operand.tmp 18), (3, Operand.tmp 20), (4, Operand.tmp 22)], type := 45, pos := "list.go:153", after := #[{ on := 0, ground := Ground.data }, { on := 2, ground := Ground.data }, { on := 4, ground := Ground.data }, { on := 6, ground := Ground.data }, { on := 8, ground := Ground.data }], guard := none }) (v := .agg #[.slice pd n cd, .slice (some ⟨w4.heap.size, 0, none⟩) n n, .slice (some ⟨wd.heap.size, 0, none⟩) n n, .slice (some ⟨w428.heap.size, 0, none⟩) m m, .slice (some ⟨w42.heap.size, 0, none⟩) n n]) (by kernel_rfl) (by kernel_rfl) (by kernel_rfl) (by kernel_rfl) (fun c a w h => hQ c a w _ _ h) (by decide) (by kernel_rfl) (by kernel_rfl) trivial ⟨by kernel_rfl, fun wq hw => by go_simp⟩ ?_
        simp only [Act.put, List.setIfInBounds_toArray, List.set_cons_succ, List.set_cons_zero]
        refine Tkc.onlyC (i := 10) (o := { dst := some 24, op := Op.box 45 (Operand.tmp 23), type := 40, pos := "list.go:153", after := #[{ on := 9, ground := Ground.data }], guard := none }) (by kernel_rfl) (by kernel_rfl) (fun _ => trivial) (by kernel_rfl) (fun K hK => ?_)
        go_simp
        refine hK _ _ ?_
        clear hK K
        try simp only [Act.put, List.setIfInBounds_toArray, List.set_cons_succ, List.set_cons_zero]
        refine Tkc.takeC (i := 11) (oi := { dst := some 8, op := Op.assign (Operand.tmp 24), type := 40, pos := "list.go:153", after := #[{ on := 10, ground := Ground.data }, { on := 0, ground := Ground.phase }, { on := 1, ground := Ground.phase }, { on := 2, ground := Ground.phase }, { on := 3, ground := Ground.phase }, { on := 4, ground := Ground.phase }, { on := 5, ground := Ground.phase }, { on := 6, ground := Ground.phase }, { on := 7, ground := Ground.phase }, { on := 8, ground := Ground.phase }, { on := 9, ground := Ground.phase }, { on := 10, ground := Ground.phase }], guard := none }) (v := .pointer (some ⟨w4286.heap.size, 0, none⟩)) (by kernel_rfl) (by kernel_rfl) (by kernel_rfl) (by kernel_rfl) (fun c a w h => hQ c a w _ _ h) (by decide) (by kernel_rfl) (by kernel_rfl) trivial ⟨by kernel_rfl, fun wq hw => by go_simp⟩ ?_
        simp only [Act.put, List.setIfInBounds_toArray, List.set_cons_succ, List.set_cons_zero]
        refine Tkc.doneC (by kernel_rfl) (fun _ => trivial) ?_
        exact key _ _ _ _ _ _ (Mw.of hN4286 rfl rfl rfl rfl)
    · clear hix
      refine Tkc.opC (i := 6) (o := { dst := some 20, op := Op.makeSlice 23 (Operand.tmp 19) (Operand.tmp 19), type := 23, pos := "list.go:153", after := #[{ on := 5, ground := Ground.data }, { on := 5, ground := Ground.data }], guard := none }) (by kernel_rfl) (by kernel_rfl) (fun K hK => ?_)
      refine step_make 23 2 (.tmp 19) (by kernel_rfl) (.int .i64 0) 1 8 m Tryd.underlying23 info_i64 (by kernel_rfl) (by have := hnH.out; have := hmH.out; omega) (by have := hnH.out; have := hmH.out; omega) (hK _ _ ?_)
      clear hK K
      have hN46 : Nw w _ n m _ := hN4.make 2
      generalize hzw46 : w4.alloc (.cells (madeCells (Value.cells (.int .i64 0)) (m * 1)) 2) = w46
      rw [show w4.alloc (wob n m 2) = w46 from hzw46] at hN46
      clear hzw46
      simp only [Act.put, List.setIfInBounds_toArray, List.set_cons_succ, List.set_cons_zero]
      refine Tkc.manyC [2, 8] (by kernel_rfl) (by decide) (fun _ => trivial) ?_
      intro ix hix
      rcases (show ix = 2 ∨ ix = 8 by simpa using hix) with rfl | rfl
      · clear hix
        refine Tkc.opC (i := 2) (o := { dst := some 16, op := Op.makeSlice 43 (Operand.tmp 15) (Operand.tmp 15), type := 43, pos := "list.go:153", after := #[{ on := 1, ground := Ground.data }, { on := 1, ground := Ground.data }], guard := none }) (by kernel_rfl) (by kernel_rfl) (fun K hK => ?_)
        refine step_make 43 47 (.tmp 15) (by kernel_rfl) (.slice none 0 0) 1 24 n Tryd.underlying43 info_row (by kernel_rfl) (by have := hnH.out; have := hmH.out; omega) (by have := hnH.out; have := hmH.out; omega) (hK _ _ ?_)
        clear hK K
        have hN462 : Nw w _ n m _ := hN46.make 0
        generalize hzw462 : w46.alloc (.cells (madeCells (Value.cells (.slice none 0 0)) (n * 1)) 47) = w462
        rw [show w46.alloc (wob n m 0) = w462 from hzw462] at hN462
        clear hzw462
        simp only [Act.put, List.setIfInBounds_toArray, List.set_cons_succ, List.set_cons_zero]
        refine Tkc.onlyC (i := 8) (o := { dst := some 22, op := Op.makeSlice 24 (Operand.tmp 21) (Operand.tmp 21), type := 24, pos := "list.go:153", after := #[{ on := 7, ground := Ground.data }, { on := 7, ground := Ground.data }], guard := none }) (by kernel_rfl) (by kernel_rfl) (fun _ => trivial) (by kernel_rfl) (fun K hK => ?_)
        refine step_make 24 50 (.tmp 21) (by kernel_rfl) (.agg #[.int .i64 0, .int .i64 0]) 2 16 n Tryd.underlying24 info_turn (by kernel_rfl) (by have := hnH.out; have := hmH.out; omega) (by have := hnH.out; have := hmH.out; omega) (hK _ _ ?_)
        clear hK K
        have hN4628 : Nw w _ n m _ := hN462.make 3
        generalize hzw4628 : w462.alloc (.cells (madeCells (Value.cells (.agg #[.int .i64 0, .int .i64 0])) (n * 2)) 50) = w4628
        rw [show w462.alloc (wob n m 3) = w4628 from hzw4628] at hN4628
        clear hzw4628
        simp only [Act.put, List.setIfInBounds_toArray, List.set_cons_succ, List.set_cons_zero]
        refine Tkc.takeC (i := 9) (oi := { dst := some 23, op := Op.build 45 #[(0, Operand.tmp 14), (1, Operand.tmp 16), (2, Operand.tmp 18), (3, Operand.tmp 20), (4, Operand.tmp 22)], type := 45, pos := "list.go:153", after := #[{ on := 0, ground := Ground.data }, { on := 2, ground := Ground.data }, { on := 4, ground := Ground.data }, { on := 6, ground := Ground.data }, { on := 8, ground := Ground.data }], guard := none }) (v := .agg #[.slice pd n cd, .slice (some ⟨w46.heap.size, 0, none⟩) n n, .slice (some ⟨wd.heap.size, 0, none⟩) n n, .slice (some ⟨w4.heap.size, 0, none⟩) m m, .slice (some ⟨w462.heap.size, 0, none⟩) n n]) (by kernel_rfl) (by kernel_rfl) (by kernel_rfl) (by kernel_rfl) (fun c a w h => hQ c a w _ _ h) (by decide) (by kernel_rfl) (by kernel_rfl) trivial ⟨by kernel_rfl, fun wq hw => by go_simp⟩ ?_
        simp only [Act.put, List.setIfInBounds_toArray, List.set_cons_succ, List.set_cons_zero]
        refine Tkc.onlyC (i := 10) (o := { dst := some 24, op := Op.box 45 (Operand.tmp 23), type := 40, pos := "list.go:153", after := #[{ on := 9, ground := Ground.data }], guard := none }) (by kernel_rfl) (by kernel_rfl) (fun _ => trivial) (by kernel_rfl) (fun K hK => ?_)
        go_simp
        refine hK _ _ ?_
        clear hK K
        try simp only [Act.put, List.setIfInBounds_toArray, List.set_cons_succ, List.set_cons_zero]
        refine Tkc.takeC (i := 11) (oi := { dst := some 8, op := Op.assign (Operand.tmp 24), type := 40, pos := "list.go:153", after := #[{ on := 10, ground := Ground.data }, { on := 0, ground := Ground.phase }, { on := 1, ground := Ground.phase }, { on := 2, ground := Ground.phase }, { on := 3, ground := Ground.phase }, { on := 4, ground := Ground.phase }, { on := 5, ground := Ground.phase }, { on := 6, ground := Ground.phase }, { on := 7, ground := Ground.phase }, { on := 8, ground := Ground.phase }, { on := 9, ground := Ground.phase }, { on := 10, ground := Ground.phase }], guard := none }) (v := .pointer (some ⟨w4628.heap.size, 0, none⟩)) (by kernel_rfl) (by kernel_rfl) (by kernel_rfl) (by kernel_rfl) (fun c a w h => hQ c a w _ _ h) (by decide) (by kernel_rfl) (by kernel_rfl) trivial ⟨by kernel_rfl, fun wq hw => by go_simp⟩ ?_
        simp only [Act.put, List.setIfInBounds_toArray, List.set_cons_succ, List.set_cons_zero]
        refine Tkc.doneC (by kernel_rfl) (fun _ => trivial) ?_
        exact key _ _ _ _ _ _ (Mw.of hN4628 rfl rfl rfl rfl)
      · clear hix
        refine Tkc.opC (i := 8) (o := { dst := some 22, op := Op.makeSlice 24 (Operand.tmp 21) (Operand.tmp 21), type := 24, pos := "list.go:153", after := #[{ on := 7, ground := Ground.data }, { on := 7, ground := Ground.data }], guard := none }) (by kernel_rfl) (by kernel_rfl) (fun K hK => ?_)
        refine step_make 24 50 (.tmp 21) (by kernel_rfl) (.agg #[.int .i64 0, .int .i64 0]) 2 16 n Tryd.underlying24 info_turn (by kernel_rfl) (by have := hnH.out; have := hmH.out; omega) (by have := hnH.out; have := hmH.out; omega) (hK _ _ ?_)
        clear hK K
        have hN468 : Nw w _ n m _ := hN46.make 3
        generalize hzw468 : w46.alloc (.cells (madeCells (Value.cells (.agg #[.int .i64 0, .int .i64 0])) (n * 2)) 50) = w468
        rw [show w46.alloc (wob n m 3) = w468 from hzw468] at hN468
        clear hzw468
        simp only [Act.put, List.setIfInBounds_toArray, List.set_cons_succ, List.set_cons_zero]
        refine Tkc.onlyC (i := 2) (o := { dst := some 16, op := Op.makeSlice 43 (Operand.tmp 15) (Operand.tmp 15), type := 43, pos := "list.go:153", after := #[{ on := 1, ground := Ground.data }, { on := 1, ground := Ground.data }], guard := none }) (by kernel_rfl) (by kernel_rfl) (fun _ => trivial) (by kernel_rfl) (fun K hK => ?_)
        refine step_make 43 47 (.tmp 15) (by kernel_rfl) (.slice none 0 0) 1 24 n Tryd.underlying43 info_row (by kernel_rfl) (by have := hnH.out; have := hmH.out; omega) (by have := hnH.out; have := hmH.out; omega) (hK _ _ ?_)
        clear hK K
        have hN4682 : Nw w _ n m _ := hN468.make 0
        generalize hzw4682 : w468.alloc (.cells (madeCells (Value.cells (.slice none 0 0)) (n * 1)) 47) = w4682
        rw [show w468.alloc (wob n m 0) = w4682 from hzw4682] at hN4682
        clear hzw4682
        simp only [Act.put, List.setIfInBounds_toArray, List.set_cons_succ, List.set_cons_zero]
        refine Tkc.takeC (i := 9) (oi := { dst := some 23, op := Op.build 45 #[(0, Operand.tmp 14), (1, Operand.tmp 16), (2, Operand.tmp 18), (3, Operand.tmp 20), (4, Operand.tmp 22)], type := 45, pos := "list.go:153", after := #[{ on := 0, ground := Ground.data }, { on := 2, ground := Ground.data }, { on := 4, ground := Ground.data }, { on := 6, ground := Ground.data }, { on := 8, ground := Ground.data }], guard := none }) (v := .agg #[.slice pd n cd, .slice (some ⟨w468.heap.size, 0, none⟩) n n, .slice (some ⟨wd.heap.size, 0, none⟩) n n, .slice (some ⟨w4.heap.size, 0, none⟩) m m, .slice (some ⟨w46.heap.size, 0, none⟩) n n]) (by kernel_rfl) (by kernel_rfl) (by kernel_rfl) (by kernel_rfl) (fun c a w h => hQ c a w _ _ h) (by decide) (by kernel_rfl) (by kernel_rfl) trivial ⟨by kernel_rfl, fun wq hw => by go_simp⟩ ?_
        simp only [Act.put, List.setIfInBounds_toArray, List.set_cons_succ, List.set_cons_zero]
        refine Tkc.onlyC (i := 10) (o := { dst := some 24, op := Op.box 45 (Operand.tmp 23), type := 40, pos := "list.go:153", after := #[{ on := 9, ground := Ground.data }], guard := none }) (by kernel_rfl) (by kernel_rfl) (fun _ => trivial) (by kernel_rfl) (fun K hK => ?_)
        go_simp
        refine hK _ _ ?_
        clear hK K
        try simp only [Act.put, List.setIfInBounds_toArray, List.set_cons_succ, List.set_cons_zero]
        refine Tkc.takeC (i := 11) (oi := { dst := some 8, op := Op.assign (Operand.tmp 24), type := 40, pos := "list.go:153", after := #[{ on := 10, ground := Ground.data }, { on := 0, ground := Ground.phase }, { on := 1, ground := Ground.phase }, { on := 2, ground := Ground.phase }, { on := 3, ground := Ground.phase }, { on := 4, ground := Ground.phase }, { on := 5, ground := Ground.phase }, { on := 6, ground := Ground.phase }, { on := 7, ground := Ground.phase }, { on := 8, ground := Ground.phase }, { on := 9, ground := Ground.phase }, { on := 10, ground := Ground.phase }], guard := none }) (v := .pointer (some ⟨w4682.heap.size, 0, none⟩)) (by kernel_rfl) (by kernel_rfl) (by kernel_rfl) (by kernel_rfl) (fun c a w h => hQ c a w _ _ h) (by decide) (by kernel_rfl) (by kernel_rfl) trivial ⟨by kernel_rfl, fun wq hw => by go_simp⟩ ?_
        simp only [Act.put, List.setIfInBounds_toArray, List.set_cons_succ, List.set_cons_zero]
        refine Tkc.doneC (by kernel_rfl) (fun _ => trivial) ?_
        exact key _ _ _ _ _ _ (Mw.of hN4682 rfl rfl rfl rfl)
    · clear hix
      refine Tkc.opC (i := 8) (o := { dst := some 22, op := Op.makeSlice 24 (Operand.tmp 21) (Operand.tmp 21), type := 24, pos := "list.go:153", after := #[{ on := 7, ground := Ground.data }, { on := 7, ground := Ground.data }], guard := none }) (by kernel_rfl) (by kernel_rfl) (fun K hK => ?_)
      refine step_make 24 50 (.tmp 21) (by kernel_rfl) (.agg #[.int .i64 0, .int .i64 0]) 2 16 n Tryd.underlying24 info_turn (by kernel_rfl) (by have := hnH.out; have := hmH.out; omega) (by have := hnH.out; have := hmH.out; omega) (hK _ _ ?_)
      clear hK K
      have hN48 : Nw w _ n m _ := hN4.make 3
      generalize hzw48 : w4.alloc (.cells (madeCells (Value.cells (.agg #[.int .i64 0, .int .i64 0])) (n * 2)) 50) = w48
      rw [show w4.alloc (wob n m 3) = w48 from hzw48] at hN48
      clear hzw48
      simp only [Act.put, List.setIfInBounds_toArray, List.set_cons_succ, List.set_cons_zero]
      refine Tkc.manyC [2, 6] (by kernel_rfl) (by decide) (fun _ => trivial) ?_
      intro ix hix
      rcases (show ix = 2 ∨ ix = 6 by simpa using hix) with rfl | rfl
      · clear hix
        refine Tkc.opC (i := 2) (o := { dst := some 16, op := Op.makeSlice 43 (Operand.tmp 15) (Operand.tmp 15), type := 43, pos := "list.go:153", after := #[{ on := 1, ground := Ground.data }, { on := 1, ground := Ground.data }], guard := none }) (by kernel_rfl) (by kernel_rfl) (fun K hK => ?_)
        refine step_make 43 47 (.tmp 15) (by kernel_rfl) (.slice none 0 0) 1 24 n Tryd.underlying43 info_row (by kernel_rfl) (by have := hnH.out; have := hmH.out; omega) (by have := hnH.out; have := hmH.out; omega) (hK _ _ ?_)
        clear hK K
        have hN482 : Nw w _ n m _ := hN48.make 0
        generalize hzw482 : w48.alloc (.cells (madeCells (Value.cells (.slice none 0 0)) (n * 1)) 47) = w482
        rw [show w48.alloc (wob n m 0) = w482 from hzw482] at hN482
        clear hzw482
        simp only [Act.put, List.setIfInBounds_toArray, List.set_cons_succ, List.set_cons_zero]
        refine Tkc.onlyC (i := 6) (o := { dst := some 20, op := Op.makeSlice 23 (Operand.tmp 19) (Operand.tmp 19), type := 23, pos := "list.go:153", after := #[{ on := 5, ground := Ground.data }, { on := 5, ground := Ground.data }], guard := none }) (by kernel_rfl) (by kernel_rfl) (fun _ => trivial) (by kernel_rfl) (fun K hK => ?_)
        refine step_make 23 2 (.tmp 19) (by kernel_rfl) (.int .i64 0) 1 8 m Tryd.underlying23 info_i64 (by kernel_rfl) (by have := hnH.out; have := hmH.out; omega) (by have := hnH.out; have := hmH.out; omega) (hK _ _ ?_)
        clear hK K
        have hN4826 : Nw w _ n m _ := hN482.make 2
        generalize hzw4826 : w482.alloc (.cells (madeCells (Value.cells (.int .i64 0)) (m * 1)) 2) = w4826
        rw [show w482.alloc (wob n m 2) = w4826 from hzw4826] at hN4826
        clear hzw4826
        simp only [Act.put, List.setIfInBounds_toArray, List.set_cons_succ, List.set_cons_zero]
        refine Tkc.takeC (i := 9) (oi := { dst := some 23, op := Op.build 45 #[(0, Operand.tmp 14), (1, Operand.tmp 16), (2, Operand.tmp 18), (3, Operand.tmp 20), (4, Operand.tmp 22)], type := 45, pos := "list.go:153", after := #[{ on := 0, ground := Ground.data }, { on := 2, ground := Ground.data }, { on := 4, ground := Ground.data }, { on := 6, ground := Ground.data }, { on := 8, ground := Ground.data }], guard := none }) (v := .agg #[.slice pd n cd, .slice (some ⟨w48.heap.size, 0, none⟩) n n, .slice (some ⟨wd.heap.size, 0, none⟩) n n, .slice (some ⟨w482.heap.size, 0, none⟩) m m, .slice (some ⟨w4.heap.size, 0, none⟩) n n]) (by kernel_rfl) (by kernel_rfl) (by kernel_rfl) (by kernel_rfl) (fun c a w h => hQ c a w _ _ h) (by decide) (by kernel_rfl) (by kernel_rfl) trivial ⟨by kernel_rfl, fun wq hw => by go_simp⟩ ?_
        simp only [Act.put, List.setIfInBounds_toArray, List.set_cons_succ, List.set_cons_zero]
        refine Tkc.onlyC (i := 10) (o := { dst := some 24, op := Op.box 45 (Operand.tmp 23), type := 40, pos := "list.go:153", after := #[{ on := 9, ground := Ground.data }], guard := none }) (by kernel_rfl) (by kernel_rfl) (fun _ => trivial) (by kernel_rfl) (fun K hK => ?_)
        go_simp
        refine hK _ _ ?_
        clear hK K
        try simp only [Act.put, List.setIfInBounds_toArray, List.set_cons_succ, List.set_cons_zero]
        refine Tkc.takeC (i := 11) (oi := { dst := some 8, op := Op.assign (Operand.tmp 24), type := 40, pos := "list.go:153", after := #[{ on := 10, ground := Ground.data }, { on := 0, ground := Ground.phase }, { on := 1, ground := Ground.phase }, { on := 2, ground := Ground.phase }, { on := 3, ground := Ground.phase }, { on := 4, ground := Ground.phase }, { on := 5, ground := Ground.phase }, { on := 6, ground := Ground.phase }, { on := 7, ground := Ground.phase }, { on := 8, ground := Ground.phase }, { on := 9, ground := Ground.phase }, { on := 10, ground := Ground.phase }], guard := none }) (v := .pointer (some ⟨w4826.heap.size, 0, none⟩)) (by kernel_rfl) (by kernel_rfl) (by kernel_rfl) (by kernel_rfl) (fun c a w h => hQ c a w _ _ h) (by decide) (by kernel_rfl) (by kernel_rfl) trivial ⟨by kernel_rfl, fun wq hw => by go_simp⟩ ?_
        simp only [Act.put, List.setIfInBounds_toArray, List.set_cons_succ, List.set_cons_zero]
        refine Tkc.doneC (by kernel_rfl) (fun _ => trivial) ?_
        exact key _ _ _ _ _ _ (Mw.of hN4826 rfl rfl rfl rfl)
      · clear hix
        refine Tkc.opC (i := 6) (o := { dst := some 20, op := Op.makeSlice 23 (Operand.tmp 19) (Operand.tmp 19), type := 23, pos := "list.go:153", after := #[{ on := 5, ground := Ground.data }, { on := 5, ground := Ground.data }], guard := none }) (by kernel_rfl) (by kernel_rfl) (fun K hK => ?_)
        refine step_make 23 2 (.tmp 19) (by kernel_rfl) (.int .i64 0) 1 8 m Tryd.underlying23 info_i64 (by kernel_rfl) (by have := hnH.out; have := hmH.out; omega) (by have := hnH.out; have := hmH.out; omega) (hK _ _ ?_)
        clear hK K
        have hN486 : Nw w _ n m _ := hN48.make 2
        generalize hzw486 : w48.alloc (.cells (madeCells (Value.cells (.int .i64 0)) (m * 1)) 2) = w486
        rw [show w48.alloc (wob n m 2) = w486 from hzw486] at hN486
        clear hzw486
        simp only [Act.put, List.setIfInBounds_toArray, List.set_cons_succ, List.set_cons_zero]
        refine Tkc.onlyC (i := 2) (o := { dst := some 16, op := Op.makeSlice 43 (Operand.tmp 15) (Operand.tmp 15), type := 43, pos := "list.go:153", after := #[{ on := 1, ground := Ground.data }, { on := 1, ground := Ground.data }], guard := none }) (by kernel_rfl) (by kernel_rfl) (fun _ => trivial) (by kernel_rfl) (fun K hK => ?_)
        refine step_make 43 47 (.tmp 15) (by kernel_rfl) (.slice none 0 0) 1 24 n Tryd.underlying43 info_row (by kernel_rfl) (by have := hnH.out; have := hmH.out; omega) (by have := hnH.out; have := hmH.out; omega) (hK _ _ ?_)
        clear hK K
        have hN4862 : Nw w _ n m _ := hN486.make 0
        generalize hzw4862 : w486.alloc (.cells (madeCells (Value.cells (.slice none 0 0)) (n * 1)) 47) = w4862
        rw [show w486.alloc (wob n m 0) = w4862 from hzw4862] at hN4862
        clear hzw4862
        simp only [Act.put, List.setIfInBounds_toArray, List.set_cons_succ, List.set_cons_zero]
        refine Tkc.takeC (i := 9) (oi := { dst := some 23, op := Op.build 45 #[(0, Operand.tmp 14), (1, Operand.tmp 16), (2, Operand.tmp 18), (3, Operand.tmp 20), (4, Operand.tmp 22)], type := 45, pos := "list.go:153", after := #[{ on := 0, ground := Ground.data }, { on := 2, ground := Ground.data }, { on := 4, ground := Ground.data }, { on := 6, ground := Ground.data }, { on := 8, ground := Ground.data }], guard := none }) (v := .agg #[.slice pd n cd, .slice (some ⟨w486.heap.size, 0, none⟩) n n, .slice (some ⟨wd.heap.size, 0, none⟩) n n, .slice (some ⟨w48.heap.size, 0, none⟩) m m, .slice (some ⟨w4.heap.size, 0, none⟩) n n]) (by kernel_rfl) (by kernel_rfl) (by kernel_rfl) (by kernel_rfl) (fun c a w h => hQ c a w _ _ h) (by decide) (by kernel_rfl) (by kernel_rfl) trivial ⟨by kernel_rfl, fun wq hw => by go_simp⟩ ?_
        simp only [Act.put, List.setIfInBounds_toArray, List.set_cons_succ, List.set_cons_zero]
        refine Tkc.onlyC (i := 10) (o := { dst := some 24, op := Op.box 45 (Operand.tmp 23), type := 40, pos := "list.go:153", after := #[{ on := 9, ground := Ground.data }], guard := none }) (by kernel_rfl) (by kernel_rfl) (fun _ => trivial) (by kernel_rfl) (fun K hK => ?_)
        go_simp
        refine hK _ _ ?_
        clear hK K
        try simp only [Act.put, List.setIfInBounds_toArray, List.set_cons_succ, List.set_cons_zero]
        refine Tkc.takeC (i := 11) (oi := { dst := some 8, op := Op.assign (Operand.tmp 24), type := 40, pos := "list.go:153", after := #[{ on := 10, ground := Ground.data }, { on := 0, ground := Ground.phase }, { on := 1, ground := Ground.phase }, { on := 2, ground := Ground.phase }, { on := 3, ground := Ground.phase }, { on := 4, ground := Ground.phase }, { on := 5, ground := Ground.phase }, { on := 6, ground := Ground.phase }, { on := 7, ground := Ground.phase }, { on := 8, ground := Ground.phase }, { on := 9, ground := Ground.phase }, { on := 10, ground := Ground.phase }], guard := none }) (v := .pointer (some ⟨w4862.heap.size, 0, none⟩)) (by kernel_rfl) (by kernel_rfl) (by kernel_rfl) (by kernel_rfl) (fun c a w h => hQ c a w _ _ h) (by decide) (by kernel_rfl) (by kernel_rfl) trivial ⟨by kernel_rfl, fun wq hw => by go_simp⟩ ?_
        simp only [Act.put, List.setIfInBounds_toArray, List.set_cons_succ, List.set_cons_zero]
        refine Tkc.doneC (by kernel_rfl) (fun _ => trivial) ?_
        exact key _ _ _ _ _ _ (Mw.of hN4862 rfl rfl rfl rfl)
  · clear hix
    refine Tkc.opC (i := 6) (o := { dst := some 20, op := Op.makeSlice 23 (Operand.tmp 19) (Operand.tmp 19), type := 23, pos := "list.go:153", after := #[{ on := 5, ground := Ground.data }, { on := 5, ground := Ground.data }], guard := none }) (by kernel_rfl) (by kernel_rfl) (fun K hK => ?_)
    refine step_make 23 2 (.tmp 19) (by kernel_rfl) (.int .i64 0) 1 8 m Tryd.underlying23 info_i64 (by kernel_rfl) (by have := hnH.out; have := hmH.out; omega) (by have := hnH.out; have := hmH.out; omega) (hK _ _ ?_)
    clear hK K
    have hN6 : Nw w _ n m _ := hN0.make 2
    generalize hzw6 : wd.alloc (.cells (madeCells (Value.cells (.int .i64 0)) (m * 1)) 2) = w6
    rw [show wd.alloc (wob n m 2) = w6 from hzw6] at hN6
    clear hzw6
    simp only [Act.put, List.setIfInBounds_toArray, List.set_cons_succ, List.set_cons_zero]
    refine Tkc.manyC [2, 4, 8] (by kernel_rfl) (by decide) (fun _ => trivial) ?_
    intro ix hix
    rcases (show ix = 2 ∨ ix = 4 ∨ ix = 8 by simpa using hix) with rfl | rfl | rfl
    · clear hix
      refine Tkc.opC (i := 2) (o := { dst := some 16, op := Op.makeSlice 43 (Operand.tmp 15) (Operand.tmp 15), type := 43, pos := "list.go:153", after := #[{ on := 1, ground := Ground.data }, { on := 1, ground := Ground.data }], guard := none }) (by kernel_rfl) (by kernel_rfl) (fun K hK => ?_)
      refine step_make 43 47 (.tmp 15) (by kernel_rfl) (.slice none 0 0) 1 24 n Tryd.underlying43 info_row (by kernel_rfl) (by have := hnH.out; have := hmH.out; omega) (by have := hnH.out; have := hmH.out; omega) (hK _ _ ?_)
      clear hK K
      have hN62 : Nw w _ n m _ := hN6.make 0
      generalize hzw62 : w6.alloc (.cells (madeCells (Value.cells (.slice none 0 0)) (n * 1)) 47) = w62
      rw [show w6.alloc (wob n m 0) = w62 from hzw62] at hN62
      clear hzw62
      simp only [Act.put, List.setIfInBounds_toArray, List.set_cons_succ, List.set_cons_zero]
      refine Tkc.manyC [4, 8] (by kernel_rfl) (by decide) (fun _ => trivial) ?_
      intro ix hix
      rcases (show ix = 4 ∨ ix = 8 by simpa using hix) with rfl | rfl
      · clear hix
        refine Tkc.opC (i := 4) (o := { dst := some 18, op := Op.makeSlice 23 (Operand.tmp 17) (Operand.tmp 17), type := 23, pos := "list.go:153", after := #[{ on := 3, ground := Ground.data }, { on := 3, ground := Ground.data }], guard := none }) (by kernel_rfl) (by kernel_rfl) (fun K hK => ?_)
        refine step_make 23 2 (.tmp 17) (by kernel_rfl) (.int .i64 0) 1 8 n Tryd.underlying23 info_i64 (by kernel_rfl) (by have := hnH.out; have := hmH.out; omega) (by have := hnH.out; have := hmH.out; omega) (hK _ _ ?_)
        clear hK K
        have hN624 : Nw w _ n m _ := hN62.make 1
        generalize hzw624 : w62.alloc (.cells (madeCells (Value.cells (.int .i64 0)) (n * 1)) 2) = w624
        rw [show w62.alloc (wob n m 1) = w624 from hzw624] at hN624
        clear hzw624
        simp only [Act.put, List.setIfInBounds_toArray, List.set_cons_succ, List.set_cons_zero]
        refine Tkc.onlyC (i := 8) (o := { dst := some 22, op := Op.makeSlice 24 (Operand.tmp 21) (Operand.tmp 21), type := 24, pos := "list.go:153", after := #[{ on := 7, ground := Ground.data }, { on := 7, ground := Ground.data }], guard := none }) (by kernel_rfl) (by kernel_rfl) (fun _ => trivial) (by kernel_rfl) (fun K hK => ?_)
        refine step_make 24 50 (.tmp 21) (by kernel_rfl) (.agg #[.int .i64 0, .int .i64 0]) 2 16 n Tryd.underlying24 info_turn (by kernel_rfl) (by have := hnH.out; have := hmH.out; omega) (by have := hnH.out; have := hmH.out; omega) (hK _ _ ?_)
        clear hK K
        have hN6248 : Nw w _ n m _ := hN624.make 3
        generalize hzw6248 : w624.alloc (.cells (madeCells (Value.cells (.agg #[.int .i64 0, .int .i64 0])) (n * 2)) 50) = w6248
        rw [show w624.alloc (wob n m 3) = w6248 from hzw6248] at hN6248
        clear hzw6248
        simp only [Act.put, List.setIfInBounds_toArray, List.set_cons_succ, List.set_cons_zero]
        refine Tkc.takeC (i := 9) (oi := { dst := some 23, op := Op.build 45 #[(0, Operand.tmp 14), (1, Operand.tmp 16), (2, Operand.tmp 18), (3, Operand.tmp 20), (4, Operand.tmp 22)], type := 45, pos := "list.go:153", after := #[{ on := 0, ground := Ground.data }, { on := 2, ground := Ground.data }, { on := 4, ground := Ground.data }, { on := 6, ground := Ground.data }, { on := 8, ground := Ground.data }], guard := none }) (v := .agg #[.slice pd n cd, .slice (some ⟨w6.heap.size, 0, none⟩) n n, .slice (some ⟨w62.heap.size, 0, none⟩) n n, .slice (some ⟨wd.heap.size, 0, none⟩) m m, .slice (some ⟨w624.heap.size, 0, none⟩) n n]) (by kernel_rfl) (by kernel_rfl) (by kernel_rfl) (by kernel_rfl) (fun c a w h => hQ c a w _ _ h) (by decide) (by kernel_rfl) (by kernel_rfl) trivial ⟨by kernel_rfl, fun wq hw => by go_simp⟩ ?_
        simp only [Act.put, List.setIfInBounds_toArray, List.set_cons_succ, List.set_cons_zero]
        refine Tkc.onlyC (i := 10) (o := { dst := some 24, op := Op.box 45 (Operand.tmp 23), type := 40, pos := "list.go:153", after := #[{ on := 9, ground := Ground.data }], guard := none }) (by kernel_rfl) (by kernel_rfl) (fun _ => trivial) (by kernel_rfl) (fun K hK => ?_)
        go_simp
        refine hK _ _ ?_
        clear hK K
        try simp only [Act.put, List.setIfInBounds_toArray, List.set_cons_succ, List.set_cons_zero]
        refine Tkc.takeC (i := 11) (oi := { dst := some 8, op := Op.assign (Operand.tmp 24), type := 40, pos := "list.go:153", after := #[{ on := 10, ground := Ground.data }, { on := 0, ground := Ground.phase }, { on := 1, ground := Ground.phase }, { on := 2, ground := Ground.phase }, { on := 3, ground := Ground.phase }, { on := 4, ground := Ground.phase }, { on := 5, ground := Ground.phase }, { on := 6, ground := Ground.phase }, { on := 7, ground := Ground.phase }, { on := 8, ground := Ground.phase }, { on := 9, ground := Ground.phase }, { on := 10, ground := Ground.phase }], guard := none }) (v := .pointer (some ⟨w6248.heap.size, 0, none⟩)) (by kernel_rfl) (by kernel_rfl) (by kernel_rfl) (by kernel_rfl) (fun c a w h => hQ c a w _ _ h) (by decide) (by kernel_rfl) (by kernel_rfl) trivial ⟨by kernel_rfl, fun wq hw => by go_simp⟩ ?_
        simp only [Act.put, List.setIfInBounds_toArray, List.set_cons_succ, List.set_cons_zero]
        refine Tkc.doneC (by kernel_rfl) (fun _ => trivial) ?_
        exact key _ _ _ _ _ _ (Mw.of hN6248 rfl rfl rfl rfl)
      · clear hix
        refine Tkc.opC (i := 8) (o := { dst := some 22, op := Op.makeSlice 24 (Operand.tmp 21) (Operand.tmp 21), type := 24, pos := "list.go:153", after := #[{ on := 7, ground := Ground.data }, { on := 7, ground := Ground.data }], guard := none }) (by kernel_rfl) (by kernel_rfl) (fun K hK => ?_)
        refine step_make 24 50 (.tmp 21) (by kernel_rfl) (.agg #[.int .i64 0, .int .i64 0]) 2 16 n Tryd.underlying24 info_turn (by kernel_rfl) (by have := hnH.out; have := hmH.out; omega) (by have := hnH.out; have := hmH.out; omega) (hK _ _ ?_)
        clear hK K
        have hN628 : Nw w _ n m _ := hN62.make 3
        generalize hzw628 : w62.alloc (.cells (madeCells (Value.cells (.agg #[.int .i64 0, .int .i64 0])) (n * 2)) 50) = w628
        rw [show w62.alloc (wob n m 3) = w628 from hzw628] at hN628
        clear hzw628
        simp only [Act.put, List.setIfInBounds_toArray, List.set_cons_succ, List.set_cons_zero]
        refine Tkc.onlyC (i := 4) (o := { dst := some 18, op := Op.makeSlice 23 (Operand.tmp 17) (Operand.tmp 17), type := 23, pos := "list.go:153", after := #[{ on := 3, ground := Ground.data }, { on := 3, ground := Ground.data }], guard := none }) (by kernel_rfl) (by kernel_rfl) (fun _ => trivial) (by kernel_rfl) (fun K hK => ?_)
        refine step_make 23 2 (.tmp 17) (by kernel_rfl) (.int .i64 0) 1 8 n Tryd.underlying23 info_i64 (by kernel_rfl) (by have := hnH.out; have := hmH.out; omega) (by have := hnH.out; have := hmH.out; omega) (hK _ _ ?_)
        clear hK K
        have hN6284 : Nw w _ n m _ := hN628.make 1
        generalize hzw6284 : w628.alloc (.cells (madeCells (Value.cells (.int .i64 0)) (n * 1)) 2) = w6284
        rw [show w628.alloc (wob n m 1) = w6284 from hzw6284] at hN6284
        clear hzw6284
        simp only [Act.put, List.setIfInBounds_toArray, List.set_cons_succ, List.set_cons_zero]
        refine Tkc.takeC (i := 9) (oi := { dst := some 23, op := Op.build 45 #[(0, Operand.tmp 14), (1, Operand.tmp 16), (2, Operand.tmp 18), (3, Operand.tmp 20), (4, Operand.tmp 22)], type := 45, pos := "list.go:153", after := #[{ on := 0, ground := Ground.data }, { on := 2, ground := Ground.data }, { on := 4, ground := Ground.data }, { on := 6, ground := Ground.data }, { on := 8, ground := Ground.data }], guard := none }) (v := .agg #[.slice pd n cd, .slice (some ⟨w6.heap.size, 0, none⟩) n n, .slice (some ⟨w628.heap.size, 0, none⟩) n n, .slice (some ⟨wd.heap.size, 0, none⟩) m m, .slice (some ⟨w62.heap.size, 0, none⟩) n n]) (by kernel_rfl) (by kernel_rfl) (by kernel_rfl) (by kernel_rfl) (fun c a w h => hQ c a w _ _ h) (by decide) (by kernel_rfl) (by kernel_rfl) trivial ⟨by kernel_rfl, fun wq hw => by go_simp⟩ ?_
        simp only [Act.put, List.setIfInBounds_toArray, List.set_cons_succ, List.set_cons_zero]
        refine Tkc.onlyC (i := 10) (o := { dst := some 24, op := Op.box 45 (Operand.tmp 23), type := 40, pos := "list.go:153", after := #[{ on := 9, ground := Ground.data }], guard := none }) (by kernel_rfl) (by kernel_rfl) (fun _ => trivial) (by kernel_rfl) (fun K hK => ?_)
        go_simp
        refine hK _ _ ?_
        clear hK K
        try simp only [Act.put, List.setIfInBounds_toArray, List.set_cons_succ, List.set_cons_zero]
        refine Tkc.takeC (i := 11) (oi := { dst := some 8, op := Op.assign (Operand.tmp 24), type := 40, pos := "list.go:153", after := #[{ on := 10, ground := Ground.data }, { on := 0, ground := Ground.phase }, { on := 1, ground := Ground.phase }, { on := 2, ground := Ground.phase }, { on := 3, ground := Ground.phase }, { on := 4, ground := Ground.phase }, { on := 5, ground := Ground.phase }, { on := 6, ground := Ground.phase }, { on := 7, ground := Ground.phase }, { on := 8, ground := Ground.phase }, { on := 9, ground := Ground.phase }, { on := 10, ground := Ground.phase }], guard := none }) (v := .pointer (some ⟨w6284.heap.size, 0, none⟩)) (by kernel_rfl) (by kernel_rfl) (by kernel_rfl) (by kernel_rfl) (fun c a w h => hQ c a w _ _ h) (by decide) (by kernel_rfl) (by kernel_rfl) trivial ⟨by kernel_rfl, fun wq hw => by go_simp⟩ ?_
        simp only [Act.put, List.setIfInBounds_toArray, List.set_cons_succ, List.set_cons_zero]
        refine Tkc.doneC (by kernel_rfl) (fun _ => trivial) ?_
        exact key _ _ _ _ _ _ (Mw.of hN6284 rfl rfl rfl rfl)
    · clear hix
      refine Tkc.opC (i := 4) (o := { dst := some 18, op := Op.makeSlice 23 (Operand.tmp 17) (Operand.tmp 17), type := 23, pos := "list.go:153", after := #[{ on := 3, ground := Ground.data }, { on := 3, ground := Ground.data }], guard := none }) (by kernel_rfl) (by kernel_rfl) (fun K hK => ?_)
      refine step_make 23 2 (.tmp 17) (by kernel_rfl) (.int .i64 0) 1 8 n Tryd.underlying23 info_i64 (by kernel_rfl) (by have := hnH.out; have := hmH.out; omega) (by have := hnH.out; have := hmH.out; omega) (hK _ _ ?_)
      clear hK K
      have hN64 : Nw w _ n m _ := hN6.make 1
      generalize hzw64 : w6.alloc (.cells (madeCells (Value.cells (.int .i64 0)) (n * 1)) 2) = w64
      rw [show w6.alloc (wob n m 1) = w64 from hzw64] at hN64
      clear hzw64
      simp only [Act.put, List.setIfInBounds_toArray, List.set_cons_succ, List.set_cons_zero]
      refine Tkc.manyC [2, 8] (by kernel_rfl) (by decide) (fun _ => trivial) ?_
      intro ix hix
      rcases (show ix = 2 ∨ ix = 8 by simpa using hix) with rfl | rfl
      · clear hix
        refine Tkc.opC (i := 2) (o := { dst := some 16, op := Op.makeSlice 43 (Operand.tmp 15) (Operand.tmp 15), type := 43, pos := "list.go:153", after := #[{ on := 1, ground := Ground.data }, { on := 1, ground := Ground.data }], guard := none }) (by kernel_rfl) (by kernel_rfl) (fun K hK => ?_)
        refine step_make 43 47 (.tmp 15) (by kernel_rfl) (.slice none 0 0) 1 24 n Tryd.underlying43 info_row (by kernel_rfl) (by have := hnH.out; have := hmH.out; omega) (by have := hnH.out; have := hmH.out; omega) (hK _ _ ?_)
        clear hK K
        have hN642 : Nw w _ n m _ := hN64.make 0
        generalize hzw642 : w64.alloc (.cells (madeCells (Value.cells (.slice none 0 0)) (n * 1)) 47) = w642
        rw [show w64.alloc (wob n m 0) = w642 from hzw642] at hN642
        clear hzw642
        simp only [Act.put, List.setIfInBounds_toArray, List.set_cons_succ, List.set_cons_zero]
        refine Tkc.onlyC (i := 8) (o := { dst := some 22, op := Op.makeSlice 24 (Operand.tmp 21) (Operand.tmp 21), type := 24, pos := "list.go:153", after := #[{ on := 7, ground := Ground.data }, { on := 7, ground := Ground.data }], guard := none }) (by kernel_rfl) (by kernel_rfl) (fun _ => trivial) (by kernel_rfl) (fun K hK => ?_)
        refine step_make 24 50 (.tmp 21) (by kernel_rfl) (.agg #[.int .i64 0, .int .i64 0]) 2 16 n Tryd.underlying24 info_turn (by kernel_rfl) (by have := hnH.out; have := hmH.out; omega) (by have := hnH.out; have := hmH.out; omega) (hK _ _ ?_)
        clear hK K
        have hN6428 : Nw w _ n m _ := hN642.make 3
        generalize hzw6428 : w642.alloc (.cells (madeCells (Value.cells (.agg #[.int .i64 0, .int .i64 0])) (n * 2)) 50) = w6428
        rw [show w642.alloc (wob n m 3) = w6428 from hzw6428] at hN6428
        clear hzw6428
        simp only [Act.put, List.setIfInBounds_toArray, List.set_cons_succ, List.set_cons_zero]
        refine Tkc.takeC (i := 9) (oi := { dst := some 23, op := Op.build 45 #[(0, Operand.tmp 14), (1, Operand.tmp 16), (2, Operand.tmp 18), (3, Operand.tmp 20), (4, Operand.tmp 22)], type := 45, pos := "list.go:153", after := #[{ on := 0, ground := Ground.data }, { on := 2, ground := Ground.data }, { on := 4, ground := Ground.data }, { on := 6, ground := Ground.data }, { on := 8, ground := Ground.data }], guard := none }) (v := .agg #[.slice pd n cd, .slice (some ⟨w64.heap.size, 0, none⟩) n n, .slice (some ⟨w6.heap.size, 0, none⟩) n n, .slice (some ⟨wd.heap.size, 0, none⟩) m m, .slice (some ⟨w642.heap.size, 0, none⟩) n n]) (by kernel_rfl) (by kernel_rfl) (by kernel_rfl) (by kernel_rfl) (fun c a w h => hQ c a w _ _ h) (by decide) (by kernel_rfl) (by kernel_rfl) trivial ⟨by kernel_rfl, fun wq hw => by go_simp⟩ ?_
        simp only [Act.put, List.setIfInBounds_toArray, List.set_cons_succ, List.set_cons_zero]
        refine Tkc.onlyC (i := 10) (o := { dst := some 24, op := Op.box 45 (Operand.tmp 23), type := 40, pos := "list.go:153", after := #[{ on := 9, ground := Ground.data }], guard := none }) (by kernel_rfl) (by kernel_rfl) (fun _ => trivial) (by kernel_rfl) (fun K hK => ?_)
        go_simp
        refine hK _ _ ?_
        clear hK K
        try simp only [Act.put, List.setIfInBounds_toArray, List.set_cons_succ, List.set_cons_zero]
        refine Tkc.takeC (i := 11) (oi := { dst := some 8, op := Op.assign (Operand.tmp 24), type := 40, pos := "list.go:153", after := #[{ on := 10, ground := Ground.data }, { on := 0, ground := Ground.phase }, { on := 1, ground := Ground.phase }, { on := 2, ground := Ground.phase }, { on := 3, ground := Ground.phase }, { on := 4, ground := Ground.phase }, { on := 5, ground := Ground.phase }, { on := 6, ground := Ground.phase }, { on := 7, ground := Ground.phase }, { on := 8, ground := Ground.phase }, { on := 9, ground := Ground.phase }, { on := 10, ground := Ground.phase }], guard := none }) (v := .pointer (some ⟨w6428.heap.size, 0, none⟩)) (by kernel_rfl) (by kernel_rfl) (by kernel_rfl) (by kernel_rfl) (fun c a w h => hQ c a w _ _ h) (by decide) (by kernel_rfl) (by kernel_rfl) trivial ⟨by kernel_rfl, fun wq hw => by go_simp⟩ ?_
        simp only [Act.put, List.setIfInBounds_toArray, List.set_cons_succ, List.set_cons_zero]
        refine Tkc.doneC (by kernel_rfl) (fun _ => trivial) ?_
        exact key _ _ _ _ _ _ (Mw.of hN6428 rfl rfl rfl rfl)
      · clear hix
        refine Tkc.opC (i := 8) (o := { dst := some 22, op := Op.makeSlice 24 (Operand.tmp 21) (Operand.tmp 21), type := 24, pos := "list.go:153", after := #[{ on := 7, ground := Ground.data }, { on := 7, ground := Ground.data }], guard := none }) (by kernel_rfl) (by kernel_rfl) (fun K hK => ?_)
        refine step_make 24 50 (.tmp 21) (by kernel_rfl) (.agg #[.int .i64 0, .int .i64 0]) 2 16 n Tryd.underlying24 info_turn (by kernel_rfl) (by have := hnH.out; have := hmH.out; omega) (by have := hnH.out; have := hmH.out; omega) (hK _ _ ?_)
        clear hK K
        have hN648 : Nw w _ n m _ := hN64.make 3
        generalize hzw648 : w64.alloc (.cells (madeCells (Value.cells (.agg #[.int .i64 0, .int .i64 0])) (n * 2)) 50) = w648
        rw [show w64.alloc (wob n m 3) = w648 from hzw648] at hN648
        clear hzw648
        simp only [Act.put, List.setIfInBounds_toArray, List.set_cons_succ, List.set_cons_zero]
        refine Tkc.onlyC (i := 2) (o := { dst := some 16, op := Op.makeSlice 43 (Operand.tmp 15) (Operand.tmp 15), type := 43, pos := "list.go:153", after := #[{ on := 1, ground := Ground.data }, { on := 1, ground := Ground.data }], guard := none }) (by kernel_rfl) (by kernel_rfl) (fun _ => trivial) (by kernel_rfl) (fun K hK => ?_)
        refine step_make 43 47 (.tmp 15) (by kernel_rfl) (.slice none 0 0) 1 24 n Tryd.underlying43 info_row (by kernel_rfl) (by have := hnH.out; have := hmH.out; omega) (by have := hnH.out; have := hmH.out; omega) (hK _ _ ?_)
        clear hK K
        have hN6482 : Nw w _ n m _ := hN648.make 0
        generalize hzw6482 : w648.alloc (.cells (madeCells (Value.cells (.slice none 0 0)) (n * 1)) 47) = w6482
        rw [show w648.alloc (wob n m 0) = w6482 from hzw6482] at hN6482
        clear hzw6482
        simp only [Act.put, List.setIfInBounds_toArray, List.set_cons_succ, List.set_cons_zero]
        refine Tkc.takeC (i := 9) (oi := { dst := some 23, op := Op.build 45 #[(0, Operand.tmp 14), (1, Operand.tmp 16), (2, Operand.tmp 18), (3, Operand.tmp 20), (4, Operand.tmp 22)], type := 45, pos := "list.go:153", after := #[{ on := 0, ground := Ground.data }, { on := 2, ground := Ground.data }, { on := 4, ground := Ground.data }, { on := 6, ground := Ground.data }, { on := 8, ground := Ground.data }], guard := none }) (v := .agg #[.slice pd n cd, .slice (some ⟨w648.heap.size, 0, none⟩) n n, .slice (some ⟨w6.heap.size, 0, none⟩) n n, .slice (some ⟨wd.heap.size, 0, none⟩) m m, .slice (some ⟨w64.heap.size, 0, none⟩) n n]) (by kernel_rfl) (by kernel_rfl) (by kernel_rfl) (by kernel_rfl) (fun c a w h => hQ c a w _ _ h) (by decide) (by kernel_rfl) (by kernel_rfl) trivial ⟨by kernel_rfl, fun wq hw => by go_simp⟩ ?_
        simp only [Act.put, List.setIfInBounds_toArray, List.set_cons_succ, List.set_cons_zero]
        refine Tkc.onlyC (i := 10) (o := { dst := some 24, op := Op.box 45 (Operand.tmp 23), type := 40, pos := "list.go:153", after := #[{ on := 9, ground := Ground.data }], guard := none }) (by kernel_rfl) (by kernel_rfl) (fun _ => trivial) (by kernel_rfl) (fun K hK => ?_)
        go_simp
        refine hK _ _ ?_
        clear hK K
        try simp only [Act.put, List.setIfInBounds_toArray, List.set_cons_succ, List.set_cons_zero]
        refine Tkc.takeC (i := 11) (oi := { dst := some 8, op := Op.assign (Operand.tmp 24), type := 40, pos := "list.go:153", after := #[{ on := 10, ground := Ground.data }, { on := 0, ground := Ground.phase }, { on := 1, ground := Ground.phase }, { on := 2, ground := Ground.phase }, { on := 3, ground := Ground.phase }, { on := 4, ground := Ground.phase }, { on := 5, ground := Ground.phase }, { on := 6, ground := Ground.phase }, { on := 7, ground := Ground.phase }, { on := 8, ground := Ground.phase }, { on := 9, ground := Ground.phase }, { on := 10, ground := Ground.phase }], guard := none }) (v := .pointer (some ⟨w6482.heap.size, 0, none⟩)) (by kernel_rfl) (by kernel_rfl) (by kernel_rfl) (by kernel_rfl) (fun c a w h => hQ c a w _ _ h) (by decide) (by kernel_rfl) (by kernel_rfl) trivial ⟨by kernel_rfl, fun wq hw => by go_simp⟩ ?_
        simp only [Act.put, List.setIfInBounds_toArray, List.set_cons_succ, List.set_cons_zero]
        refine Tkc.doneC (by kernel_rfl) (fun _ => trivial) ?_
        exact key _ _ _ _ _ _ (Mw.of hN6482 rfl rfl rfl rfl)
    · clear hix
      refine Tkc.opC (i := 8) (o := { dst := some 22, op := Op.makeSlice 24 (Operand.tmp 21) (Operand.tmp 21), type := 24, pos := "list.go:153", after := #[{ on := 7, ground := Ground.data }, { on := 7, ground := Ground.data }], guard := none }) (by kernel_rfl) (by kernel_rfl) (fun K hK => ?_)
      refine step_make 24 50 (.tmp 21) (by kernel_rfl) (.agg #[.int .i64 0, .int .i64 0]) 2 16 n Tryd.underlying24 info_turn (by kernel_rfl) (by have := hnH.out; have := hmH.out; omega) (by have := hnH.out; have := hmH.out; omega) (hK _ _ ?_)
      clear hK K
      have hN68 : Nw w _ n m _ := hN6.make 3
      generalize hzw68 : w6.alloc (.cells (madeCells (Value.cells (.agg #[.int .i64 0, .int .i64 0])) (n * 2)) 50) = w68
      rw [show w6.alloc (wob n m 3) = w68 from hzw68] at hN68
      clear hzw68
      simp only [Act.put, List.setIfInBounds_toArray, List.set_cons_succ, List.set_cons_zero]
      refine Tkc.manyC [2, 4] (by kernel_rfl) (by decide) (fun _ => trivial) ?_
      intro ix hix
      rcases (show ix = 2 ∨ ix = 4 by simpa using hix) with rfl | rfl
      · clear hix
        refine Tkc.opC (i := 2) (o := { dst := some 16, op := Op.makeSlice 43 (Operand.tmp 15) (Operand.tmp 15), type := 43, pos := "list.go:153", after := #[{ on := 1, ground := Ground.data }, { on := 1, ground := Ground.data }], guard := none }) (by kernel_rfl) (by kernel_rfl) (fun K hK => ?_)
        refine step_make 43 47 (.tmp 15) (by kernel_rfl) (.slice none 0 0) 1 24 n Tryd.underlying43 info_row (by kernel_rfl) (by have := hnH.out; have := hmH.out; omega) (by have := hnH.out; have := hmH.out; omega) (hK _ _ ?_)
        clear hK K
        have hN682 : Nw w _ n m _ := hN68.make 0
        generalize hzw682 : w68.alloc (.cells (madeCells (Value.cells (.slice none 0 0)) (n * 1)) 47) = w682
        rw [show w68.alloc (wob n m 0) = w682 from hzw682] at hN682
        clear hzw682
        simp only [Act.put, List.setIfInBounds_toArray, List.set_cons_succ, List.set_cons_zero]
        refine Tkc.onlyC (i := 4) (o := { dst := some 18, op := Op.makeSlice 23 (Operand.tmp 17) (Operand.tmp 17), type := 23, pos := "list.go:153", after := #[{ on := 3, ground := Ground.data }, { on := 3, ground := Ground.data }], guard := none }) (by kernel_rfl) (by kernel_rfl) (fun _ => trivial) (by kernel_rfl) (fun K hK => ?_)
        refine step_make 23 2 (.tmp 17) (by kernel_rfl) (.int .i64 0) 1 8 n Tryd.underlying23 info_i64 (by kernel_rfl) (by have := hnH.out; have := hmH.out; omega) (by have := hnH.out; have := hmH.out; omega) (hK _ _ ?_)
        clear hK K
        have hN6824 : Nw w _ n m _ := hN682.make 1
        generalize hzw6824 : w682.alloc (.cells (madeCells (Value.cells (.int .i64 0)) (n * 1)) 2) = w6824
        rw [show w682.alloc (wob n m 1) = w6824 from hzw6824] at hN6824
        clear hzw6824
        simp only [Act.put, List.setIfInBounds_toArray, List.set_cons_succ, List.set_cons_zero]
        refine Tkc.takeC (i := 9) (oi := { dst := some 23, op := Op.build 45 #[(0, Operand.tmp 14), (1, Operand.tmp 16), (2, Operand.tmp 18), (3, Operand.tmp 20), (4, Operand.tmp 22)], type := 45, pos := "list.go:153", after := #[{ on := 0, ground := Ground.data }, { on := 2, ground := Ground.data }, { on := 4, ground := Ground.data }, { on := 6, ground := Ground.data }, { on := 8, ground := Ground.data }], guard := none }) (v := .agg #[.slice pd n cd, .slice (some ⟨w68.heap.size, 0, none⟩) n n, .slice (some ⟨w682.heap.size, 0, none⟩) n n, .slice (some ⟨wd.heap.size, 0, none⟩) m m, .slice (some ⟨w6.heap.size, 0, none⟩) n n]) (by kernel_rfl) (by kernel_rfl) (by kernel_rfl) (by kernel_rfl) (fun c a w h => hQ c a w _ _ h) (by decide) (by kernel_rfl) (by kernel_rfl) trivial ⟨by kernel_rfl, fun wq hw => by go_simp⟩ ?_
        simp only [Act.put, List.setIfInBounds_toArray, List.set_cons_succ, List.set_cons_zero]
        refine Tkc.onlyC (i := 10) (o := { dst := some 24, op := Op.box 45 (Operand.tmp 23), type := 40, pos := "list.go:153", after := #[{ on := 9, ground := Ground.data }], guard := none }) (by kernel_rfl) (by kernel_rfl) (fun _ => trivial) (by kernel_rfl) (fun K hK => ?_)
        go_simp
        refine hK _ _ ?_
        clear hK K
        try simp only [Act.put, List.setIfInBounds_toArray, List.set_cons_succ, List.set_cons_zero]
        refine Tkc.takeC (i := 11) (oi := { dst := some 8, op := Op.assign (Operand.tmp 24), type := 40, pos := "list.go:153", after := #[{ on := 10, ground := Ground.data }, { on := 0, ground := Ground.phase }, { on := 1, ground := Ground.phase }, { on := 2, ground := Ground.phase }, { on := 3, ground := Ground.phase }, { on := 4, ground := Ground.phase }, { on := 5, ground := Ground.phase }, { on := 6, ground := Ground.phase }, { on := 7, ground := Ground.phase }, { on := 8, ground := Ground.phase }, { on := 9, ground := Ground.phase }, { on := 10, ground := Ground.phase }], guard := none }) (v := .pointer (some ⟨w6824.heap.size, 0, none⟩)) (by kernel_rfl) (by kernel_rfl) (by kernel_rfl) (by kernel_rfl) (fun c a w h => hQ c a w _ _ h) (by decide) (by kernel_rfl) (by kernel_rfl) trivial ⟨by kernel_rfl, fun wq hw => by go_simp⟩ ?_
        simp only [Act.put, List.setIfInBounds_toArray, List.set_cons_succ, List.set_cons_zero]
        refine Tkc.doneC (by kernel_rfl) (fun _ => trivial) ?_
        exact key _ _ _ _ _ _ (Mw.of hN6824 rfl rfl rfl rfl)
      · clear hix
        refine Tkc.opC (i := 4) (o := { dst := some 18, op := Op.makeSlice 23 (Operand.tmp 17) (Operand.tmp 17), type := 23, pos := "list.go:153", after := #[{ on := 3, ground := Ground.data }, { on := 3, ground := Ground.data }], guard := none }) (by kernel_rfl) (by kernel_rfl) (fun K hK => ?_)
        refine step_make 23 2 (.tmp 17) (by kernel_rfl) (.int .i64 0) 1 8 n Tryd.underlying23 info_i64 (by kernel_rfl) (by have := hnH.out; have := hmH.out; omega) (by have := hnH.out; have := hmH.out; omega) (hK _ _ ?_)
        clear hK K
        have hN684 : Nw w _ n m _ := hN68.make 1
        generalize hzw684 : w68.alloc (.cells (madeCells (Value.cells (.int .i64 0)) (n * 1)) 2) = w684
        rw [show w68.alloc (wob n m 1) = w684 from hzw684] at hN684
        clear hzw684
        simp only [Act.put, List.setIfInBounds_toArray, List.set_cons_succ, List.set_cons_zero]
        refine Tkc.onlyC (i := 2) (o := { dst := some 16, op := Op.makeSlice 43 (Operand.tmp 15) (Operand.tmp 15), type := 43, pos := "list.go:153", after := #[{ on := 1, ground := Ground.data }, { on := 1, ground := Ground.data }], guard := none }) (by kernel_rfl) (by kernel_rfl) (fun _ => trivial) (by kernel_rfl) (fun K hK => ?_)
        refine step_make 43 47 (.tmp 15) (by kernel_rfl) (.slice none 0 0) 1 24 n Tryd.underlying43 info_row (by kernel_rfl) (by have := hnH.out; have := hmH.out; omega) (by have := hnH.out; have := hmH.out; omega) (hK _ _ ?_)
        clear hK K
        have hN6842 : Nw w _ n m _ := hN684.make 0
        generalize hzw6842 : w684.alloc (.cells (madeCells (Value.cells (.slice none 0 0)) (n * 1)) 47) = w6842
        rw [show w684.alloc (wob n m 0) = w6842 from hzw6842] at hN6842
        clear hzw6842
        simp only [Act.put, List.setIfInBounds_toArray, List.set_cons_succ, List.set_cons_zero]
        refine Tkc.takeC (i := 9) (oi := { dst := some 23, op := Op.build 45 #[(0, Operand.tmp 14), (1, Operand.tmp 16), (2, Operand.tmp 18), (3, Operand.tmp 20), (4, Operand.tmp 22)], type := 45, pos := "list.go:153", after := #[{ on := 0, ground := Ground.data }, { on := 2, ground := Ground.data }, { on := 4, ground := Ground.data }, { on := 6, ground := Ground.data }, { on := 8, ground := Ground.data }], guard := none }) (v := .agg #[.slice pd n cd, .slice (some ⟨w684.heap.size, 0, none⟩) n n, .slice (some ⟨w68.heap.size, 0, none⟩) n n, .slice (some ⟨wd.heap.size, 0, none⟩) m m, .slice (some ⟨w6.heap.size, 0, none⟩) n n]) (by kernel_rfl) (by kernel_rfl) (by kernel_rfl) (by kernel_rfl) (fun c a w h => hQ c a w _ _ h) (by decide) (by kernel_rfl) (by kernel_rfl) trivial ⟨by kernel_rfl, fun wq hw => by go_simp⟩ ?_
        simp only [Act.put, List.setIfInBounds_toArray, List.set_cons_succ, List.set_cons_zero]
        refine Tkc.onlyC (i := 10) (o := { dst := some 24, op := Op.box 45 (Operand.tmp 23), type := 40, pos := "list.go:153", after := #[{ on := 9, ground := Ground.data }], guard := none }) (by kernel_rfl) (by kernel_rfl) (fun _ => trivial) (by kernel_rfl) (fun K hK => ?_)
        go_simp
        refine hK _ _ ?_
        clear hK K
        try simp only [Act.put, List.setIfInBounds_toArray, List.set_cons_succ, List.set_cons_zero]
        refine Tkc.takeC (i := 11) (oi := { dst := some 8, op := Op.assign (Operand.tmp 24), type := 40, pos := "list.go:153", after := #[{ on := 10, ground := Ground.data }, { on := 0, ground := Ground.phase }, { on := 1, ground := Ground.phase }, { on := 2, ground := Ground.phase }, { on := 3, ground := Ground.phase }, { on := 4, ground := Ground.phase }, { on := 5, ground := Ground.phase }, { on := 6, ground := Ground.phase }, { on := 7, ground := Ground.phase }, { on := 8, ground := Ground.phase }, { on := 9, ground := Ground.phase }, { on := 10, ground := Ground.phase }], guard := none }) (v := .pointer (some ⟨w6842.heap.size, 0, none⟩)) (by kernel_rfl) (by kernel_rfl) (by kernel_rfl) (by kernel_rfl) (fun c a w h => hQ c a w _ _ h) (by decide) (by kernel_rfl) (by kernel_rfl) trivial ⟨by kernel_rfl, fun wq hw => by go_simp⟩ ?_
        simp only [Act.put, List.setIfInBounds_toArray, List.set_cons_succ, List.set_cons_zero]
        refine Tkc.doneC (by kernel_rfl) (fun _ => trivial) ?_
        exact key _ _ _ _ _ _ (Mw.of hN6842 rfl rfl rfl rfl)
  · clear hix
    refine Tkc.opC (i := 8) (o := { dst := some 22, op := Op.makeSlice 24 (Operand.tmp 21) (Operand.tmp 21), type := 24, pos := "list.go:153", after := #[{ on := 7, ground := Ground.data }, { on := 7, ground := Ground.data }], guard := none }) (by kernel_rfl) (by kernel_rfl) (fun K hK => ?_)
    refine step_make 24 50 (.tmp 21) (by kernel_rfl) (.agg #[.int .i64 0, .int .i64 0]) 2 16 n Tryd.underlying24 info_turn (by kernel_rfl) (by have := hnH.out; have := hmH.out; omega) (by have := hnH.out; have := hmH.out; omega) (hK _ _ ?_)
    clear hK K
    have hN8 : Nw w _ n m _ := hN0.make 3
    generalize hzw8 : wd.alloc (.cells (madeCells (Value.cells (.agg #[.int .i64 0, .int .i64 0])) (n * 2)) 50) = w8
    rw [show wd.alloc (wob n m 3) = w8 from hzw8] at hN8
    clear hzw8
    simp only [Act.put, List.setIfInBounds_toArray, List.set_cons_succ, List.set_cons_zero]
    refine Tkc.manyC [2, 4, 6] (by kernel_rfl) (by decide) (fun _ => trivial) ?_
    intro ix hix
    rcases (show ix = 2 ∨ ix = 4 ∨ ix = 6 by simpa using hix) with rfl | rfl | rfl
    · clear hix
      refine Tkc.opC (i := 2) (o := { dst := some 16, op := Op.makeSlice 43 (Operand.tmp 15) (Operand.tmp 15), type := 43, pos := "list.go:153", after := #[{ on := 1, ground := Ground.data }, { on := 1, ground := Ground.data }], guard := none }) (by kernel_rfl) (by kernel_rfl) (fun K hK => ?_)
      refine step_make 43 47 (.tmp 15) (by kernel_rfl) (.slice none 0 0) 1 24 n Tryd.underlying43 info_row (by kernel_rfl) (by have := hnH.out; have := hmH.out; omega) (by have := hnH.out; have := hmH.out; omega) (hK _ _ ?_)
      clear hK K
      have hN82 : Nw w _ n m _ := hN8.make 0
      generalize hzw82 : w8.alloc (.cells (madeCells (Value.cells (.slice none 0 0)) (n * 1)) 47) = w82
      rw [show w8.alloc (wob n m 0) = w82 from hzw82] at hN82
      clear hzw82
      simp only [Act.put, List.setIfInBounds_toArray, List.set_cons_succ, List.set_cons_zero]
      refine Tkc.manyC [4, 6] (by kernel_rfl) (by decide) (fun _ => trivial) ?_
      intro ix hix
      rcases (show ix = 4 ∨ ix = 6 by simpa using hix) with rfl | rfl
      · clear hix
        refine Tkc.opC (i := 4) (o := { dst := some 18, op := Op.makeSlice 23 (Operand.tmp 17) (Operand.tmp 17), type := 23, pos := "list.go:153", after := #[{ on := 3, ground := Ground.data }, { on := 3, ground := Ground.data }], guard := none }) (by kernel_rfl) (by kernel_rfl) (fun K hK => ?_)
        refine step_make 23 2 (.tmp 17) (by kernel_rfl) (.int .i64 0) 1 8 n Tryd.underlying23 info_i64 (by kernel_rfl) (by have := hnH.out; have := hmH.out; omega) (by have := hnH.out; have := hmH.out; omega) (hK _ _ ?_)
        clear hK K
        have hN824 : Nw w _ n m _ := hN82.make 1
        generalize hzw824 : w82.alloc (.cells (madeCells (Value.cells (.int .i64 0)) (n * 1)) 2) = w824
        rw [show w82.alloc (wob n m 1) = w824 from hzw824] at hN824
        clear hzw824
        simp only [Act.put, List.setIfInBounds_toArray, List.set_cons_succ, List.set_cons_zero]
        refine Tkc.onlyC (i := 6) (o := { dst := some 20, op := Op.makeSlice 23 (Operand.tmp 19) (Operand.tmp 19), type := 23, pos := "list.go:153", after := #[{ on := 5, ground := Ground.data }, { on := 5, ground := Ground.data }], guard := none }) (by kernel_rfl) (by kernel_rfl) (fun _ => trivial) (by kernel_rfl) (fun K hK => ?_)
        refine step_make 23 2 (.tmp 19) (by kernel_rfl) (.int .i64 0) 1 8 m Tryd.underlying23 info_i64 (by kernel_rfl) (by have := hnH.out; have := hmH.out; omega) (by have := hnH.out; have := hmH.out; omega) (hK _ _ ?_)
        clear hK K
        have hN8246 : Nw w _ n m _ := hN824.make 2
        generalize hzw8246 : w824.alloc (.cells (madeCells (Value.cells (.int .i64 0)) (m * 1)) 2) = w8246
        rw [show w824.alloc (wob n m 2) = w8246 from hzw8246] at hN8246
        clear hzw8246
        simp only [Act.put, List.setIfInBounds_toArray, List.set_cons_succ, List.set_cons_zero]
        refine Tkc.takeC (i := 9) (oi := { dst := some 23, op := Op.build 45 #[(0, Operand.tmp 14), (1, Operand.tmp 16), (2, Operand.tmp 18), (3, Operand.tmp 20), (4, Operand.tmp 22)], type := 45, pos := "list.go:153", after := #[{ on := 0, ground := Ground.data }, { on := 2, ground := Ground.data }, { on := 4, ground := Ground.data }, { on := 6, ground := Ground.data }, { on := 8, ground := Ground.data }], guard := none }) (v := .agg #[.slice pd n cd, .slice (some ⟨w8.heap.size, 0, none⟩) n n, .slice (some ⟨w82.heap.size, 0, none⟩) n n, .slice (some ⟨w824.heap.size, 0, none⟩) m m, .slice (some ⟨wd.heap.size, 0, none⟩) n n]) (by kernel_rfl) (by kernel_rfl) (by kernel_rfl) (by kernel_rfl) (fun c a w h => hQ c a w _ _ h) (by decide) (by kernel_rfl) (by kernel_rfl) trivial ⟨by kernel_rfl, fun wq hw => by go_simp⟩ ?_
        simp only [Act.put, List.setIfInBounds_toArray, List.set_cons_succ, List.set_cons_zero]
        refine Tkc.onlyC (i := 10) (o := { dst := some 24, op := Op.box 45 (Operand.tmp 23), type := 40, pos := "list.go:153", after := #[{ on := 9, ground := Ground.data }], guard := none }) (by kernel_rfl) (by kernel_rfl) (fun _ => trivial) (by kernel_rfl) (fun K hK => ?_)
        go_simp
        refine hK _ _ ?_
        clear hK K
        try simp only [Act.put, List.setIfInBounds_toArray, List.set_cons_succ, List.set_cons_zero]
        refine Tkc.takeC (i := 11) (oi := { dst := some 8, op := Op.assign (Operand.tmp 24), type := 40, pos := "list.go:153", after := #[{ on := 10, ground := Ground.data }, { on := 0, ground := Ground.phase }, { on := 1, ground := Ground.phase }, { on := 2, ground := Ground.phase }, { on := 3, ground := Ground.phase }, { on := 4, ground := Ground.phase }, { on := 5, ground := Ground.phase }, { on := 6, ground := Ground.phase }, { on := 7, ground := Ground.phase }, { on := 8, ground := Ground.phase }, { on := 9, ground := Ground.phase }, { on := 10, ground := Ground.phase }], guard := none }) (v := .pointer (some ⟨w8246.heap.size, 0, none⟩)) (by kernel_rfl) (by kernel_rfl) (by kernel_rfl) (by kernel_rfl) (fun c a w h => hQ c a w _ _ h) (by decide) (by kernel_rfl) (by kernel_rfl) trivial ⟨by kernel_rfl, fun wq hw => by go_simp⟩ ?_
        simp only [Act.put, List.setIfInBounds_toArray, List.set_cons_succ, List.set_cons_zero]
        refine Tkc.doneC (by kernel_rfl) (fun _ => trivial) ?_
        exact key _ _ _ _ _ _ (Mw.of hN8246 rfl rfl rfl rfl)
      · clear hix
        refine Tkc.opC (i := 6) (o := { dst := some 20, op := Op.makeSlice 23 (Operand.tmp 19) (Operand.tmp 19), type := 23, pos := "list.go:153", after := #[{ on := 5, ground := Ground.data }, { on := 5, ground := Ground.data }], guard := none }) (by kernel_rfl) (by kernel_rfl) (fun K hK => ?_)
        refine step_make 23 2 (.tmp 19) (by kernel_rfl) (.int .i64 0) 1 8 m Tryd.underlying23 info_i64 (by kernel_rfl) (by have := hnH.out; have := hmH.out; omega) (by have := hnH.out; have := hmH.out; omega) (hK _ _ ?_)
        clear hK K
        have hN826 : Nw w _ n m _ := hN82.make 2
        generalize hzw826 : w82.alloc (.cells (madeCells (Value.cells (.int .i64 0)) (m * 1)) 2) = w826
        rw [show w82.alloc (wob n m 2) = w826 from hzw826] at hN826
        clear hzw826
        simp only [Act.put, List.setIfInBounds_toArray, List.set_cons_succ, List.set_cons_zero]
        refine Tkc.onlyC (i := 4) (o := { dst := some 18, op := Op.makeSlice 23 (Operand.tmp 17) (Operand.tmp 17), type := 23, pos := "list.go:153", after := #[{ on := 3, ground := Ground.data }, { on := 3, ground := Ground.data }], guard := none }) (by kernel_rfl) (by kernel_rfl) (fun _ => trivial) (by kernel_rfl) (fun K hK => ?_)
        refine step_make 23 2 (.tmp 17) (by kernel_rfl) (.int .i64 0) 1 8 n Tryd.underlying23 info_i64 (by kernel_rfl) (by have := hnH.out; have := hmH.out; omega) (by have := hnH.out; have := hmH.out; omega) (hK _ _ ?_)
        clear hK K
        have hN8264 : Nw w _ n m _ := hN826.make 1
        generalize hzw8264 : w826.alloc (.cells (madeCells (Value.cells (.int .i64 0)) (n * 1)) 2) = w8264
        rw [show w826.alloc (wob n m 1) = w8264 from hzw8264] at hN8264
        clear hzw8264
        simp only [Act.put, List.setIfInBounds_toArray, List.set_cons_succ, List.set_cons_zero]
        refine Tkc.takeC (i := 9) (oi := { dst := some 23, op := Op.build 45 #[(0, Operand.tmp 14), (1, Operand.tmp 16), (2, Operand.tmp 18), (3, Operand.tmp 20), (4, Operand.tmp 22)], type := 45, pos := "list.go:153", after := #[{ on := 0, ground := Ground.data }, { on := 2, ground := Ground.data }, { on := 4, ground := Ground.data }, { on := 6, ground := Ground.data }, { on := 8, ground := Ground.data }], guard := none }) (v := .agg #[.slice pd n cd, .slice (some ⟨w8.heap.size, 0, none⟩) n n, .slice (some ⟨w826.heap.size, 0, none⟩) n n, .slice (some ⟨w82.heap.size, 0, none⟩) m m, .slice (some ⟨wd.heap.size, 0, none⟩) n n]) (by kernel_rfl) (by kernel_rfl) (by kernel_rfl) (by kernel_rfl) (fun c a w h => hQ c a w _ _ h) (by decide) (by kernel_rfl) (by kernel_rfl) trivial ⟨by kernel_rfl, fun wq hw => by go_simp⟩ ?_
        simp only [Act.put, List.setIfInBounds_toArray, List.set_cons_succ, List.set_cons_zero]
        refine Tkc.onlyC (i := 10) (o := { dst := some 24, op := Op.box 45 (Operand.tmp 23), type := 40, pos := "list.go:153", after := #[{ on := 9, ground := Ground.data }], guard := none }) (by kernel_rfl) (by kernel_rfl) (fun _ => trivial) (by kernel_rfl) (fun K hK => ?_)
        go_simp
        refine hK _ _ ?_
        clear hK K
        try simp only [Act.put, List.setIfInBounds_toArray, List.set_cons_succ, List.set_cons_zero]
        refine Tkc.takeC (i := 11) (oi := { dst := some 8, op := Op.assign (Operand.tmp 24), type := 40, pos := "list.go:153", after := #[{ on := 10, ground := Ground.data }, { on := 0, ground := Ground.phase }, { on := 1, ground := Ground.phase }, { on := 2, ground := Ground.phase }, { on := 3, ground := Ground.phase }, { on := 4, ground := Ground.phase }, { on := 5, ground := Ground.phase }, { on := 6, ground := Ground.phase }, { on := 7, ground := Ground.phase }, { on := 8, ground := Ground.phase }, { on := 9, ground := Ground.phase }, { on := 10, ground := Ground.phase }], guard := none }) (v := .pointer (some ⟨w8264.heap.size, 0, none⟩)) (by kernel_rfl) (by kernel_rfl) (by kernel_rfl) (by kernel_rfl) (fun c a w h => hQ c a w _ _ h) (by decide) (by kernel_rfl) (by kernel_rfl) trivial ⟨by kernel_rfl, fun wq hw => by go_simp⟩ ?_
        simp only [Act.put, List.setIfInBounds_toArray, List.set_cons_succ, List.set_cons_zero]
        refine Tkc.doneC (by kernel_rfl) (fun _ => trivial) ?_
        exact key _ _ _ _ _ _ (Mw.of hN8264 rfl rfl rfl rfl)
    · clear hix
      refine Tkc.opC (i := 4) (o := { dst := some 18, op := Op.makeSlice 23 (Operand.tmp 17) (Operand.tmp 17), type := 23, pos := "list.go:153", after := #[{ on := 3, ground := Ground.data }, { on := 3, ground := Ground.data }], guard := none }) (by kernel_rfl) (by kernel_rfl) (fun K hK => ?_)
      refine step_make 23 2 (.tmp 17) (by kernel_rfl) (.int .i64 0) 1 8 n Tryd.underlying23 info_i64 (by kernel_rfl) (by have := hnH.out; have := hmH.out; omega) (by have := hnH.out; have := hmH.out; omega) (hK _ _ ?_)
      clear hK K
      have hN84 : Nw w _ n m _ := hN8.make 1
      generalize hzw84 : w8.alloc (.cells (madeCells (Value.cells (.int .i64 0)) (n * 1)) 2) = w84
      rw [show w8.alloc (wob n m 1) = w84 from hzw84] at hN84
      clear hzw84
      simp only [Act.put, List.setIfInBounds_toArray, List.set_cons_succ, List.set_cons_zero]
      refine Tkc.manyC [2, 6] (by kernel_rfl) (by decide) (fun _ => trivial) ?_
      intro ix hix
      rcases (show ix = 2 ∨ ix = 6 by simpa using hix) with rfl | rfl
      · clear hix
        refine Tkc.opC (i := 2) (o := { dst := some 16, op := Op.makeSlice 43 (Operand.tmp 15) (Operand.tmp 15), type := 43, pos := "list.go:153", after := #[{ on := 1, ground := Ground.data }, { on := 1, ground := Ground.data }], guard := none }) (by kernel_rfl) (by kernel_rfl) (fun K hK => ?_)
        refine step_make 43 47 (.tmp 15) (by kernel_rfl) (.slice none 0 0) 1 24 n Tryd.underlying43 info_row (by kernel_rfl) (by have := hnH.out; have := hmH.out; omega) (by have := hnH.out; have := hmH.out; omega) (hK _ _ ?_)
        clear hK K
        have hN842 : Nw w _ n m _ := hN84.make 0
        generalize hzw842 : w84.alloc (.cells (madeCells (Value.cells (.slice none 0 0)) (n * 1)) 47) = w842
        rw [show w84.alloc (wob n m 0) = w842 from hzw842] at hN842
        clear hzw842
        simp only [Act.put, List.setIfInBounds_toArray, List.set_cons_succ, List.set_cons_zero]
        refine Tkc.onlyC (i := 6) (o := { dst := some 20, op := Op.makeSlice 23 (Operand.tmp 19) (Operand.tmp 19), type := 23, pos := "list.go:153", after := #[{ on := 5, ground := Ground.data }, { on := 5, ground := Ground.data }], guard := none }) (by kernel_rfl) (by kernel_rfl) (fun _ => trivial) (by kernel_rfl) (fun K hK => ?_)
        refine step_make 23 2 (.tmp 19) (by kernel_rfl) (.int .i64 0) 1 8 m Tryd.underlying23 info_i64 (by kernel_rfl) (by have := hnH.out; have := hmH.out; omega) (by have := hnH.out; have := hmH.out; omega) (hK _ _ ?_)
        clear hK K
        have hN8426 : Nw w _ n m _ := hN842.make 2
        generalize hzw8426 : w842.alloc (.cells (madeCells (Value.cells (.int .i64 0)) (m * 1)) 2) = w8426
        rw [show w842.alloc (wob n m 2) = w8426 from hzw8426] at hN8426
        clear hzw8426
        simp only [Act.put, List.setIfInBounds_toArray, List.set_cons_succ, List.set_cons_zero]
        refine Tkc.takeC (i := 9) (oi := { dst := some 23, op := Op.build 45 #[(0, Operand.tmp 14), (1, Operand.tmp 16), (2, Operand.tmp 18), (3, Operand.tmp 20), (4, Operand.tmp 22)], type := 45, pos := "list.go:153", after := #[{ on := 0, ground := Ground.data }, { on := 2, ground := Ground.data }, { on := 4, ground := Ground.data }, { on := 6, ground := Ground.data }, { on := 8, ground := Ground.data }], guard := none }) (v := .agg #[.slice pd n cd, .slice (some ⟨w84.heap.size, 0, none⟩) n n, .slice (some ⟨w8.heap.size, 0, none⟩) n n, .slice (some ⟨w842.heap.size, 0, none⟩) m m, .slice (some ⟨wd.heap.size, 0, none⟩) n n]) (by kernel_rfl) (by kernel_rfl) (by kernel_rfl) (by kernel_rfl) (fun c a w h => hQ c a w _ _ h) (by decide) (by kernel_rfl) (by kernel_rfl) trivial ⟨by kernel_rfl, fun wq hw => by go_simp⟩ ?_
        simp only [Act.put, List.setIfInBounds_toArray, List.set_cons_succ, List.set_cons_zero]
        refine Tkc.onlyC (i := 10) (o := { dst := some 24, op := Op.box 45 (Operand.tmp 23), type := 40, pos := "list.go:153", after := #[{ on := 9, ground := Ground.data }], guard := none }) (by kernel_rfl) (by kernel_rfl) (fun _ => trivial) (by kernel_rfl) (fun K hK => ?_)
        go_simp
        refine hK _ _ ?_
        clear hK K
        try simp only [Act.put, List.setIfInBounds_toArray, List.set_cons_succ, List.set_cons_zero]
        refine Tkc.takeC (i := 11) (oi := { dst := some 8, op := Op.assign (Operand.tmp 24), type := 40, pos := "list.go:153", after := #[{ on := 10, ground := Ground.data }, { on := 0, ground := Ground.phase }, { on := 1, ground := Ground.phase }, { on := 2, ground := Ground.phase }, { on := 3, ground := Ground.phase }, { on := 4, ground := Ground.phase }, { on := 5, ground := Ground.phase }, { on := 6, ground := Ground.phase }, { on := 7, ground := Ground.phase }, { on := 8, ground := Ground.phase }, { on := 9, ground := Ground.phase }, { on := 10, ground := Ground.phase }], guard := none }) (v := .pointer (some ⟨w8426.heap.size, 0, none⟩)) (by kernel_rfl) (by kernel_rfl) (by kernel_rfl) (by kernel_rfl) (fun c a w h => hQ c a w _ _ h) (by decide) (by kernel_rfl) (by kernel_rfl) trivial ⟨by kernel_rfl, fun wq hw => by go_simp⟩ ?_
        simp only [Act.put, List.setIfInBounds_toArray, List.set_cons_succ, List.set_cons_zero]
        refine Tkc.doneC (by kernel_rfl) (fun _ => trivial) ?_
        exact key _ _ _ _ _ _ (Mw.of hN8426 rfl rfl rfl rfl)
      · clear hix
        refine Tkc.opC (i := 6) (o := { dst := some 20, op := Op.makeSlice 23 (Operand.tmp 19) (Operand.tmp 19), type := 23, pos := "list.go:153", after := #[{ on := 5, ground := Ground.data }, { on := 5, ground := Ground.data }], guard := none }) (by kernel_rfl) (by kernel_rfl) (fun K hK => ?_)
        refine step_make 23 2 (.tmp 19) (by kernel_rfl) (.int .i64 0) 1 8 m Tryd.underlying23 info_i64 (by kernel_rfl) (by have := hnH.out; have := hmH.out; omega) (by have := hnH.out; have := hmH.out; omega) (hK _ _ ?_)
        clear hK K
        have hN846 : Nw w _ n m _ := hN84.make 2
        generalize hzw846 : w84.alloc (.cells (madeCells (Value.cells (.int .i64 0)) (m * 1)) 2) = w846
        rw [show w84.alloc (wob n m 2) = w846 from hzw846] at hN846
        clear hzw846
        simp only [Act.put, List.setIfInBounds_toArray, List.set_cons_succ, List.set_cons_zero]
        refine Tkc.onlyC (i := 2) (o := { dst := some 16, op := Op.makeSlice 43 (Operand.tmp 15) (Operand.tmp 15), type := 43, pos := "list.go:153", after := #[{ on := 1, ground := Ground.data }, { on := 1, ground := Ground.data }], guard := none }) (by kernel_rfl) (by kernel_rfl) (fun _ => trivial) (by kernel_rfl) (fun K hK => ?_)
        refine step_make 43 47 (.tmp 15) (by kernel_rfl) (.slice none 0 0) 1 24 n Tryd.underlying43 info_row (by kernel_rfl) (by have := hnH.out; have := hmH.out; omega) (by have := hnH.out; have := hmH.out; omega) (hK _ _ ?_)
        clear hK K
        have hN8462 : Nw w _ n m _ := hN846.make 0
        generalize hzw8462 : w846.alloc (.cells (madeCells (Value.cells (.slice none 0 0)) (n * 1)) 47) = w8462
        rw [show w846.alloc (wob n m 0) = w8462 from hzw8462] at hN8462
        clear hzw8462
        simp only [Act.put, List.setIfInBounds_toArray, List.set_cons_succ, List.set_cons_zero]
        refine Tkc.takeC (i := 9) (oi := { dst := some 23, op := Op.build 45 #[(0, Operand.tmp 14), (1, Operand.tmp 16), (2, Operand.tmp 18), (3, Operand.tmp 20), (4, Operand.tmp 22)], type := 45, pos := "list.go:153", after := #[{ on := 0, ground := Ground.data }, { on := 2, ground := Ground.data }, { on := 4, ground := Ground.data }, { on := 6, ground := Ground.data }, { on := 8, ground := Ground.data }], guard := none }) (v := .agg #[.slice pd n cd, .slice (some ⟨w846.heap.size, 0, none⟩) n n, .slice (some ⟨w8.heap.size, 0, none⟩) n n, .slice (some ⟨w84.heap.size, 0, none⟩) m m, .slice (some ⟨wd.heap.size, 0, none⟩) n n]) (by kernel_rfl) (by kernel_rfl) (by kernel_rfl) (by kernel_rfl) (fun c a w h => hQ c a w _ _ h) (by decide) (by kernel_rfl) (by kernel_rfl) trivial ⟨by kernel_rfl, fun wq hw => by go_simp⟩ ?_
        simp only [Act.put, List.setIfInBounds_toArray, List.set_cons_succ, List.set_cons_zero]
        refine Tkc.onlyC (i := 10) (o := { dst := some 24, op := Op.box 45 (Operand.tmp 23), type := 40, pos := "list.go:153", after := #[{ on := 9, ground := Ground.data }], guard := none }) (by kernel_rfl) (by kernel_rfl) (fun _ => trivial) (by kernel_rfl) (fun K hK => ?_)
        go_simp
        refine hK _ _ ?_
        clear hK K
        try simp only [Act.put, List.setIfInBounds_toArray, List.set_cons_succ, List.set_cons_zero]
        refine Tkc.takeC (i := 11) (oi := { dst := some 8, op := Op.assign (Operand.tmp 24), type := 40, pos := "list.go:153", after := #[{ on := 10, ground := Ground.data }, { on := 0, ground := Ground.phase }, { on := 1, ground := Ground.phase }, { on := 2, ground := Ground.phase }, { on := 3, ground := Ground.phase }, { on := 4, ground := Ground.phase }, { on := 5, ground := Ground.phase }, { on := 6, ground := Ground.phase }, { on := 7, ground := Ground.phase }, { on := 8, ground := Ground.phase }, { on := 9, ground := Ground.phase }, { on := 10, ground := Ground.phase }], guard := none }) (v := .pointer (some ⟨w8462.heap.size, 0, none⟩)) (by kernel_rfl) (by kernel_rfl) (by kernel_rfl) (by kernel_rfl) (fun c a w h => hQ c a w _ _ h) (by decide) (by kernel_rfl) (by kernel_rfl) trivial ⟨by kernel_rfl, fun wq hw => by go_simp⟩ ?_
        simp only [Act.put, List.setIfInBounds_toArray, List.set_cons_succ, List.set_cons_zero]
        refine Tkc.doneC (by kernel_rfl) (fun _ => trivial) ?_
        exact key _ _ _ _ _ _ (Mw.of hN8462 rfl rfl rfl rfl)
    · clear hix
      refine Tkc.opC (i := 6) (o := { dst := some 20, op := Op.makeSlice 23 (Operand.tmp 19) (Operand.tmp 19), type := 23, pos := "list.go:153", after := #[{ on := 5, ground := Ground.data }, { on := 5, ground := Ground.data }], guard := none }) (by kernel_rfl) (by kernel_rfl) (fun K hK => ?_)
      refine step_make 23 2 (.tmp 19) (by kernel_rfl) (.int .i64 0) 1 8 m Tryd.underlying23 info_i64 (by kernel_rfl) (by have := hnH.out; have := hmH.out; omega) (by have := hnH.out; have := hmH.out; omega) (hK _ _ ?_)
      clear hK K
      have hN86 : Nw w _ n m _ := hN8.make 2
      generalize hzw86 : w8.alloc (.cells (madeCells (Value.cells (.int .i64 0)) (m * 1)) 2) = w86
      rw [show w8.alloc (wob n m 2) = w86 from hzw86] at hN86
      clear hzw86
      simp only [Act.put, List.setIfInBounds_toArray, List.set_cons_succ, List.set_cons_zero]
      refine Tkc.manyC [2, 4] (by kernel_rfl) (by decide) (fun _ => trivial) ?_
      intro ix hix
      rcases (show ix = 2 ∨ ix = 4 by simpa using hix) with rfl | rfl
      · clear hix
        refine Tkc.opC (i := 2) (o := { dst := some 16, op := Op.makeSlice 43 (Operand.tmp 15) (Operand.tmp 15), type := 43, pos := "list.go:153", after := #[{ on := 1, ground := Ground.data }, { on := 1, ground := Ground.data }], guard := none }) (by kernel_rfl) (by kernel_rfl) (fun K hK => ?_)
        refine step_make 43 47 (.tmp 15) (by kernel_rfl) (.slice none 0 0) 1 24 n Tryd.underlying43 info_row (by kernel_rfl) (by have := hnH.out; have := hmH.out; omega) (by have := hnH.out; have := hmH.out; omega) (hK _ _ ?_)
        clear hK K
        have hN862 : Nw w _ n m _ := hN86.make 0
        generalize hzw862 : w86.alloc (.cells (madeCells (Value.cells (.slice none 0 0)) (n * 1)) 47) = w862
        rw [show w86.alloc (wob n m 0) = w862 from hzw862] at hN862
        clear hzw862
        simp only [Act.put, List.setIfInBounds_toArray, List.set_cons_succ, List.set_cons_zero]
        refine Tkc.onlyC (i := 4) (o := { dst := some 18, op := Op.makeSlice 23 (Operand.tmp 17) (Operand.tmp 17), type := 23, pos := "list.go:153", after := #[{ on := 3, ground := Ground.data }, { on := 3, ground := Ground.data }], guard := none }) (by kernel_rfl) (by kernel_rfl) (fun _ => trivial) (by kernel_rfl) (fun K hK => ?_)
        refine step_make 23 2 (.tmp 17) (by kernel_rfl) (.int .i64 0) 1 8 n Tryd.underlying23 info_i64 (by kernel_rfl) (by have := hnH.out; have := hmH.out; omega) (by have := hnH.out; have := hmH.out; omega) (hK _ _ ?_)
        clear hK K
        have hN8624 : Nw w _ n m _ := hN862.make 1
        generalize hzw8624 : w862.alloc (.cells (madeCells (Value.cells (.int .i64 0)) (n * 1)) 2) = w8624
        rw [show w862.alloc (wob n m 1) = w8624 from hzw8624] at hN8624
        clear hzw8624
        simp only [Act.put, List.setIfInBounds_toArray, List.set_cons_succ, List.set_cons_zero]
        refine Tkc.takeC (i := 9) (oi := { dst := some 23, op := Op.build 45 #[(0, Operand.tmp 14), (1, Operand.tmp 16), (2, Operand.tmp 18), (3, Operand.tmp 20), (4, Operand.tmp 22)], type := 45, pos := "list.go:153", after := #[{ on := 0, ground := Ground.data }, { on := 2, ground := Ground.data }, { on := 4, ground := Ground.data }, { on := 6, ground := Ground.data }, { on := 8, ground := Ground.data }], guard := none }) (v := .agg #[.slice pd n cd, .slice (some ⟨w86.heap.size, 0, none⟩) n n, .slice (some ⟨w862.heap.size, 0, none⟩) n n, .slice (some ⟨w8.heap.size, 0, none⟩) m m, .slice (some ⟨wd.heap.size, 0, none⟩) n n]) (by kernel_rfl) (by kernel_rfl) (by kernel_rfl) (by kernel_rfl) (fun c a w h => hQ c a w _ _ h) (by decide) (by kernel_rfl) (by kernel_rfl) trivial ⟨by kernel_rfl, fun wq hw => by go_simp⟩ ?_
        simp only [Act.put, List.setIfInBounds_toArray, List.set_cons_succ, List.set_cons_zero]
        refine Tkc.onlyC (i := 10) (o := { dst := some 24, op := Op.box 45 (Operand.tmp 23), type := 40, pos := "list.go:153", after := #[{ on := 9, ground := Ground.data }], guard := none }) (by kernel_rfl) (by kernel_rfl) (fun _ => trivial) (by kernel_rfl) (fun K hK => ?_)
        go_simp
        refine hK _ _ ?_
        clear hK K
        try simp only [Act.put, List.setIfInBounds_toArray, List.set_cons_succ, List.set_cons_zero]
        refine Tkc.takeC (i := 11) (oi := { dst := some 8, op := Op.assign (Operand.tmp 24), type := 40, pos := "list.go:153", after := #[{ on := 10, ground := Ground.data }, { on := 0, ground := Ground.phase }, { on := 1, ground := Ground.phase }, { on := 2, ground := Ground.phase }, { on := 3, ground := Ground.phase }, { on := 4, ground := Ground.phase }, { on := 5, ground := Ground.phase }, { on := 6, ground := Ground.phase }, { on := 7, ground := Ground.phase }, { on := 8, ground := Ground.phase }, { on := 9, ground := Ground.phase }, { on := 10, ground := Ground.phase }], guard := none }) (v := .pointer (some ⟨w8624.heap.size, 0, none⟩)) (by kernel_rfl) (by kernel_rfl) (by kernel_rfl) (by kernel_rfl) (fun c a w h => hQ c a w _ _ h) (by decide) (by kernel_rfl) (by kernel_rfl) trivial ⟨by kernel_rfl, fun wq hw => by go_simp⟩ ?_
        simp only [Act.put, List.setIfInBounds_toArray, List.set_cons_succ, List.set_cons_zero]
        refine Tkc.doneC (by kernel_rfl) (fun _ => trivial) ?_
        exact key _ _ _ _ _ _ (Mw.of hN8624 rfl rfl rfl rfl)
      · clear hix
        refine Tkc.opC (i := 4) (o := { dst := some 18, op := Op.makeSlice 23 (Operand.tmp 17) (Operand.tmp 17), type := 23, pos := "list.go:153", after := #[{ on := 3, ground := Ground.data }, { on := 3, ground := Ground.data }], guard := none }) (by kernel_rfl) (by kernel_rfl) (fun K hK => ?_)
        refine step_make 23 2 (.tmp 17) (by kernel_rfl) (.int .i64 0) 1 8 n Tryd.underlying23 info_i64 (by kernel_rfl) (by have := hnH.out; have := hmH.out; omega) (by have := hnH.out; have := hmH.out; omega) (hK _ _ ?_)
        clear hK K
        have hN864 : Nw w _ n m _ := hN86.make 1
        generalize hzw864 : w86.alloc (.cells (madeCells (Value.cells (.int .i64 0)) (n * 1)) 2) = w864
        rw [show w86.alloc (wob n m 1) = w864 from hzw864] at hN864
        clear hzw864
        simp only [Act.put, List.setIfInBounds_toArray, List.set_cons_succ, List.set_cons_zero]
        refine Tkc.onlyC (i := 2) (o := { dst := some 16, op := Op.makeSlice 43 (Operand.tmp 15) (Operand.tmp 15), type := 43, pos := "list.go:153", after := #[{ on := 1, ground := Ground.data }, { on := 1, ground := Ground.data }], guard := none }) (by kernel_rfl) (by kernel_rfl) (fun _ => trivial) (by kernel_rfl) (fun K hK => ?_)
        refine step_make 43 47 (.tmp 15) (by kernel_rfl) (.slice none 0 0) 1 24 n Tryd.underlying43 info_row (by kernel_rfl) (by have := hnH.out; have := hmH.out; omega) (by have := hnH.out; have := hmH.out; omega) (hK _ _ ?_)
        clear hK K
        have hN8642 : Nw w _ n m _ := hN864.make 0
        generalize hzw8642 : w864.alloc (.cells (madeCells (Value.cells (.slice none 0 0)) (n * 1)) 47) = w8642
        rw [show w864.alloc (wob n m 0) = w8642 from hzw8642] at hN8642
        clear hzw8642
        simp only [Act.put, List.setIfInBounds_toArray, List.set_cons_succ, List.set_cons_zero]
        refine Tkc.takeC (i := 9) (oi := { dst := some 23, op := Op.build 45 #[(0, Operand.tmp 14), (1, Operand.tmp 16), (2, Operand.tmp 18), (3, Operand.tmp 20), (4, Operand.tmp 22)], type := 45, pos := "list.go:153", after := #[{ on := 0, ground := Ground.data }, { on := 2, ground := Ground.data }, { on := 4, ground := Ground.data }, { on := 6, ground := Ground.data }, { on := 8, ground := Ground.data }], guard := none }) (v := .agg #[.slice pd n cd, .slice (some ⟨w864.heap.size, 0, none⟩) n n, .slice (some ⟨w86.heap.size, 0, none⟩) n n, .slice (some ⟨w8.heap.size, 0, none⟩) m m, .slice (some ⟨wd.heap.size, 0, none⟩) n n]) (by kernel_rfl) (by kernel_rfl) (by kernel_rfl) (by kernel_rfl) (fun c a w h => hQ c a w _ _ h) (by decide) (by kernel_rfl) (by kernel_rfl) trivial ⟨by kernel_rfl, fun wq hw => by go_simp⟩ ?_
        simp only [Act.put, List.setIfInBounds_toArray, List.set_cons_succ, List.set_cons_zero]
        refine Tkc.onlyC (i := 10) (o := { dst := some 24, op := Op.box 45 (Operand.tmp 23), type := 40, pos := "list.go:153", after := #[{ on := 9, ground := Ground.data }], guard := none }) (by kernel_rfl) (by kernel_rfl) (fun _ => trivial) (by kernel_rfl) (fun K hK => ?_)
        go_simp
        refine hK _ _ ?_
        clear hK K
        try simp only [Act.put, List.setIfInBounds_toArray, List.set_cons_succ, List.set_cons_zero]
        refine Tkc.takeC (i := 11) (oi := { dst := some 8, op := Op.assign (Operand.tmp 24), type := 40, pos := "list.go:153", after := #[{ on := 10, ground := Ground.data }, { on := 0, ground := Ground.phase }, { on := 1, ground := Ground.phase }, { on := 2, ground := Ground.phase }, { on := 3, ground := Ground.phase }, { on := 4, ground := Ground.phase }, { on := 5, ground := Ground.phase }, { on := 6, ground := Ground.phase }, { on := 7, ground := Ground.phase }, { on := 8, ground := Ground.phase }, { on := 9, ground := Ground.phase }, { on := 10, ground := Ground.phase }], guard := none }) (v := .pointer (some ⟨w8642.heap.size, 0, none⟩)) (by kernel_rfl) (by kernel_rfl) (by kernel_rfl) (by kernel_rfl) (fun c a w h => hQ c a w _ _ h) (by decide) (by kernel_rfl) (by kernel_rfl) trivial ⟨by kernel_rfl, fun wq hw => by go_simp⟩ ?_
        simp only [Act.put, List.setIfInBounds_toArray, List.set_cons_succ, List.set_cons_zero]
        refine Tkc.doneC (by kernel_rfl) (fun _ => trivial) ?_
        exact key _ _ _ _ _ _ (Mw.of hN8642 rfl rfl rfl rfl)
end Go.Proofs.YthfpdbogbmccjaaDoor
