/- Package pack: filled.with, filled.compare, slices.MinFunc at them. -/
import Derived.Test.YtfnkboegbclnaaaKfm
import Derived.Test.YtfnkboegbclnaaaTko
import Derived.Deep.MidRow
namespace Go.Proofs.Ytfnkboegbclnaaa
open Go.RowKit
set_option linter.unusedSectionVars false
set_option linter.unusedVariables false

def wth (f : Int × Int) (x size : Int) : Int × Int := if f.1 = 0 ∨ size < f.2 + x then (f.1 + 1, x) else (f.1, f.2 + x)
/-- No more boxes, or as many and no more in the last one. -/
def lxLe (f g : Int × Int) : Prop := f.1 < g.1 ∨ (f.1 = g.1 ∧ f.2 ≤ g.2)
def or2 (x y : Int) : Int := if x = 0 then y else x
def cmpF (f g : Int × Int) : Int := or2 (cmpI f.1 g.1) (cmpI f.2 g.2)
theorem cmpF_lt {f g : Int × Int} (h : cmpF f g < 0) : lxLe f g := by
  unfold cmpF or2 cmpI at h
  unfold lxLe
  repeat' split at h
  all_goals omega
theorem cmpF_ge {f g : Int × Int} (h : ¬ cmpF f g < 0) : lxLe g f := by
  unfold cmpF or2 cmpI at h
  unfold lxLe
  repeat' split at h
  all_goals omega
theorem lxLe_refl (f : Int × Int) : lxLe f f := Or.inr ⟨rfl, Int.le_refl _⟩
theorem lxLe_trans {f g h : Int × Int} (a : lxLe f g) (b : lxLe g h) : lxLe f h := by unfold lxLe at *; omega
theorem load_rowK {P : Program} {ops : Array Oper} {rest : List Oper} {o : Oper} {a : Act} {w : World} {Q : Exit → Act → World → Prop} (hw : Region.wanted o (yielded ops a.tmps) = true) (ty : TypeId) (x : Operand) (ho : o.op = .load ty x)
    (g : Nat) (hx : a.eval x = .pointer (some ⟨g, 0, none⟩)) (t : TypeId) (cs : Array Value) (fr : Nat × Nat) (d : TypeDesc) (hg : w.heap[g]? = some (.cells cs t fr))
    (hu : P.underlying ty = some d) (hd : (match d with | .struct _ | .array _ _ => true | _ => false) = true) (hi : (P.info? ty).map (·.size) = some cs.size)
    (h : wpList P ops Q rest (a.put o.dst (.agg cs)) w) : wpList P ops Q (o :: rest) a w := by
  unfold wpList
  rw [if_pos hw]
  exact .inl (wp_load_row ty x ho g hx t cs fr d hg hu hd hi h)
theorem below_row {B : Nat} {w w' : World} (h : Below B w w') {g : Nat} (hg : B ≤ g) {cs : Array Value} : Below B w (w'.setRow g cs) :=
  ⟨h.os, h.tape, h.output, by have := h.size; simpa [World.setRow] using this, fun k hk => (setRow_other w' g k cs (by omega)).trans (h.block k hk)⟩
theorem fl_info (cs : Array Value) (h : cs.size = 2) : (Try.prog.info? 47).map (·.size) = some cs.size := by rw [h]; kernel_rfl
theorem fl_one (x y : Int) : (#[.int .i64 x, .int .i64 y] : Array Value).all (·.oneCell') = true := by simp [Value.oneCell']

set_option maxRecDepth 100000 in
theorem compareI_any (x y : Int) (w : World) : Calls Try.prog 45 #[.int .i64 x, .int .i64 y] w fun e w' => e = .returned (.int .i64 (cmpI x y)) ∧ w' = w := by
  have hn : ∀ (x : Int) (w : World), Calls Try.prog 47 #[.int .i64 x] w fun e w' => e = .returned (.bool false) ∧ w' = w := by
    intro x w
    go_enter Try.func47, Try.ntmps47
    go_wp2
    go_ret
    exact ⟨by simp, rfl⟩
  by_cases h1 : x < y
  · have e : cmpI x y = -1 := by simp [cmpI, h1]
    rw [e]
    go_enter Try.func45, Try.ntmps45
    go_wp2_with (first | (go_at_call 47; refine (hn _ _).mono ?_; rintro e w' ⟨rfl, rfl⟩) | go_in)
    go_ret
    exact ⟨rfl, rfl⟩
  · by_cases h2 : y < x
    · have e : cmpI x y = 1 := by simp [cmpI, h1, h2]
      rw [e]
      go_enter Try.func45, Try.ntmps45
      go_wp2_with (first | (go_at_call 47; refine (hn _ _).mono ?_; rintro e w' ⟨rfl, rfl⟩) | go_in)
      go_ret
      exact ⟨rfl, rfl⟩
    · have e : cmpI x y = 0 := by simp [cmpI, h1, h2]
      rw [e]
      go_enter Try.func45, Try.ntmps45
      go_wp2_with (first | (go_at_call 47; refine (hn _ _).mono ?_; rintro e w' ⟨rfl, rfl⟩) | go_in)
      go_ret
      exact ⟨rfl, rfl⟩
set_option maxRecDepth 100000 in
theorem or2_any (b : Nat) (x y : Int) (w : World) (h0 : w.cell? ⟨b, 0, none⟩ = some (.int .i64 x)) (h1 : w.cell? ⟨b, 1, none⟩ = some (.int .i64 y)) :
    Calls Try.prog 44 #[.slice (some ⟨b, 0, none⟩) 2 2] w fun e w' => e = .returned (.int .i64 (or2 x y)) ∧ w' = w := by
  unfold or2
  by_cases hx : x = 0
  · subst hx
    rw [if_pos rfl]
    by_cases hy : y = 0
    · subst hy
      go_enter Try.func44, Try.ntmps44
      go_wp2
      refine wp_loop_rounds 3 ?_
      rw [rounds_succ]
      go_wp2
      rw [rounds_succ]
      go_wp2
      rw [rounds_succ]
      go_wp2
      go_ret
      exact ⟨rfl, rfl⟩
    · go_enter Try.func44, Try.ntmps44
      go_wp2
      refine wp_loop_rounds 2 ?_
      rw [rounds_succ]
      go_wp2
      rw [rounds_succ]
      go_wp2
      go_ret
      exact ⟨rfl, rfl⟩
  · rw [if_neg hx]
    go_enter Try.func44, Try.ntmps44
    go_wp2
    refine wp_loop_rounds 1 ?_
    rw [rounds_succ]
    go_wp2
    go_ret
    exact ⟨rfl, rfl⟩

set_option maxHeartbeats 1000000 in
set_option maxRecDepth 100000 in
theorem compareF_any (f g : Int × Int) (w : World) : Calls Try.prog 40 #[.agg #[.int .i64 f.1, .int .i64 f.2], .agg #[.int .i64 g.1, .int .i64 g.2]] w fun e w' => e = .returned (.int .i64 (cmpF f g)) ∧ Below w.heap.size w w' := by
  have g1 := heap_alloc_new (w.alloc (.cells #[.int .i64 f.1, .int .i64 f.2] 47)) (.cells #[.int .i64 g.1, .int .i64 g.2] 47)
  have g0 := (Below.heap_alloc (w.alloc (.cells #[.int .i64 f.1, .int .i64 f.2] 47)) (.cells #[.int .i64 g.1, .int .i64 g.2] 47) w.heap.size (by simp)).trans (heap_alloc_new w (.cells #[.int .i64 f.1, .int .i64 f.2] 47))
  have hb : Below w.heap.size w ((w.alloc (.cells #[.int .i64 f.1, .int .i64 f.2] 47)).alloc (.cells #[.int .i64 g.1, .int .i64 g.2] 47)) := ((Below.refl _ _).alloc (Nat.le_refl _) _).alloc (by simp) _
  rw [World.size_alloc] at g1
  go_enter Try.func40, Try.ntmps40
  go_wp2
  have HBd : Hid (Below w.heap.size w ((w.alloc (.cells #[.int .i64 f.1, .int .i64 f.2] 47)).alloc (.cells #[.int .i64 g.1, .int .i64 g.2] 47)).drew) := hb.drew
  have x5 : ((w.alloc (.cells #[.int .i64 f.1, .int .i64 f.2] 47)).alloc (.cells #[.int .i64 g.1, .int .i64 g.2] 47)).drew.heap[w.heap.size]? = some (.cells #[.int .i64 f.1, .int .i64 f.2] 47 (0, 0)) := g0
  have y5 : ((w.alloc (.cells #[.int .i64 f.1, .int .i64 f.2] 47)).alloc (.cells #[.int .i64 g.1, .int .i64 g.2] 47)).drew.heap[w.heap.size + 1]? = some (.cells #[.int .i64 g.1, .int .i64 g.2] 47 (0, 0)) := g1
  clear g0 g1 hb
  refine Tkc.region_anyC (C := fun w' => Below ((w.alloc (.cells #[.int .i64 f.1, .int .i64 f.2] 47)).alloc (.cells #[.int .i64 g.1, .int .i64 g.2] 47)).drew.heap.size ((w.alloc (.cells #[.int .i64 f.1, .int .i64 f.2] 47)).alloc (.cells #[.int .i64 g.1, .int .i64 g.2] 47)).drew w') (s := 12) (by kernel_rfl) ?_
  generalize ((w.alloc (.cells #[.int .i64 f.1, .int .i64 f.2] 47)).alloc (.cells #[.int .i64 g.1, .int .i64 g.2] 47)).drew = wd at *
  obtain ⟨gy, hgy⟩ : ∃ gy, gy = w.heap.size + 1 := ⟨_, rfl⟩
  rw [← hgy] at y5 ⊢
  obtain ⟨gx, hgx⟩ : ∃ gx, gx = w.heap.size := ⟨_, rfl⟩
  rw [← hgx] at x5 HBd ⊢
  have hgxH : Hid (gx = w.heap.size) := hgx
  clear hgx hgy
  have hcz : Below wd.heap.size wd wd := Below.refl _ _
  have hcl : ∀ w', Below wd.heap.size wd w' → w'.cell? ⟨gx, 0, none⟩ = some (.int .i64 f.1) ∧ w'.cell? ⟨gx, 1, none⟩ = some (.int .i64 f.2) ∧ w'.cell? ⟨gy, 0, none⟩ = some (.int .i64 g.1) ∧ w'.cell? ⟨gy, 1, none⟩ = some (.int .i64 g.2) := by
    intro w' hw'
    replace x5 := (hw'.block _ (Array.getElem?_eq_some_iff.1 x5).1).trans x5
    replace y5 := (hw'.block _ (Array.getElem?_eq_some_iff.1 y5).1).trans y5
    exact ⟨(cell_of_row _ _ 0 _ _ _ x5).trans rfl, (cell_of_row _ _ 1 _ _ _ x5).trans rfl, (cell_of_row _ _ 0 _ _ _ y5).trans rfl, (cell_of_row _ _ 1 _ _ _ y5).trans rfl⟩
  clear x5 y5
  refine Tkc.takeC (i := 0) (v := .pointer (some ⟨gx, 0, none⟩)) rfl (by kernel_rfl) (by kernel_rfl) (by kernel_rfl) (fun _ _ _ h => h) (by decide) (by kernel_rfl) (by kernel_rfl) hcz ⟨by kernel_rfl, fun wq hw => by obtain ⟨z0, z1, z2, z3⟩ := hcl wq hw; go_simp⟩ ?_
  try go_frame
  refine Tkc.takeC (i := 1) (v := .int .i64 f.1) rfl (by kernel_rfl) (by kernel_rfl) (by kernel_rfl) (fun _ _ _ h => h) (by decide) (by kernel_rfl) (by kernel_rfl) hcz ⟨by kernel_rfl, fun wq hw => by obtain ⟨z0, z1, z2, z3⟩ := hcl wq hw; go_simp⟩ ?_
  try go_frame
  refine Tkc.takeC (i := 2) (v := .pointer (some ⟨gy, 0, none⟩)) rfl (by kernel_rfl) (by kernel_rfl) (by kernel_rfl) (fun _ _ _ h => h) (by decide) (by kernel_rfl) (by kernel_rfl) hcz ⟨by kernel_rfl, fun wq hw => by obtain ⟨z0, z1, z2, z3⟩ := hcl wq hw; go_simp⟩ ?_
  try go_frame
  refine Tkc.takeC (i := 3) (v := .int .i64 g.1) rfl (by kernel_rfl) (by kernel_rfl) (by kernel_rfl) (fun _ _ _ h => h) (by decide) (by kernel_rfl) (by kernel_rfl) hcz ⟨by kernel_rfl, fun wq hw => by obtain ⟨z0, z1, z2, z3⟩ := hcl wq hw; go_simp⟩ ?_
  try go_frame
  refine Tkc.takeC (i := 5) (v := .pointer (some ⟨gx, 1, none⟩)) rfl (by kernel_rfl) (by kernel_rfl) (by kernel_rfl) (fun _ _ _ h => h) (by decide) (by kernel_rfl) (by kernel_rfl) hcz ⟨by kernel_rfl, fun wq hw => by obtain ⟨z0, z1, z2, z3⟩ := hcl wq hw; go_simp⟩ ?_
  try go_frame
  refine Tkc.takeC (i := 6) (v := .int .i64 f.2) rfl (by kernel_rfl) (by kernel_rfl) (by kernel_rfl) (fun _ _ _ h => h) (by decide) (by kernel_rfl) (by kernel_rfl) hcz ⟨by kernel_rfl, fun wq hw => by obtain ⟨z0, z1, z2, z3⟩ := hcl wq hw; go_simp⟩ ?_
  try go_frame
  refine Tkc.takeC (i := 7) (v := .pointer (some ⟨gy, 1, none⟩)) rfl (by kernel_rfl) (by kernel_rfl) (by kernel_rfl) (fun _ _ _ h => h) (by decide) (by kernel_rfl) (by kernel_rfl) hcz ⟨by kernel_rfl, fun wq hw => by obtain ⟨z0, z1, z2, z3⟩ := hcl wq hw; go_simp⟩ ?_
  try go_frame
  refine Tkc.takeC (i := 8) (v := .int .i64 g.2) rfl (by kernel_rfl) (by kernel_rfl) (by kernel_rfl) (fun _ _ _ h => h) (by decide) (by kernel_rfl) (by kernel_rfl) hcz ⟨by kernel_rfl, fun wq hw => by obtain ⟨z0, z1, z2, z3⟩ := hcl wq hw; go_simp⟩ ?_
  try go_frame
  clear hcl
  refine Tkc.onlyC (i := 4) rfl (by kernel_rfl) (fun _ => hcz) (by kernel_rfl) (fun K hK => ?_)
  go_simp
  refine (compareI_any f.1 g.1 wd).mono ?_
  rintro e w9 ⟨rfl, hw9⟩
  have hw8 := hw9.symm
  subst hw8
  clear hw9
  refine hK _ _ ?_
  clear hK K
  try go_frame
  refine Tkc.onlyC (i := 9) rfl (by kernel_rfl) (fun _ => hcz) (by kernel_rfl) (fun K hK => ?_)
  go_simp
  refine (compare64_any f.2 g.2 wd).mono ?_
  rintro e w9 ⟨rfl, hw9⟩
  have hw8 := hw9.symm
  subst hw8
  clear hw9
  refine hK _ _ ?_
  clear hK K
  try go_frame
  refine Tkc.onlyC (i := 10) rfl (by kernel_rfl) (fun _ => hcz) (by kernel_rfl) (fun K hK => ?_)
  go_simp
  have hBA : Below gx w (wd.alloc (.cells #[.int .i64 (cmpI f.1 g.1), .int .i64 (cmpI f.2 g.2)] 3)) := HBd.out.alloc (by rw [hgxH.out]; exact HBd.out.size) _
  have hor := or2_any wd.heap.size (cmpI f.1 g.1) (cmpI f.2 g.2) (wd.alloc (.cells #[.int .i64 (cmpI f.1 g.1), .int .i64 (cmpI f.2 g.2)] 3)) ((cell_of_row _ _ 0 _ _ _ (heap_alloc_new _ _)).trans rfl) ((cell_of_row _ _ 1 _ _ _ (heap_alloc_new _ _)).trans rfl)
  have hczA : Below wd.heap.size wd (wd.alloc (.cells #[.int .i64 (cmpI f.1 g.1), .int .i64 (cmpI f.2 g.2)] 3)) := (Below.refl _ _).alloc (Nat.le_refl _) _
  refine hK _ _ ?_
  clear hK K
  try go_frame
  have hBAH : Hid (Below gx w (wd.alloc (.cells #[.int .i64 (cmpI f.1 g.1), .int .i64 (cmpI f.2 g.2)] 3))) := hBA
  clear hBA hcz
  generalize wd.alloc (.cells #[.int .i64 (cmpI f.1 g.1), .int .i64 (cmpI f.2 g.2)] 3) = wz at *
  refine Tkc.onlyC (i := 11) rfl (by kernel_rfl) (fun _ => hczA) (by kernel_rfl) (fun K hK => ?_)
  go_simp
  refine hor.mono ?_
  rintro e w9 ⟨rfl, hw9⟩
  have hw8 := hw9.symm
  subst hw8
  clear hw9
  refine hK _ _ ?_
  clear hK K
  try go_frame
  refine Tkc.onlyC (i := 12) rfl (by kernel_rfl) (fun _ => hczA) (by kernel_rfl) (fun K hK => ?_)
  go_simp
  refine hK _ _ ?_
  clear hK K
  try go_frame
  refine Tkc.doneC (by kernel_rfl) (fun _ => hczA) ?_
  go_wp2
  go_ret
  rw [← hgxH.out]
  exact ⟨rfl, hBAH.out⟩

set_option maxHeartbeats 1000000 in
set_option maxRecDepth 100000 in
theorem with_any (f : Int × Int) (x size : Int) (w : World) (hf : 0 ≤ f.1 ∧ f.1 ≤ 1000 ∧ 0 ≤ f.2 ∧ f.2 ≤ 1099511627776) (hx : 0 ≤ x ∧ x ≤ 1099511627776) :
    Calls Try.prog 38 #[.agg #[.int .i64 f.1, .int .i64 f.2], .int .i64 x, .int .i64 size] w fun e w' => e = .returned (.agg #[.int .i64 (wth f x size).1, .int .i64 (wth f x size).2]) ∧ Below w.heap.size w w' := by
  have g0 := (Below.heap_alloc (w.alloc (.cells #[.int .i64 f.1, .int .i64 f.2] 47)) (.cells #[.int .i64 0, .int .i64 0] 47) w.heap.size (by simp)).trans (heap_alloc_new w (.cells #[.int .i64 f.1, .int .i64 f.2] 47))
  have g1 := heap_alloc_new (w.alloc (.cells #[.int .i64 f.1, .int .i64 f.2] 47)) (.cells #[.int .i64 0, .int .i64 0] 47)
  rw [World.size_alloc] at g1
  have c0 : ((w.alloc (.cells #[.int .i64 f.1, .int .i64 f.2] 47)).alloc (.cells #[.int .i64 0, .int .i64 0] 47)).cell? ⟨w.heap.size, 0, none⟩ = some (.int .i64 f.1) := (cell_of_row _ _ 0 _ _ _ g0).trans rfl
  have c1 : ((w.alloc (.cells #[.int .i64 f.1, .int .i64 f.2] 47)).alloc (.cells #[.int .i64 0, .int .i64 0] 47)).cell? ⟨w.heap.size, 1, none⟩ = some (.int .i64 f.2) := (cell_of_row _ _ 1 _ _ _ g0).trans rfl
  have hb : Hid (Below w.heap.size w ((w.alloc (.cells #[.int .i64 f.1, .int .i64 f.2] 47)).alloc (.cells #[.int .i64 0, .int .i64 0] 47))) := ((Below.refl _ _).alloc (Nat.le_refl _) _).alloc (by simp) _
  have hw1 : wrap64 (f.1 + 1) = f.1 + 1 := by unfold wrap64; omega
  clear g0
  obtain ⟨k, r⟩ := f
  dsimp only at *
  have hw2 : wrap64 (r + x) = r + x := by clear hw1; unfold wrap64; omega
  clear hf hx
  unfold wth
  dsimp only
  by_cases hk : k = 0
  · subst hk
    rw [if_pos (Or.inl rfl)]
    have hz : ((0 : Int) == 0) = true := rfl
    have hw1 : wrap64 ((0 : Int) + 1) = 0 + 1 := by unfold wrap64; omega
    clear hw2
    go_enter Try.func38, Try.ntmps38
    go_wp2_with (first
      | (refine wpList_store_row rfl 47 _ _ rfl _ #[.int .i64 (0 + 1), .int .i64 x] rfl rfl _ _ g1 (fl_info _ rfl) rfl (fl_one _ _) ?_)
      | go_in)
    refine bodyPost_ret (results_cell_row Try.results38 _ _ (w.heap.size + 1) _ #[.int .i64 (0 + 1), .int .i64 x] (0, 0) _ rfl (setRow_heap ((w.alloc (.cells #[.int .i64 0, .int .i64 r] 47)).alloc (.cells #[.int .i64 0, .int .i64 0] 47)) (w.heap.size + 1) _ _ _ _ g1) Try.underlying47 rfl (fl_info _ rfl)) rfl ⟨rfl, below_row hb.out (by omega)⟩
  · have hkb : (k == 0) = false := by simpa using hk
    by_cases hs : size < r + x
    · rw [if_pos (Or.inr hs)]
      clear hk
      go_enter Try.func38, Try.ntmps38
      go_wp2_with (first
        | (refine wpList_store_row rfl 47 _ _ rfl _ #[.int .i64 (k + 1), .int .i64 x] rfl rfl _ _ g1 (fl_info _ rfl) rfl (fl_one _ _) ?_)
        | go_in)
      refine bodyPost_ret (results_cell_row Try.results38 _ _ (w.heap.size + 1) _ #[.int .i64 (k + 1), .int .i64 x] (0, 0) _ rfl (setRow_heap ((w.alloc (.cells #[.int .i64 k, .int .i64 r] 47)).alloc (.cells #[.int .i64 0, .int .i64 0] 47)) (w.heap.size + 1) _ _ _ _ g1) Try.underlying47 rfl (fl_info _ rfl)) rfl ⟨rfl, below_row hb.out (by omega)⟩
    · rw [if_neg (by omega)]
      clear hk hw1
      go_enter Try.func38, Try.ntmps38
      go_wp2_with (first
        | (refine wpList_store_row rfl 47 _ _ rfl _ #[.int .i64 k, .int .i64 (r + x)] rfl rfl _ _ g1 (fl_info _ rfl) rfl (fl_one _ _) ?_)
        | go_in)
      refine bodyPost_ret (results_cell_row Try.results38 _ _ (w.heap.size + 1) _ #[.int .i64 k, .int .i64 (r + x)] (0, 0) _ rfl (setRow_heap ((w.alloc (.cells #[.int .i64 k, .int .i64 r] 47)).alloc (.cells #[.int .i64 0, .int .i64 0] 47)) (w.heap.size + 1) _ _ _ _ g1) Try.underlying47 rfl (fl_info _ rfl)) rfl ⟨rfl, below_row hb.out (by omega)⟩

/-- The ways lie in a row. -/
def RowF (w : World) (g : Nat) (L : List (Int × Int)) : Prop := ∀ (j : Nat) (x : Int × Int), L[j]? = some x → w.cell? ⟨g, j * 2, none⟩ = some (.int .i64 x.1) ∧ w.cell? ⟨g, j * 2 + 1, none⟩ = some (.int .i64 x.2)
theorem RowF.below {w w' : World} {g B : Nat} {L : List (Int × Int)} (h : RowF w g L) (hb : Below B w w') (hg : g < B) : RowF w' g L := fun j x hx => ⟨(hb.cell (p := ⟨g, j * 2, none⟩) hg).trans (h j x hx).1, (hb.cell (p := ⟨g, j * 2 + 1, none⟩) hg).trans (h j x hx).2⟩
/-- What the least of some ways is. -/
def MinP (L : List (Int × Int)) (e : Ending) : Prop := ∃ m : Int × Int, m ∈ L ∧ (∀ y ∈ L, lxLe m y) ∧ e = .returned (.agg #[.int .i64 m.1, .int .i64 m.2])
set_option maxHeartbeats 2000000 in
set_option maxRecDepth 100000 in
theorem minF_any (L : List (Int × Int)) (n c g : Nat) (w : World) (hn : L.length = n) (h0 : 0 < n) (hn2 : n ≤ 100) (hg : g < w.heap.size) (hL : RowF w g L) :
    Calls Try.prog 39 #[.slice (some ⟨g, 0, none⟩) n c, .func (.func 40) #[] #[]] w fun e w' => MinP L e ∧ Below w.heap.size w w' := by
  obtain ⟨x0, hx0⟩ : ∃ x, L[0]? = some x := ⟨L[0]'(by omega), List.getElem?_eq_getElem _⟩
  have hLH : Hid (RowF w g L) := hL
  have hgH : Hid (g < w.heap.size) := hg
  have hnH : Hid (L.length = n ∧ 0 < n ∧ n ≤ 100) := ⟨hn, h0, hn2⟩
  have hn1 : ¬ (n : Int) < 1 := by omega
  have hn0 : (0 : Int) < (n : Int) := by omega
  obtain ⟨c0, c1⟩ := hL 0 x0 hx0
  have c0 : w.cell? ⟨g, 0, none⟩ = some (.int .i64 x0.1) := by simpa using c0
  have c1 : w.cell? ⟨g, 1, none⟩ = some (.int .i64 x0.2) := by simpa using c1
  have c0A := cell_alloc c0 (.cells #[.int .i64 0, .int .i64 0] 47)
  have c1A := cell_alloc c1 (.cells #[.int .i64 0, .int .i64 0] 47)
  have g0 := (Below.heap_alloc (w.alloc (.cells #[.int .i64 0, .int .i64 0] 47)) (.cells #[.int .i64 x0.1, .int .i64 x0.2] 47) w.heap.size (by simp)).trans (heap_alloc_new w (.cells #[.int .i64 0, .int .i64 0] 47))
  have g1 := heap_alloc_new (w.alloc (.cells #[.int .i64 0, .int .i64 0] 47)) (.cells #[.int .i64 x0.1, .int .i64 x0.2] 47)
  rw [World.size_alloc] at g1
  have hB : Below w.heap.size w ((w.alloc (.cells #[.int .i64 0, .int .i64 0] 47)).alloc (.cells #[.int .i64 x0.1, .int .i64 x0.2] 47)) := ((Below.refl _ _).alloc (Nat.le_refl _) _).alloc (by simp) _
  have hsz9 : Hid (w.heap.size + 1 < ((w.alloc (.cells #[.int .i64 0, .int .i64 0] 47)).alloc (.cells #[.int .i64 x0.1, .int .i64 x0.2] 47)).heap.size) := by show _ < _; simp
  have hx0H : Hid (L[0]? = some x0) := hx0
  clear hL hg hn h0 hn2 hx0 c0 c1
  go_enter Try.func39, Try.ntmps39
  go_wp2
  have hrH : Hid (g < w.heap.size) := hgH.out
  obtain ⟨r0, hr0⟩ : ∃ r0, r0 = w.heap.size := ⟨_, rfl⟩
  rw [← hr0] at g0 g1 hB hgH hsz9 ⊢
  have hr0H : Hid (r0 = w.heap.size) := hr0
  obtain ⟨r1, hr1⟩ : ∃ r1, r1 = r0 + 1 := ⟨_, rfl⟩
  rw [← hr1] at g1 hsz9 ⊢
  have hr1H : Hid (r1 = r0 + 1) := hr1
  clear c0A c1A hr0 hr1 hn1 hn0
  generalize ((w.alloc (.cells #[.int .i64 0, .int .i64 0] 47)).alloc (.cells #[.int .i64 x0.1, .int .i64 x0.2] 47)) = wA at *
  go_loopw [6] (fun iv wr => ∃ (j : Nat) (m : Int × Int), iv = .int .i64 (j : Int) ∧ Hid (1 ≤ j ∧ j ≤ n) ∧ Hid (m ∈ L) ∧ Hid (∀ i, i < j → ∀ y, L[i]? = some y → lxLe m y) ∧ wr.heap[r0]? = some (.cells #[.int .i64 0, .int .i64 0] 47 (0, 0)) ∧ wr.heap[r1]? = some (.cells #[.int .i64 m.1, .int .i64 m.2] 47 (0, 0)) ∧ Hid (Below r0 w wr)) (fun iv _ => n - (intOf iv).toNat)
  case atStart => exact ⟨1, x0, by first | rfl | simp, ⟨Nat.le_refl _, hnH.out.2.1⟩, List.mem_of_getElem? hx0H.out, fun i hi y hy => by
    have : i = 0 := by omega
    rw [this, hx0H.out] at hy
    cases hy
    exact lxLe_refl _, g0, g1, hB⟩
  case round =>
    clear g0 g1 hB
    obtain ⟨j, m, rfl, hj, hm, hmin, g0, g1, hbl⟩ := hrel
    by_cases hjn : j < n
    · obtain ⟨y, hy⟩ : ∃ y, L[j]? = some y := ⟨L[j]'(by have := hnH.out.1; omega), List.getElem?_eq_getElem _⟩
      have hyH : Hid (L[j]? = some y) := hy
      have hji : (j : Int) < (n : Int) := by omega
      have hjH : Hid (j < n) := hjn
      have hLr : RowF wr g L := hLH.out.below hbl.out hgH.out
      have hbH : Hid (Below r0 w wr) := hbl
      have hgr : g < wr.heap.size := Nat.lt_of_lt_of_le hrH.out (by have := hbl.out.size; rw [← hr0H.out]; have h9 := (Array.getElem?_eq_some_iff.1 g0).1; omega)
      have hcm := fun w1 => compareF_any y m w1
      have g0d : wr.drew.heap[r0]? = _ := g0
      have g1d : wr.drew.heap[r1]? = _ := g1
      have hbd : Hid (Below r0 w wr.drew) := hbl.out.drew
      have hLd : RowF wr.drew g L := hLr
      have hgd : g < wr.drew.heap.size := hgr
      clear hy hjn hj hbl hLr hgr g0 g1
      go_wp2
      refine Tkc.region_anyC (C := fun w' => Below wr.drew.heap.size wr.drew w') (s := 8) (by kernel_rfl) ?_
      generalize wr.drew = wd at *
      have hcz : Below wd.heap.size wd wd := Below.refl _ _
      have hcl : ∀ w', Below wd.heap.size wd w' → w'.cell? ⟨g, j * 2, none⟩ = some (.int .i64 y.1) ∧ w'.cell? ⟨g, j * 2 + 1, none⟩ = some (.int .i64 y.2) ∧ w'.cell? ⟨r1, 0, none⟩ = some (.int .i64 m.1) ∧ w'.cell? ⟨r1, 1, none⟩ = some (.int .i64 m.2) := by
        intro w' hw'
        have y5 := (hw'.block _ (Array.getElem?_eq_some_iff.1 g1d).1).trans g1d
        obtain ⟨q1, q2⟩ := (hLd.below hw' hgd) j y hyH.out
        exact ⟨q1, q2, (cell_of_row _ _ 0 _ _ _ y5).trans rfl, (cell_of_row _ _ 1 _ _ _ y5).trans rfl⟩
      refine Tkc.takeC (i := 0) (v := .func (.func 40) #[] #[]) rfl (by kernel_rfl) (by kernel_rfl) (by kernel_rfl) (fun _ _ _ h => h) (by decide) (by kernel_rfl) (by kernel_rfl) hcz ⟨by kernel_rfl, fun wq hw => by obtain ⟨z0, z1, z2, z3⟩ := hcl wq hw; have hji9 := hji; go_simp⟩ ?_
      try go_frame
      refine Tkc.takeC (i := 1) (v := .slice (some ⟨g, 0, none⟩) n c) rfl (by kernel_rfl) (by kernel_rfl) (by kernel_rfl) (fun _ _ _ h => h) (by decide) (by kernel_rfl) (by kernel_rfl) hcz ⟨by kernel_rfl, fun wq hw => by obtain ⟨z0, z1, z2, z3⟩ := hcl wq hw; have hji9 := hji; go_simp⟩ ?_
      try go_frame
      refine Tkc.takeC (i := 2) (v := .int .i64 (j : Int)) rfl (by kernel_rfl) (by kernel_rfl) (by kernel_rfl) (fun _ _ _ h => h) (by decide) (by kernel_rfl) (by kernel_rfl) hcz ⟨by kernel_rfl, fun wq hw => by obtain ⟨z0, z1, z2, z3⟩ := hcl wq hw; have hji9 := hji; go_simp⟩ ?_
      try go_frame
      refine Tkc.takeC (i := 3) (v := .pointer (some ⟨g, j * 2, none⟩)) rfl (by kernel_rfl) (by kernel_rfl) (by kernel_rfl) (fun _ _ _ h => h) (by decide) (by kernel_rfl) (by kernel_rfl) hcz ⟨by kernel_rfl, fun wq hw => by obtain ⟨z0, z1, z2, z3⟩ := hcl wq hw; have hji9 := hji; go_simp⟩ ?_
      try go_frame
      refine Tkc.takeC (i := 4) (v := .agg #[.int .i64 y.1, .int .i64 y.2]) rfl (by kernel_rfl) (by kernel_rfl) (by kernel_rfl) (fun _ _ _ h => h) (by decide) (by kernel_rfl) (by kernel_rfl) hcz ⟨by kernel_rfl, fun wq hw => by obtain ⟨z0, z1, z2, z3⟩ := hcl wq hw; have hji9 := hji; go_simp⟩ ?_
      try go_frame
      refine Tkc.takeC (i := 5) (v := .agg #[.int .i64 m.1, .int .i64 m.2]) rfl (by kernel_rfl) (by kernel_rfl) (by kernel_rfl) (fun _ _ _ h => h) (by decide) (by kernel_rfl) (by kernel_rfl) hcz ⟨by kernel_rfl, fun wq hw => by obtain ⟨z0, z1, z2, z3⟩ := hcl wq hw; have hji9 := hji; go_simp⟩ ?_
      try go_frame
      refine Tkc.onlyC (i := 6) rfl (by kernel_rfl) (fun _ => hcz) (by kernel_rfl) (fun K hK => ?_)
      go_simp
      refine (hcm wd).mono ?_
      rintro e w6 ⟨rfl, hb6⟩
      have hcz6 : Below wd.heap.size wd w6 := hb6
      refine hK _ _ ?_
      clear hK K hcm
      try go_frame
      refine Tkc.onlyC (i := 7) rfl (by kernel_rfl) (fun _ => hcz6) (by kernel_rfl) (fun K hK => ?_)
      go_simp
      refine hK _ _ ?_
      clear hK K
      try go_frame
      refine Tkc.doneC (by kernel_rfl) (fun _ => hcz6) ?_
      have g06 : w6.heap[r0]? = some (.cells #[.int .i64 0, .int .i64 0] 47 (0, 0)) := (hb6.block _ (Array.getElem?_eq_some_iff.1 g0d).1).trans g0d
      have g16 : w6.heap[r1]? = some (.cells #[.int .i64 m.1, .int .i64 m.2] 47 (0, 0)) := (hb6.block _ (Array.getElem?_eq_some_iff.1 g1d).1).trans g1d
      obtain ⟨p0, p1⟩ := (hLd.below hb6 hgd) j y hyH.out
      have hb7 : Hid (Below r0 w w6) := hbd.out.trans (hb6.mono (by rw [hr0H.out]; exact hbd.out.size))
      have hj5 : Hid (j ≤ 100000) := by have := hnH.out.2.2; have := hjH.out; show _ ≤ _; omega
      have hr01 : Hid (r0 ≠ r1) := by have := hr1H.out; show _ ≠ _; omega
      have hlt : Hid (cmpF y m < 0 → lxLe y m) := fun h => cmpF_lt h
      have hge : Hid (¬ cmpF y m < 0 → lxLe m y) := fun h => cmpF_ge h
      clear hcl hcz hcz6 g0d g1d hbd hLd hgd hb6
      generalize cmpF y m = E at *
      by_cases hE : E < 0
      · have hEd : decide (E < 0) = true := decide_eq_true hE
        have hle : Hid (lxLe y m) := hlt.out hE
        clear hlt hge
        go_wp2_with (first
          | (refine wpList_store_row rfl 47 _ _ rfl _ #[.int .i64 y.1, .int .i64 y.2] rfl rfl _ _ g16 (fl_info _ rfl) rfl (fl_one _ _) ?_)
          | fail)
        refine ⟨⟨j + 1, y, ?_, ⟨by omega, hjH.out⟩, List.mem_of_getElem? hyH.out, fun i hi z hz => ?_, (setRow_other w6 r1 r0 _ hr01.out).trans g06, setRow_heap w6 r1 _ _ _ _ g16, below_row hb7.out (by have := hr1H.out; omega)⟩, ?_⟩
        · first | exact int_succ j | exact int_wsucc hj5.out
        · by_cases e : i = j
          · rw [e, hyH.out] at hz; cases hz; exact lxLe_refl _
          · exact lxLe_trans hle.out (hmin.out i (by omega) z hz)
        · first | exact meas_1 hjH.out | exact meas_w hjH.out hj5.out
      · have hEd : decide (E < 0) = false := decide_eq_false hE
        have hle : Hid (lxLe m y) := hge.out hE
        clear hlt hge
        go_wp2
        refine ⟨⟨j + 1, m, ?_, ⟨by omega, hjH.out⟩, hm, fun i hi z hz => ?_, g06, g16, hb7⟩, ?_⟩
        · first | exact int_succ j | exact int_wsucc hj5.out
        · by_cases e : i = j
          · rw [e, hyH.out] at hz; cases hz; exact hle.out
          · exact hmin.out i (by omega) z hz
        · first | exact meas_1 hjH.out | exact meas_w hjH.out hj5.out
    · have hji : ¬ (j : Int) < (n : Int) := by omega
      have hall : Hid (∀ z ∈ L, lxLe m z) := fun z hz => by
        obtain ⟨i, hi, e⟩ := List.getElem_of_mem hz
        refine hmin.out i (by have := hnH.out.1; omega) z ?_
        rw [← e]; exact List.getElem?_eq_getElem hi
      have hr01 : r0 ≠ r1 := by have := hr1H.out; omega
      have a0 := (cell_of_row _ _ 0 _ _ _ g1).trans rfl
      clear hjn hj hmin a0
      go_wp2_with (first
        | (refine load_rowK rfl 47 _ rfl _ rfl _ _ _ _ g1 Try.underlying47 rfl (fl_info _ rfl) ?_)
        | (refine wpList_store_row rfl 47 _ _ rfl _ #[.int .i64 m.1, .int .i64 m.2] rfl rfl _ _ g0 (fl_info _ rfl) rfl (fl_one _ _) ?_)
        | fail)
      refine bodyPost_ret (results_cell_row Try.results39 _ _ r0 _ #[.int .i64 m.1, .int .i64 m.2] (0, 0) _ rfl (setRow_heap wr r0 _ _ _ _ g0) Try.underlying47 rfl (fl_info _ rfl)) rfl ⟨⟨m, hm.out, hall.out, rfl⟩, ?_⟩
      rw [← hr0H.out]
      exact below_row hbl.out (Nat.le_refl _)
end Go.Proofs.Ytfnkboegbclnaaa
