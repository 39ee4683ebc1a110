/- cmp.Compare, cmp.Or of three, host.compareLeft, Best's closure: walked. -/
import Derived.Test.YtelepamnlpebgabDoorHfi
namespace Go.Proofs.YtelepamnlpebgabDoor
open Go.RowKit Go.Shelf Akm Ndm
set_option linter.unusedSectionVars false
set_option linter.unusedVariables false

def cmpI (x y : Int) : Int := if x < y then -1 else if y < x then 1 else 0
theorem isnan64_any (x : Int) (w : World) : Calls Tryd.prog 85 #[.int .i64 x] w fun e w' => e = .returned (.bool false) ∧ w' = w := by
  go_enter Tryd.func85, Tryd.ntmps85
  go_wp2
  go_ret
  exact ⟨by simp, rfl⟩
set_option maxRecDepth 100000 in
theorem compare64_any (x y : Int) (w : World) : Calls Tryd.prog 69 #[.int .i64 x, .int .i64 y] w fun e w' => e = .returned (.int .i64 (cmpI x y)) ∧ w' = w := by
  have hn := isnan64_any
  by_cases h1 : x < y
  · have e : cmpI x y = -1 := by simp [cmpI, h1]
    rw [e]
    go_enter Tryd.func69, Tryd.ntmps69
    go_wp2_with (first | (go_at_call 85; refine (hn _ _).mono ?_; rintro e w' ⟨rfl, rfl⟩) | go_in)
    go_ret
    exact ⟨rfl, rfl⟩
  · by_cases h2 : y < x
    · have e : cmpI x y = 1 := by simp [cmpI, h1, h2]
      rw [e]
      go_enter Tryd.func69, Tryd.ntmps69
      go_wp2_with (first | (go_at_call 85; refine (hn _ _).mono ?_; rintro e w' ⟨rfl, rfl⟩) | go_in)
      go_ret
      exact ⟨rfl, rfl⟩
    · have e : cmpI x y = 0 := by simp [cmpI, h1, h2]
      rw [e]
      go_enter Tryd.func69, Tryd.ntmps69
      go_wp2_with (first | (go_at_call 85; refine (hn _ _).mono ?_; rintro e w' ⟨rfl, rfl⟩) | go_in)
      go_ret
      exact ⟨rfl, rfl⟩
def or3 (x y z : Int) : Int := if x = 0 then (if y = 0 then z else y) else x
set_option maxRecDepth 100000 in
theorem or3_any (b : Nat) (x y z : Int) (w : World) (h0 : w.cell? ⟨b, 0, none⟩ = some (.int .i64 x)) (h1 : w.cell? ⟨b, 1, none⟩ = some (.int .i64 y)) (h2 : w.cell? ⟨b, 2, none⟩ = some (.int .i64 z)) :
    Calls Tryd.prog 68 #[.slice (some ⟨b, 0, none⟩) 3 3] w fun e w' => e = .returned (.int .i64 (or3 x y z)) ∧ w' = w := by
  unfold or3
  by_cases hx : x = 0
  · subst hx
    rw [if_pos rfl]
    by_cases hy : y = 0
    · subst hy
      rw [if_pos rfl]
      by_cases hz : z = 0
      · subst hz
        go_enter Tryd.func68, Tryd.ntmps68
        go_wp2
        refine wp_loop_rounds 4 ?_
        rw [rounds_succ]
        go_wp2
        rw [rounds_succ]
        go_wp2
        rw [rounds_succ]
        go_wp2
        rw [rounds_succ]
        go_wp2
        go_ret
        exact ⟨rfl, rfl⟩
      · go_enter Tryd.func68, Tryd.ntmps68
        go_wp2
        refine wp_loop_rounds 3 ?_
        rw [rounds_succ]
        go_wp2
        rw [rounds_succ]
        go_wp2
        rw [rounds_succ]
        go_wp2
        go_ret
        exact ⟨rfl, rfl⟩
    · rw [if_neg hy]
      go_enter Tryd.func68, Tryd.ntmps68
      go_wp2
      refine wp_loop_rounds 2 ?_
      rw [rounds_succ]
      go_wp2
      rw [rounds_succ]
      go_wp2
      go_ret
      exact ⟨rfl, rfl⟩
  · rw [if_neg hx]
    go_enter Tryd.func68, Tryd.ntmps68
    go_wp2
    refine wp_loop_rounds 1 ?_
    rw [rounds_succ]
    go_wp2
    go_ret
    exact ⟨rfl, rfl⟩

/-- The order of what is left. -/
def lx (x y : N3) : Int := or3 (cmpI x.x y.x) (cmpI x.y y.y) (cmpI x.z y.z)
theorem boxes_hhn (w : World) (nm : ByteArray) (pl : Option Addr) (ln cl : Nat) (hs us : N3) (nmo : ByteArray) (plo : Option Addr) (lno clo : Nat) (hso uso d : N3) : (((w.alloc (.cells #[.string nm, .slice pl ln cl, .int .i64 hs.x, .int .i64 hs.y, .int .i64 hs.z, .int .i64 us.x, .int .i64 us.y, .int .i64 us.z] 30)).alloc (.cells #[.string nmo, .slice plo lno clo, .int .i64 hso.x, .int .i64 hso.y, .int .i64 hso.z, .int .i64 uso.x, .int .i64 uso.y, .int .i64 uso.z] 30)).alloc (.cells #[.int .i64 d.x, .int .i64 d.y, .int .i64 d.z] 27)).heap[w.heap.size]? = some (.cells #[.string nm, .slice pl ln cl, .int .i64 hs.x, .int .i64 hs.y, .int .i64 hs.z, .int .i64 us.x, .int .i64 us.y, .int .i64 us.z] 30 (0, 0)) ∧ (((w.alloc (.cells #[.string nm, .slice pl ln cl, .int .i64 hs.x, .int .i64 hs.y, .int .i64 hs.z, .int .i64 us.x, .int .i64 us.y, .int .i64 us.z] 30)).alloc (.cells #[.string nmo, .slice plo lno clo, .int .i64 hso.x, .int .i64 hso.y, .int .i64 hso.z, .int .i64 uso.x, .int .i64 uso.y, .int .i64 uso.z] 30)).alloc (.cells #[.int .i64 d.x, .int .i64 d.y, .int .i64 d.z] 27)).heap[w.heap.size + 1]? = some (.cells #[.string nmo, .slice plo lno clo, .int .i64 hso.x, .int .i64 hso.y, .int .i64 hso.z, .int .i64 uso.x, .int .i64 uso.y, .int .i64 uso.z] 30 (0, 0)) ∧ (((w.alloc (.cells #[.string nm, .slice pl ln cl, .int .i64 hs.x, .int .i64 hs.y, .int .i64 hs.z, .int .i64 us.x, .int .i64 us.y, .int .i64 us.z] 30)).alloc (.cells #[.string nmo, .slice plo lno clo, .int .i64 hso.x, .int .i64 hso.y, .int .i64 hso.z, .int .i64 uso.x, .int .i64 uso.y, .int .i64 uso.z] 30)).alloc (.cells #[.int .i64 d.x, .int .i64 d.y, .int .i64 d.z] 27)).heap[w.heap.size + 2]? = some (.cells #[.int .i64 d.x, .int .i64 d.y, .int .i64 d.z] 27 (0, 0)) ∧ Below w.heap.size w (((w.alloc (.cells #[.string nm, .slice pl ln cl, .int .i64 hs.x, .int .i64 hs.y, .int .i64 hs.z, .int .i64 us.x, .int .i64 us.y, .int .i64 us.z] 30)).alloc (.cells #[.string nmo, .slice plo lno clo, .int .i64 hso.x, .int .i64 hso.y, .int .i64 hso.z, .int .i64 uso.x, .int .i64 uso.y, .int .i64 uso.z] 30)).alloc (.cells #[.int .i64 d.x, .int .i64 d.y, .int .i64 d.z] 27)) := by
  refine ⟨(Below.heap_alloc _ _ _ (by simp; omega)).trans ((Below.heap_alloc _ _ _ (by simp)).trans (heap_alloc_new _ _)), ?_, ?_, (((Below.refl _ _).alloc (Nat.le_refl _) _).alloc (by simp) _).alloc (by simp; omega) _⟩
  · have h := heap_alloc_new (w.alloc (.cells #[.string nm, .slice pl ln cl, .int .i64 hs.x, .int .i64 hs.y, .int .i64 hs.z, .int .i64 us.x, .int .i64 us.y, .int .i64 us.z] 30)) (.cells #[.string nmo, .slice plo lno clo, .int .i64 hso.x, .int .i64 hso.y, .int .i64 hso.z, .int .i64 uso.x, .int .i64 uso.y, .int .i64 uso.z] 30)
    rw [World.size_alloc] at h
    exact (Below.heap_alloc _ _ _ (by simp)).trans h
  · have h := heap_alloc_new ((w.alloc (.cells #[.string nm, .slice pl ln cl, .int .i64 hs.x, .int .i64 hs.y, .int .i64 hs.z, .int .i64 us.x, .int .i64 us.y, .int .i64 us.z] 30)).alloc (.cells #[.string nmo, .slice plo lno clo, .int .i64 hso.x, .int .i64 hso.y, .int .i64 hso.z, .int .i64 uso.x, .int .i64 uso.y, .int .i64 uso.z] 30)) (.cells #[.int .i64 d.x, .int .i64 d.y, .int .i64 d.z] 27)
    rw [World.size_alloc, World.size_alloc] at h
    exact h

set_option maxHeartbeats 4000000 in
set_option maxRecDepth 100000 in
theorem compareLeft_any (nm : ByteArray) (pl : Option Addr) (ln cl : Nat) (hs us : N3) (nmo : ByteArray) (plo : Option Addr) (lno clo : Nat) (hso uso d : N3) (w : World) (E : Int) (hE : lx (lfR hs us d) (lfR hso uso d) = E) :
    Calls Tryd.prog 45 #[.agg #[.string nm, .slice pl ln cl, .int .i64 hs.x, .int .i64 hs.y, .int .i64 hs.z, .int .i64 us.x, .int .i64 us.y, .int .i64 us.z], .agg #[.string nmo, .slice plo lno clo, .int .i64 hso.x, .int .i64 hso.y, .int .i64 hso.z, .int .i64 uso.x, .int .i64 uso.y, .int .i64 uso.z], .agg #[.int .i64 d.x, .int .i64 d.y, .int .i64 d.z]] w fun e w' => e = .returned (.int .i64 E) ∧ Below w.heap.size w w' := by
  obtain ⟨f0, g0, n0, HB0⟩ := boxes_hhn w nm pl ln cl hs us nmo plo lno clo hso uso d
  obtain ⟨X, hX⟩ : ∃ X, lfR hs us d = X := ⟨_, rfl⟩
  obtain ⟨Y, hY⟩ : ∃ Y, lfR hso uso d = Y := ⟨_, rfl⟩
  rw [hX, hY] at hE
  have h1 := fun w1 => left_any nm pl ln cl hs us d w1 X _ hX rfl
  have h2 := fun w1 => left_any nmo plo lno clo hso uso d w1 Y _ hY rfl
  generalize lfE hs us d = E1 at *
  generalize lfE hso uso d = E2 at *
  have hEH : Hid (lx X Y = E) := hE
  clear hX hY hE
  go_enter Tryd.func45, Tryd.ntmps45
  go_wp2_with (first
    | (refine load_wanted rfl 30 _ rfl _ rfl _ _ _ _ (f0) Tryd.underlying30 rfl (host_info _ rfl) ?_)
    | (refine load_wanted rfl 27 _ rfl _ rfl _ _ _ _ (n0) Tryd.underlying27 rfl (need_info _ rfl) ?_)
    | (go_at_call 37; refine (h1 _).mono ?_; rintro e w3 ⟨rfl, hb3⟩; clear h1; have g3 := (Below.heap_alloc w3 (.cells #[.int .i64 X.x, .int .i64 X.y, .int .i64 X.z] 27) _ (Array.getElem?_eq_some_iff.1 ((hb3.block _ (Array.getElem?_eq_some_iff.1 g0).1).trans g0)).1).trans ((hb3.block _ (Array.getElem?_eq_some_iff.1 g0).1).trans g0); have n3 := (Below.heap_alloc w3 (.cells #[.int .i64 X.x, .int .i64 X.y, .int .i64 X.z] 27) _ (Array.getElem?_eq_some_iff.1 ((hb3.block _ (Array.getElem?_eq_some_iff.1 n0).1).trans n0)).1).trans ((hb3.block _ (Array.getElem?_eq_some_iff.1 n0).1).trans n0); have x3 := heap_alloc_new w3 (.cells #[.int .i64 X.x, .int .i64 X.y, .int .i64 X.z] 27); have HB3 : Below w.heap.size w (w3.alloc (.cells #[.int .i64 X.x, .int .i64 X.y, .int .i64 X.z] 27)) := (HB0.trans (hb3.mono HB0.size)).alloc (Nat.le_trans HB0.size hb3.size) _; clear f0 g0 n0 HB0 hb3)
    | (refine load_wanted rfl 30 _ rfl _ rfl _ _ _ _ (g3) Tryd.underlying30 rfl (host_info _ rfl) ?_)
    | (refine load_wanted rfl 27 _ rfl _ rfl _ _ _ _ (n3) Tryd.underlying27 rfl (need_info _ rfl) ?_)
    | (go_at_call 37; refine (h2 _).mono ?_; rintro e w4 ⟨rfl, hb4⟩; clear h2; have x4 := (Below.heap_alloc w4 (.cells #[.int .i64 Y.x, .int .i64 Y.y, .int .i64 Y.z] 27) _ (Array.getElem?_eq_some_iff.1 ((hb4.block _ (Array.getElem?_eq_some_iff.1 x3).1).trans x3)).1).trans ((hb4.block _ (Array.getElem?_eq_some_iff.1 x3).1).trans x3); have y4 := heap_alloc_new w4 (.cells #[.int .i64 Y.x, .int .i64 Y.y, .int .i64 Y.z] 27); have HB4 : Below w.heap.size w (w4.alloc (.cells #[.int .i64 Y.x, .int .i64 Y.y, .int .i64 Y.z] 27)) := (HB3.trans (hb4.mono HB3.size)).alloc (Nat.le_trans HB3.size hb4.size) _; clear g3 n3 x3 HB3 hb4))
  have HBd : Hid (Below w.heap.size w (w4.alloc (.cells #[.int .i64 Y.x, .int .i64 Y.y, .int .i64 Y.z] 27)).drew) := HB4.drew
  have x5 : (w4.alloc (.cells #[.int .i64 Y.x, .int .i64 Y.y, .int .i64 Y.z] 27)).drew.heap[w3.heap.size]? = some (.cells #[.int .i64 X.x, .int .i64 X.y, .int .i64 X.z] 27 (0, 0)) := x4
  have y5 : (w4.alloc (.cells #[.int .i64 Y.x, .int .i64 Y.y, .int .i64 Y.z] 27)).drew.heap[w4.heap.size]? = some (.cells #[.int .i64 Y.x, .int .i64 Y.y, .int .i64 Y.z] 27 (0, 0)) := y4
  clear x4 y4 HB4
  refine Tkc.region_anyC (C := fun w' => Below (w4.alloc (.cells #[.int .i64 Y.x, .int .i64 Y.y, .int .i64 Y.z] 27)).drew.heap.size (w4.alloc (.cells #[.int .i64 Y.x, .int .i64 Y.y, .int .i64 Y.z] 27)).drew w') (s := 18) (by kernel_rfl) ?_
  generalize (w4.alloc (.cells #[.int .i64 Y.x, .int .i64 Y.y, .int .i64 Y.z] 27)).drew = wd at *
  generalize w3.heap.size = gx at *
  generalize w4.heap.size = gy at *
  have hcz : Below wd.heap.size wd wd := Below.refl _ _
  have hcl : ∀ w', Below wd.heap.size wd w' → w'.cell? ⟨gx, 0, none⟩ = some (.int .i64 X.x) ∧ w'.cell? ⟨gx, 1, none⟩ = some (.int .i64 X.y) ∧ w'.cell? ⟨gx, 2, none⟩ = some (.int .i64 X.z) ∧ w'.cell? ⟨gy, 0, none⟩ = some (.int .i64 Y.x) ∧ w'.cell? ⟨gy, 1, none⟩ = some (.int .i64 Y.y) ∧ w'.cell? ⟨gy, 2, none⟩ = some (.int .i64 Y.z) := by
    intro w' hw'
    replace x5 := (hw'.block _ (Array.getElem?_eq_some_iff.1 x5).1).trans x5
    replace y5 := (hw'.block _ (Array.getElem?_eq_some_iff.1 y5).1).trans y5
    exact ⟨(cell_of_row _ _ 0 _ _ _ x5).trans rfl, (cell_of_row _ _ 1 _ _ _ x5).trans rfl, (cell_of_row _ _ 2 _ _ _ x5).trans rfl, (cell_of_row _ _ 0 _ _ _ y5).trans rfl, (cell_of_row _ _ 1 _ _ _ y5).trans rfl, (cell_of_row _ _ 2 _ _ _ y5).trans rfl⟩
  clear x5 y5
  refine Tkc.takeC (i := 0) (v := .pointer (some ⟨gx, 0, none⟩)) rfl (by kernel_rfl) (by kernel_rfl) (by kernel_rfl) (fun _ _ _ h => h) (by decide) (by kernel_rfl) (by kernel_rfl) hcz ⟨by rfl, fun w hw => by obtain ⟨z0, z1, z2, z3, z4, z5⟩ := hcl w hw; go_simp⟩ ?_
  try go_frame
  refine Tkc.takeC (i := 1) (v := .int .i64 X.x) rfl (by kernel_rfl) (by kernel_rfl) (by kernel_rfl) (fun _ _ _ h => h) (by decide) (by kernel_rfl) (by kernel_rfl) hcz ⟨by rfl, fun w hw => by obtain ⟨z0, z1, z2, z3, z4, z5⟩ := hcl w hw; go_simp⟩ ?_
  try go_frame
  refine Tkc.takeC (i := 2) (v := .pointer (some ⟨gy, 0, none⟩)) rfl (by kernel_rfl) (by kernel_rfl) (by kernel_rfl) (fun _ _ _ h => h) (by decide) (by kernel_rfl) (by kernel_rfl) hcz ⟨by rfl, fun w hw => by obtain ⟨z0, z1, z2, z3, z4, z5⟩ := hcl w hw; go_simp⟩ ?_
  try go_frame
  refine Tkc.takeC (i := 3) (v := .int .i64 Y.x) rfl (by kernel_rfl) (by kernel_rfl) (by kernel_rfl) (fun _ _ _ h => h) (by decide) (by kernel_rfl) (by kernel_rfl) hcz ⟨by rfl, fun w hw => by obtain ⟨z0, z1, z2, z3, z4, z5⟩ := hcl w hw; go_simp⟩ ?_
  try go_frame
  refine Tkc.takeC (i := 5) (v := .pointer (some ⟨gx, 1, none⟩)) rfl (by kernel_rfl) (by kernel_rfl) (by kernel_rfl) (fun _ _ _ h => h) (by decide) (by kernel_rfl) (by kernel_rfl) hcz ⟨by rfl, fun w hw => by obtain ⟨z0, z1, z2, z3, z4, z5⟩ := hcl w hw; go_simp⟩ ?_
  try go_frame
  refine Tkc.takeC (i := 6) (v := .int .i64 X.y) rfl (by kernel_rfl) (by kernel_rfl) (by kernel_rfl) (fun _ _ _ h => h) (by decide) (by kernel_rfl) (by kernel_rfl) hcz ⟨by rfl, fun w hw => by obtain ⟨z0, z1, z2, z3, z4, z5⟩ := hcl w hw; go_simp⟩ ?_
  try go_frame
  refine Tkc.takeC (i := 7) (v := .pointer (some ⟨gy, 1, none⟩)) rfl (by kernel_rfl) (by kernel_rfl) (by kernel_rfl) (fun _ _ _ h => h) (by decide) (by kernel_rfl) (by kernel_rfl) hcz ⟨by rfl, fun w hw => by obtain ⟨z0, z1, z2, z3, z4, z5⟩ := hcl w hw; go_simp⟩ ?_
  try go_frame
  refine Tkc.takeC (i := 8) (v := .int .i64 Y.y) rfl (by kernel_rfl) (by kernel_rfl) (by kernel_rfl) (fun _ _ _ h => h) (by decide) (by kernel_rfl) (by kernel_rfl) hcz ⟨by rfl, fun w hw => by obtain ⟨z0, z1, z2, z3, z4, z5⟩ := hcl w hw; go_simp⟩ ?_
  try go_frame
  refine Tkc.takeC (i := 10) (v := .pointer (some ⟨gx, 2, none⟩)) rfl (by kernel_rfl) (by kernel_rfl) (by kernel_rfl) (fun _ _ _ h => h) (by decide) (by kernel_rfl) (by kernel_rfl) hcz ⟨by rfl, fun w hw => by obtain ⟨z0, z1, z2, z3, z4, z5⟩ := hcl w hw; go_simp⟩ ?_
  try go_frame
  refine Tkc.takeC (i := 11) (v := .int .i64 X.z) rfl (by kernel_rfl) (by kernel_rfl) (by kernel_rfl) (fun _ _ _ h => h) (by decide) (by kernel_rfl) (by kernel_rfl) hcz ⟨by rfl, fun w hw => by obtain ⟨z0, z1, z2, z3, z4, z5⟩ := hcl w hw; go_simp⟩ ?_
  try go_frame
  refine Tkc.takeC (i := 12) (v := .pointer (some ⟨gy, 2, none⟩)) rfl (by kernel_rfl) (by kernel_rfl) (by kernel_rfl) (fun _ _ _ h => h) (by decide) (by kernel_rfl) (by kernel_rfl) hcz ⟨by rfl, fun w hw => by obtain ⟨z0, z1, z2, z3, z4, z5⟩ := hcl w hw; go_simp⟩ ?_
  try go_frame
  refine Tkc.takeC (i := 13) (v := .int .i64 Y.z) rfl (by kernel_rfl) (by kernel_rfl) (by kernel_rfl) (fun _ _ _ h => h) (by decide) (by kernel_rfl) (by kernel_rfl) hcz ⟨by rfl, fun w hw => by obtain ⟨z0, z1, z2, z3, z4, z5⟩ := hcl w hw; go_simp⟩ ?_
  try go_frame
  clear hcl
  refine Tkc.onlyC (i := 4) rfl (by kernel_rfl) (fun _ => hcz) (by rfl) (fun K hK => ?_)
  go_simp
  refine (compare64_any X.x Y.x wd).mono ?_
  rintro e w9 ⟨rfl, hw9⟩
  have hw8 := hw9.symm
  subst hw8
  clear hw9
  refine hK _ _ ?_
  clear hK K
  try go_frame
  refine Tkc.onlyC (i := 9) rfl (by kernel_rfl) (fun _ => hcz) (by rfl) (fun K hK => ?_)
  go_simp
  refine (compare64_any X.y Y.y wd).mono ?_
  rintro e w9 ⟨rfl, hw9⟩
  have hw8 := hw9.symm
  subst hw8
  clear hw9
  refine hK _ _ ?_
  clear hK K
  try go_frame
  refine Tkc.onlyC (i := 14) rfl (by kernel_rfl) (fun _ => hcz) (by rfl) (fun K hK => ?_)
  go_simp
  refine (compare64_any X.z Y.z wd).mono ?_
  rintro e w9 ⟨rfl, hw9⟩
  have hw8 := hw9.symm
  subst hw8
  clear hw9
  refine hK _ _ ?_
  clear hK K
  try go_frame
  refine Tkc.onlyC (i := 15) rfl (by kernel_rfl) (fun _ => hcz) (by rfl) (fun K hK => ?_)
  go_simp
  have hBA : Below w.heap.size w (wd.alloc (.cells #[.int .i64 (cmpI X.x Y.x), .int .i64 (cmpI X.y Y.y), .int .i64 (cmpI X.z Y.z)] 3)) := HBd.out.alloc HBd.out.size _
  have hor := or3_any wd.heap.size (cmpI X.x Y.x) (cmpI X.y Y.y) (cmpI X.z Y.z) (wd.alloc (.cells #[.int .i64 (cmpI X.x Y.x), .int .i64 (cmpI X.y Y.y), .int .i64 (cmpI X.z Y.z)] 3)) ((cell_of_row _ _ 0 _ _ _ (heap_alloc_new _ _)).trans rfl) ((cell_of_row _ _ 1 _ _ _ (heap_alloc_new _ _)).trans rfl) ((cell_of_row _ _ 2 _ _ _ (heap_alloc_new _ _)).trans rfl)
  rw [show or3 (cmpI X.x Y.x) (cmpI X.y Y.y) (cmpI X.z Y.z) = E from hEH.out] at hor
  have hBAH : Hid (Below w.heap.size w (wd.alloc (.cells #[.int .i64 (cmpI X.x Y.x), .int .i64 (cmpI X.y Y.y), .int .i64 (cmpI X.z Y.z)] 3))) := hBA
  have hcA : Below wd.heap.size wd (wd.alloc (.cells #[.int .i64 (cmpI X.x Y.x), .int .i64 (cmpI X.y Y.y), .int .i64 (cmpI X.z Y.z)] 3)) := (Below.refl _ _).alloc (Nat.le_refl _) _
  clear hBA
  generalize wd.alloc (.cells #[.int .i64 (cmpI X.x Y.x), .int .i64 (cmpI X.y Y.y), .int .i64 (cmpI X.z Y.z)] 3) = we at *
  refine hK _ _ ?_
  clear hK K
  try go_frame
  refine Tkc.onlyC (i := 16) rfl (by kernel_rfl) (fun _ => hcA) (by rfl) (fun K hK => ?_)
  go_simp
  refine hor.mono ?_
  rintro e w6 ⟨rfl, hw6⟩
  have hw7 := hw6.symm
  subst hw7
  refine hK _ _ ?_
  clear hK K
  try go_frame
  refine Tkc.onlyC (i := 17) rfl (by kernel_rfl) (fun _ => hcA) (by rfl) (fun K hK => ?_)
  go_simp
  refine hK _ _ ?_
  clear hK K
  try go_frame
  refine Tkc.doneC (by kernel_rfl) (fun _ => hcA) ?_
  go_wp2
  go_ret
  exact ⟨rfl, hBAH.out⟩
end Go.Proofs.YtelepamnlpebgabDoor
