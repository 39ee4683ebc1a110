/- host.checkOne, Take: walked. -/
import Derived.Test.YtelepamnlpebgabDoorHwu
import Derived.Test.YtelepamnlpebgabDoorTko
namespace Go.Proofs.YtelepamnlpebgabDoor
open Go.RowKit Go.Shelf Go.Deep Akm Ndm
set_option linter.unusedSectionVars false
set_option linter.unusedVariables false

/-- What checkOne answers. -/
def coE (l : List Ht) (i : Int) : Int := if hcE l ≠ 0 then hcE l else if i < 0 ∨ (l.length : Int) ≤ i then 5 else 0
set_option maxHeartbeats 2000000 in
set_option maxRecDepth 100000 in
theorem checkOne_any (l : List Ht) (q : Option Addr) (nl c : Nat) (hnl : l.length = nl) (hnc : nl ≤ c) (i : Int) (w : World) (hX : TabX w) (hl : Hsts w q l) (E : Int) (hE : coE l i = E) : Calls Tryd.prog 36 #[.slice q nl c, .int .i64 i] w fun e w' => e = .returned (.int .i64 E) ∧ Below w.heap.size w w' := by
  obtain ⟨C, hC⟩ : ∃ C, hcE l = C := ⟨_, rfl⟩
  have hck := hCheck_any q l nl c hnl hnc w hX hl C hC
  unfold coE at hE
  rw [hC, hnl] at hE
  clear hX hl hnl hnc hC
  by_cases h0 : C = 0
  · subst h0
    rw [if_neg (by decide)] at hE
    by_cases h1 : i < 0
    · rw [if_pos (Or.inl h1)] at hE
      subst hE
      go_enter Tryd.func36, Tryd.ntmps36
      go_wp2_with (first
        | (go_at_call 15; refine hck.mono ?_; rintro e w3 ⟨rfl, hb3⟩; clear hck)
        | go_in)
      go_ret
      exact ⟨rfl, hb3⟩
    · by_cases h2 : (nl : Int) ≤ i
      · rw [if_pos (Or.inr h2)] at hE
        subst hE
        go_enter Tryd.func36, Tryd.ntmps36
        go_wp2_with (first
          | (go_at_call 15; refine hck.mono ?_; rintro e w3 ⟨rfl, hb3⟩; clear hck)
          | go_in)
        go_ret
        exact ⟨rfl, hb3⟩
      · rw [if_neg (by omega)] at hE
        subst hE
        go_enter Tryd.func36, Tryd.ntmps36
        go_wp2_with (first
          | (go_at_call 15; refine hck.mono ?_; rintro e w3 ⟨rfl, hb3⟩; clear hck)
          | go_in)
        go_ret
        exact ⟨rfl, hb3⟩
  · rw [if_pos h0] at hE
    subst hE
    have hne : (C != 0) = true := by simpa using h0
    clear h0
    go_enter Tryd.func36, Tryd.ntmps36
    go_wp2_with (first
      | (go_at_call 15; refine hck.mono ?_; rintro e w3 ⟨rfl, hb3⟩; clear hck)
      | go_in)
    go_ret
    exact ⟨rfl, hb3⟩

/-- Where checkOne has an error. -/
theorem Take_bad1 (l : List Ht) (q : Option Addr) (nl c : Nat) (hnl : l.length = nl) (hnc : nl ≤ c) (i : Int) (d : N3) (w : World) (hX : TabX w) (hl : Hsts w q l) (E : Int) (hE : coE l i = E) (h0 : E ≠ 0) : Calls Tryd.prog 11 #[.slice q nl c, .int .i64 i, .agg #[.int .i64 d.x, .int .i64 d.y, .int .i64 d.z]] w fun e w' => e = .returned (.tuple #[.slice none 0 0, .int .i64 E]) ∧ Below w.heap.size w w' := by
  have hB : Below w.heap.size w (w.alloc (.cells #[.int .i64 d.x, .int .i64 d.y, .int .i64 d.z] 27)) := (Below.refl _ _).alloc (Nat.le_refl _) _
  have hco := checkOne_any l q nl c hnl hnc i _ (hX.below hB (Nat.le_refl _)) (hl.below hB) E hE
  have hne : (E != 0) = true := by simpa using h0
  have hBH : Hid (Below w.heap.size w (w.alloc (.cells #[.int .i64 d.x, .int .i64 d.y, .int .i64 d.z] 27))) := hB
  clear hX hl hnl hnc hE h0 hB
  go_enter Tryd.func11, Tryd.ntmps11
  go_wp2_with (first
    | (go_at_call 36; refine hco.mono ?_; rintro e w3 ⟨rfl, hb3⟩; clear hco)
    | go_in)
  go_ret2
  exact ⟨rfl, hBH.out.trans (hb3.mono hBH.out.size)⟩

set_option maxHeartbeats 8000000 in
set_option maxRecDepth 100000 in
theorem Take_run (l : List Ht) (q : Option Addr) (nl c : Nat) (hnl : l.length = nl) (hnc : nl ≤ c) (i : Nat) (x : Ht) (hx : l[i]? = some x) (d : N3) (w : World) (hX : TabX w) (hl : Hsts w q l) (h0 : hcE l = 0) (E : Int) (hE : lfE x.hs x.us d = E) :
    Calls Tryd.prog 11 #[.slice q nl c, .int .i64 (i : Int), .agg #[.int .i64 d.x, .int .i64 d.y, .int .i64 d.z]] w fun e w' => ((E ≠ 0 ∧ e = .returned (.tuple #[.slice none 0 0, .int .i64 E])) ∨ (E = 0 ∧ ∃ g, e = .returned (.tuple #[.slice (some ⟨g, 0, none⟩) nl nl, .int .i64 0]) ∧ Hsts w' (some ⟨g, 0, none⟩) (updU l i (aR x.us d)))) ∧ Below w.heap.size w w' := by
  have hin : i < nl := by rw [← hnl]; exact (List.getElem?_eq_some_iff.1 hx).1
  have hn30 := hc_len h0
  have hB : Below w.heap.size w (w.alloc (.cells #[.int .i64 d.x, .int .i64 d.y, .int .i64 d.z] 27)) := (Below.refl _ _).alloc (Nat.le_refl _) _
  have hco0 : coE l (i : Int) = 0 := by unfold coE; rw [if_neg (by simpa using h0), if_neg (by omega)]
  have hco := checkOne_any l q nl c hnl hnc (i : Int) _ (hX.below hB (Nat.le_refl _)) (hl.below hB) 0 hco0
  have hwu := fun (u : N3) (w1 : World) (h : Below w.heap.size w w1) => withUsed_any l q nl c hnl h0 i hin u w1 (hl.below h)
  obtain ⟨g, o, pl, cl, rfl, hg, hx8, _, _⟩ := host_at hl hx
  obtain ⟨nm, L, hs, us⟩ := x
  obtain ⟨ln, hln⟩ : ∃ m, L.length = m := ⟨_, rfl⟩
  simp only at hE
  obtain ⟨R, hR⟩ : ∃ R, lfR hs us d = R := ⟨_, rfl⟩
  have hle := fun w1 => left_any nm pl ln cl hs us d w1 R E hR hE
  have had := fun w1 => Add_any us d w1
  have hwu2 := hwu (aR us d)
  show Calls _ _ _ _ fun e w' => (_ ∨ (E = 0 ∧ ∃ g, _ ∧ Hsts w' (some ⟨g, 0, none⟩) (updU l i (aR us d)))) ∧ _
  generalize aR us d = U at *
  generalize aE us d = EA at *
  have hcellH : Hid (∀ w1, Below w.heap.size w w1 → (w1.cell? ⟨g, o + i * 8, none⟩ = some (.string nm) ∧ w1.cell? ⟨g, o + i * 8 + 1, none⟩ = some (.slice pl ln cl)) ∧ (w1.cell? ⟨g, o + i * 8 + 2, none⟩ = some (.int .i64 hs.x) ∧ w1.cell? ⟨g, o + i * 8 + 3, none⟩ = some (.int .i64 hs.y) ∧ w1.cell? ⟨g, o + i * 8 + 4, none⟩ = some (.int .i64 hs.z)) ∧ (w1.cell? ⟨g, o + i * 8 + 5, none⟩ = some (.int .i64 us.x) ∧ w1.cell? ⟨g, o + i * 8 + 6, none⟩ = some (.int .i64 us.y) ∧ w1.cell? ⟨g, o + i * 8 + 7, none⟩ = some (.int .i64 us.z))) := fun w1 h => by
    have := hx8.below h hg
    unfold cell8 at this
    simp only [hln] at this
    exact this
  have d0 := heap_alloc_new w (.cells #[.int .i64 d.x, .int .i64 d.y, .int .i64 d.z] 27)
  have hBH : Hid (Below w.heap.size w (w.alloc (.cells #[.int .i64 d.x, .int .i64 d.y, .int .i64 d.z] 27))) := hB
  have hii : (i : Int) < (nl : Int) := by omega
  have hi0 : ¬ (i : Int) < 0 := by omega
  have hn30i : (nl : Int) ≤ 30 := by omega
  clear hX hl hnl hnc hB hco0 hwu hx hx8 hln hR hE hg h0 hin hn30
  go_enter Tryd.func11, Tryd.ntmps11
  go_wp2_with (first
    | (go_at_call 36; refine hco.mono ?_; rintro e w3 ⟨rfl, hb3⟩; clear hco; have HB3 : Below w.heap.size w w3 := hBH.out.trans (hb3.mono hBH.out.size); have d3 := (hb3.block _ (Array.getElem?_eq_some_iff.1 d0).1).trans d0; clear d0 hb3))
  have HBd : Below w.heap.size w w3.drew := HB3.drew
  have dd : w3.drew.heap[w.heap.size]? = some (.cells #[.int .i64 d.x, .int .i64 d.y, .int .i64 d.z] 27 (0, 0)) := d3
  clear HB3 d3
  refine Tkc.region_anyC (C := fun w' => Below w3.drew.heap.size w3.drew w') (s := 12) (by kernel_rfl) ?_
  generalize w3.drew = wd at *
  have hcz : Below wd.heap.size wd wd := Below.refl _ _
  have HBdH : Hid (Below w.heap.size w wd) := HBd
  have ddH : Hid (wd.heap[w.heap.size]? = some (.cells #[.int .i64 d.x, .int .i64 d.y, .int .i64 d.z] 27 (0, 0))) := dd
  have hcl : ∀ w' : World, Below wd.heap.size wd w' → ((w'.cell? ⟨g, o + i * 8, none⟩ = some (.string nm) ∧ w'.cell? ⟨g, o + i * 8 + 1, none⟩ = some (.slice pl ln cl)) ∧ (w'.cell? ⟨g, o + i * 8 + 2, none⟩ = some (.int .i64 hs.x) ∧ w'.cell? ⟨g, o + i * 8 + 3, none⟩ = some (.int .i64 hs.y) ∧ w'.cell? ⟨g, o + i * 8 + 4, none⟩ = some (.int .i64 hs.z)) ∧ (w'.cell? ⟨g, o + i * 8 + 5, none⟩ = some (.int .i64 us.x) ∧ w'.cell? ⟨g, o + i * 8 + 6, none⟩ = some (.int .i64 us.y) ∧ w'.cell? ⟨g, o + i * 8 + 7, none⟩ = some (.int .i64 us.z))) ∧ (w'.cell? ⟨w.heap.size, 0, none⟩ = some (.int .i64 d.x) ∧ w'.cell? ⟨w.heap.size, 1, none⟩ = some (.int .i64 d.y) ∧ w'.cell? ⟨w.heap.size, 2, none⟩ = some (.int .i64 d.z)) := fun w' h => by
    have hh := (h.block _ (Array.getElem?_eq_some_iff.1 dd).1).trans dd
    exact ⟨hcellH.out w' (HBd.trans (h.mono HBd.size)), (cell_of_row _ _ 0 _ _ _ hh).trans rfl, (cell_of_row _ _ 1 _ _ _ hh).trans rfl, (cell_of_row _ _ 2 _ _ _ hh).trans rfl⟩
  clear HBd dd
  refine Tkc.takeC (i := 0) (v := .slice (some ⟨g, o, none⟩) nl c) rfl (by kernel_rfl) (by kernel_rfl) (by kernel_rfl) (fun _ _ _ h => h) (by decide) (by kernel_rfl) (by kernel_rfl) hcz ⟨by rfl, fun wq hw => by obtain ⟨⟨⟨z0, z1⟩, ⟨z2, z3, z4⟩, ⟨z5, z6, z7⟩⟩, ⟨y0, y1, y2⟩⟩ := hcl wq hw; go_simp⟩ ?_
  try go_frame
  refine Tkc.takeC (i := 1) (v := .int .i64 (i : Int)) rfl (by kernel_rfl) (by kernel_rfl) (by kernel_rfl) (fun _ _ _ h => h) (by decide) (by kernel_rfl) (by kernel_rfl) hcz ⟨by rfl, fun wq hw => by obtain ⟨⟨⟨z0, z1⟩, ⟨z2, z3, z4⟩, ⟨z5, z6, z7⟩⟩, ⟨y0, y1, y2⟩⟩ := hcl wq hw; go_simp⟩ ?_
  try go_frame
  refine Tkc.takeC (i := 2) (v := .pointer (some ⟨g, o + i * 8, none⟩)) rfl (by kernel_rfl) (by kernel_rfl) (by kernel_rfl) (fun _ _ _ h => h) (by decide) (by kernel_rfl) (by kernel_rfl) hcz ⟨by rfl, fun wq hw => by obtain ⟨⟨⟨z0, z1⟩, ⟨z2, z3, z4⟩, ⟨z5, z6, z7⟩⟩, ⟨y0, y1, y2⟩⟩ := hcl wq hw; go_simp⟩ ?_
  try go_frame
  refine Tkc.takeC (i := 3) (v := .agg #[.string nm, .slice pl ln cl, .int .i64 hs.x, .int .i64 hs.y, .int .i64 hs.z, .int .i64 us.x, .int .i64 us.y, .int .i64 us.z]) rfl (by kernel_rfl) (by kernel_rfl) (by kernel_rfl) (fun _ _ _ h => h) (by decide) (by kernel_rfl) (by kernel_rfl) hcz ⟨by rfl, fun wq hw => by obtain ⟨⟨⟨z0, z1⟩, ⟨z2, z3, z4⟩, ⟨z5, z6, z7⟩⟩, ⟨y0, y1, y2⟩⟩ := hcl wq hw; go_simp⟩ ?_
  try go_frame
  refine Tkc.takeC (i := 4) (v := .agg #[.int .i64 d.x, .int .i64 d.y, .int .i64 d.z]) rfl (by kernel_rfl) (by kernel_rfl) (by kernel_rfl) (fun _ _ _ h => h) (by decide) (by kernel_rfl) (by kernel_rfl) hcz ⟨by rfl, fun wq hw => by obtain ⟨⟨⟨z0, z1⟩, ⟨z2, z3, z4⟩, ⟨z5, z6, z7⟩⟩, ⟨y0, y1, y2⟩⟩ := hcl wq hw; go_simp⟩ ?_
  try go_frame
  clear hcl
  refine Tkc.manyC [5, 9] (by kernel_rfl) (by decide) (fun _ => hcz) ?_
  intro ix hix
  rcases (show ix = 5 ∨ ix = 9 by simpa using hix) with rfl | rfl
  · clear hix
    refine Tkc.opC (i := 5) rfl (by rfl) (fun K hK => ?_)
    go_simp
    refine (hle wd).mono ?_
    rintro e wA ⟨rfl, hb⟩
    have hzwA : Below wd.heap.size wd wA := hcz.trans (hb.mono hcz.size)
    clear hb hle
    refine hK _ _ ?_
    clear hK K
    try go_frame
    refine Tkc.takeC (i := 6) (v := .tuple #[.agg #[.int .i64 R.x, .int .i64 R.y, .int .i64 R.z], .int .i64 E]) rfl (by kernel_rfl) (by kernel_rfl) (by kernel_rfl) (fun _ _ _ h => h) (by decide) (by kernel_rfl) (by kernel_rfl) hzwA ⟨by rfl, fun wq hw => by go_simp⟩ ?_
    try go_frame
    refine Tkc.takeC (i := 7) (v := .agg #[.int .i64 R.x, .int .i64 R.y, .int .i64 R.z]) rfl (by kernel_rfl) (by kernel_rfl) (by kernel_rfl) (fun _ _ _ h => h) (by decide) (by kernel_rfl) (by kernel_rfl) hzwA ⟨by rfl, fun wq hw => by go_simp⟩ ?_
    try go_frame
    refine Tkc.takeC (i := 8) (v := .int .i64 E) rfl (by kernel_rfl) (by kernel_rfl) (by kernel_rfl) (fun _ _ _ h => h) (by decide) (by kernel_rfl) (by kernel_rfl) hzwA ⟨by rfl, fun wq hw => by go_simp⟩ ?_
    try go_frame
    refine Tkc.onlyC (i := 9) rfl (by kernel_rfl) (fun _ => hzwA) (by rfl) (fun K hK => ?_)
    go_simp
    have tA := heap_alloc_new wA (.cells #[.int .i64 0, .int .i64 0, .int .i64 0] 27)
    have hgt : wd.heap.size ≤ wA.heap.size := hzwA.size
    have hzB : Below wd.heap.size wd (wA.alloc (.cells #[.int .i64 0, .int .i64 0, .int .i64 0] 27)) := hzwA.alloc hgt _
    generalize wA.alloc (.cells #[.int .i64 0, .int .i64 0, .int .i64 0] 27) = wB at *
    generalize wA.heap.size = gt at tA hgt ⊢
    refine hK _ _ ?_
    clear hK K
    try go_frame
    refine Tkc.onlyC (i := 10) rfl (by kernel_rfl) (fun _ => hzB) (by rfl) (fun K hK => ?_)
    refine wp_store_row 27 _ _ rfl gt #[.int .i64 R.x, .int .i64 R.y, .int .i64 R.z] rfl rfl _ _ tA (need_info _ rfl) rfl (need_one _ _ _) ?_
    have tF := setRow_heap wB gt _ #[.int .i64 R.x, .int .i64 R.y, .int .i64 R.z] _ _ tA
    have hzF : Below wd.heap.size wd (wB.setRow gt #[.int .i64 R.x, .int .i64 R.y, .int .i64 R.z]) := below_row hzB hgt
    generalize wB.setRow gt #[.int .i64 R.x, .int .i64 R.y, .int .i64 R.z] = wF at *
    refine hK _ _ ?_
    clear hK K
    try go_frame
    refine Tkc.onlyC (i := 11) rfl (by kernel_rfl) (fun _ => hzF) (by rfl) (fun K hK => ?_)
    go_simp
    refine hK _ _ ?_
    clear hK K
    try go_frame
    refine Tkc.doneC (by kernel_rfl) (fun _ => hzF) ?_
    have HBF : Below w.heap.size w wF := HBdH.out.trans (hzF.mono HBdH.out.size)
    by_cases hE0 : E = 0
    · subst hE0
      have HBeH : Hid (Below w.heap.size w wF.drew) := HBF.drew
      have deH : Hid (wF.drew.heap[w.heap.size]? = some (.cells #[.int .i64 d.x, .int .i64 d.y, .int .i64 d.z] 27 (0, 0))) := (hzF.block w.heap.size (Array.getElem?_eq_some_iff.1 ddH.out).1).trans ddH.out
      clear HBF hzF tF
      go_wp2
      refine Tkc.region_anyC (C := fun w' => Below wF.drew.heap.size wF.drew w') (s := 13) (by kernel_rfl) ?_
      generalize wF.drew = we at *
      have hdz : Below we.heap.size we we := Below.refl _ _
      have hdl : ∀ w' : World, Below we.heap.size we w' → ((w'.cell? ⟨g, o + i * 8, none⟩ = some (.string nm) ∧ w'.cell? ⟨g, o + i * 8 + 1, none⟩ = some (.slice pl ln cl)) ∧ (w'.cell? ⟨g, o + i * 8 + 2, none⟩ = some (.int .i64 hs.x) ∧ w'.cell? ⟨g, o + i * 8 + 3, none⟩ = some (.int .i64 hs.y) ∧ w'.cell? ⟨g, o + i * 8 + 4, none⟩ = some (.int .i64 hs.z)) ∧ (w'.cell? ⟨g, o + i * 8 + 5, none⟩ = some (.int .i64 us.x) ∧ w'.cell? ⟨g, o + i * 8 + 6, none⟩ = some (.int .i64 us.y) ∧ w'.cell? ⟨g, o + i * 8 + 7, none⟩ = some (.int .i64 us.z))) ∧ (w'.cell? ⟨w.heap.size, 0, none⟩ = some (.int .i64 d.x) ∧ w'.cell? ⟨w.heap.size, 1, none⟩ = some (.int .i64 d.y) ∧ w'.cell? ⟨w.heap.size, 2, none⟩ = some (.int .i64 d.z)) := fun w' h => by
        have hh := (h.block _ (Array.getElem?_eq_some_iff.1 deH.out).1).trans deH.out
        exact ⟨hcellH.out w' (HBeH.out.trans (h.mono HBeH.out.size)), (cell_of_row _ _ 0 _ _ _ hh).trans rfl, (cell_of_row _ _ 1 _ _ _ hh).trans rfl, (cell_of_row _ _ 2 _ _ _ hh).trans rfl⟩
      refine Tkc.takeC (i := 0) (v := .slice (some ⟨g, o, none⟩) nl c) rfl (by kernel_rfl) (by kernel_rfl) (by kernel_rfl) (fun _ _ _ h => h) (by decide) (by kernel_rfl) (by kernel_rfl) hdz ⟨by rfl, fun wq hw => by obtain ⟨⟨⟨z0, z1⟩, ⟨z2, z3, z4⟩, ⟨z5, z6, z7⟩⟩, ⟨y0, y1, y2⟩⟩ := hdl wq hw; go_simp⟩ ?_
      try go_frame
      refine Tkc.takeC (i := 1) (v := .int .i64 (i : Int)) rfl (by kernel_rfl) (by kernel_rfl) (by kernel_rfl) (fun _ _ _ h => h) (by decide) (by kernel_rfl) (by kernel_rfl) hdz ⟨by rfl, fun wq hw => by obtain ⟨⟨⟨z0, z1⟩, ⟨z2, z3, z4⟩, ⟨z5, z6, z7⟩⟩, ⟨y0, y1, y2⟩⟩ := hdl wq hw; go_simp⟩ ?_
      try go_frame
      refine Tkc.takeC (i := 2) (v := .pointer (some ⟨g, o + i * 8, none⟩)) rfl (by kernel_rfl) (by kernel_rfl) (by kernel_rfl) (fun _ _ _ h => h) (by decide) (by kernel_rfl) (by kernel_rfl) hdz ⟨by rfl, fun wq hw => by obtain ⟨⟨⟨z0, z1⟩, ⟨z2, z3, z4⟩, ⟨z5, z6, z7⟩⟩, ⟨y0, y1, y2⟩⟩ := hdl wq hw; go_simp⟩ ?_
      try go_frame
      refine Tkc.takeC (i := 3) (v := .pointer (some ⟨g, o + i * 8 + 5, none⟩)) rfl (by kernel_rfl) (by kernel_rfl) (by kernel_rfl) (fun _ _ _ h => h) (by decide) (by kernel_rfl) (by kernel_rfl) hdz ⟨by rfl, fun wq hw => by obtain ⟨⟨⟨z0, z1⟩, ⟨z2, z3, z4⟩, ⟨z5, z6, z7⟩⟩, ⟨y0, y1, y2⟩⟩ := hdl wq hw; go_simp⟩ ?_
      try go_frame
      refine Tkc.takeC (i := 4) (v := .agg #[.int .i64 us.x, .int .i64 us.y, .int .i64 us.z]) rfl (by kernel_rfl) (by kernel_rfl) (by kernel_rfl) (fun _ _ _ h => h) (by decide) (by kernel_rfl) (by kernel_rfl) hdz ⟨by rfl, fun wq hw => by obtain ⟨⟨⟨z0, z1⟩, ⟨z2, z3, z4⟩, ⟨z5, z6, z7⟩⟩, ⟨y0, y1, y2⟩⟩ := hdl wq hw; go_simp⟩ ?_
      try go_frame
      refine Tkc.takeC (i := 5) (v := .agg #[.int .i64 d.x, .int .i64 d.y, .int .i64 d.z]) rfl (by kernel_rfl) (by kernel_rfl) (by kernel_rfl) (fun _ _ _ h => h) (by decide) (by kernel_rfl) (by kernel_rfl) hdz ⟨by rfl, fun wq hw => by obtain ⟨⟨⟨z0, z1⟩, ⟨z2, z3, z4⟩, ⟨z5, z6, z7⟩⟩, ⟨y0, y1, y2⟩⟩ := hdl wq hw; go_simp⟩ ?_
      try go_frame
      clear hdl
      refine Tkc.manyC [6, 10] (by kernel_rfl) (by decide) (fun _ => hdz) ?_
      intro ix hix
      rcases (show ix = 6 ∨ ix = 10 by simpa using hix) with rfl | rfl
      · clear hix
        refine Tkc.opC (i := 6) rfl (by rfl) (fun K hK => ?_)
        go_simp
        refine (had we).mono ?_
        rintro e xA ⟨rfl, hb⟩
        have hzxA : Below we.heap.size we xA := hdz.trans (hb.mono hdz.size)
        clear hb had
        refine hK _ _ ?_
        clear hK K
        try go_frame
        refine Tkc.takeC (i := 7) (v := .tuple #[.agg #[.int .i64 U.x, .int .i64 U.y, .int .i64 U.z], .int .i64 EA]) rfl (by kernel_rfl) (by kernel_rfl) (by kernel_rfl) (fun _ _ _ h => h) (by decide) (by kernel_rfl) (by kernel_rfl) hzxA ⟨by rfl, fun wq hw => by go_simp⟩ ?_
        try go_frame
        refine Tkc.takeC (i := 8) (v := .agg #[.int .i64 U.x, .int .i64 U.y, .int .i64 U.z]) rfl (by kernel_rfl) (by kernel_rfl) (by kernel_rfl) (fun _ _ _ h => h) (by decide) (by kernel_rfl) (by kernel_rfl) hzxA ⟨by rfl, fun wq hw => by go_simp⟩ ?_
        try go_frame
        refine Tkc.takeC (i := 9) (v := .int .i64 EA) rfl (by kernel_rfl) (by kernel_rfl) (by kernel_rfl) (fun _ _ _ h => h) (by decide) (by kernel_rfl) (by kernel_rfl) hzxA ⟨by rfl, fun wq hw => by go_simp⟩ ?_
        try go_frame
        refine Tkc.onlyC (i := 10) rfl (by kernel_rfl) (fun _ => hzxA) (by rfl) (fun K hK => ?_)
        go_simp
        have sA := heap_alloc_new xA (.cells #[.int .i64 0, .int .i64 0, .int .i64 0] 27)
        have hgs : we.heap.size ≤ xA.heap.size := hzxA.size
        have kzB : Below we.heap.size we (xA.alloc (.cells #[.int .i64 0, .int .i64 0, .int .i64 0] 27)) := hzxA.alloc hgs _
        generalize xA.alloc (.cells #[.int .i64 0, .int .i64 0, .int .i64 0] 27) = xB at *
        generalize xA.heap.size = gs at sA hgs ⊢
        refine hK _ _ ?_
        clear hK K
        try go_frame
        refine Tkc.onlyC (i := 11) rfl (by kernel_rfl) (fun _ => kzB) (by rfl) (fun K hK => ?_)
        refine wp_store_row 27 _ _ rfl gs #[.int .i64 U.x, .int .i64 U.y, .int .i64 U.z] rfl rfl _ _ sA (need_info _ rfl) rfl (need_one _ _ _) ?_
        have sF := setRow_heap xB gs _ #[.int .i64 U.x, .int .i64 U.y, .int .i64 U.z] _ _ sA
        have kzF : Below we.heap.size we (xB.setRow gs #[.int .i64 U.x, .int .i64 U.y, .int .i64 U.z]) := below_row kzB hgs
        generalize xB.setRow gs #[.int .i64 U.x, .int .i64 U.y, .int .i64 U.z] = xF at *
        refine hK _ _ ?_
        clear hK K
        try go_frame
        refine Tkc.onlyC (i := 12) rfl (by kernel_rfl) (fun _ => kzF) (by rfl) (fun K hK => ?_)
        go_simp
        refine hK _ _ ?_
        clear hK K
        try go_frame
        refine Tkc.doneC (by kernel_rfl) (fun _ => kzF) ?_
        have HBx : Below w.heap.size w xF := HBeH.out.trans (kzF.mono HBeH.out.size)
        have tFn := sF
        have hwx := hwu2 xF HBx
        have HBxH : Hid (Below w.heap.size w xF) := HBx
        clear HBx sF kzF
        go_wp2_with (first
          | (refine load_wanted rfl 27 _ rfl _ rfl _ _ _ _ (tFn) Tryd.underlying27 rfl (need_info _ rfl) ?_)
          | (go_at_call 38; refine hwx.mono ?_; rintro e wz ⟨⟨gz, rfl, hz⟩, hbz⟩; clear hwx)
          | go_in)
        go_ret2
        first | exact ⟨⟨gz, rfl, hz⟩, HBxH.out.trans (hbz.mono HBxH.out.size)⟩ | exact ⟨Or.inr ⟨rfl, gz, rfl, hz⟩, HBxH.out.trans (hbz.mono HBxH.out.size)⟩
      · clear hix
        refine Tkc.opC (i := 10) rfl (by rfl) (fun K hK => ?_)
        go_simp
        have sA0 := heap_alloc_new we (.cells #[.int .i64 0, .int .i64 0, .int .i64 0] 27)
        have hgs : we.heap.size ≤ we.heap.size := Nat.le_refl _
        have kzA : Below we.heap.size we (we.alloc (.cells #[.int .i64 0, .int .i64 0, .int .i64 0] 27)) := hdz.alloc hgs _
        have hsA : (we.alloc (.cells #[.int .i64 0, .int .i64 0, .int .i64 0] 27)).heap.size = we.heap.size + 1 := by simp
        generalize we.alloc (.cells #[.int .i64 0, .int .i64 0, .int .i64 0] 27) = xA at *
        refine hK _ _ ?_
        clear hK K
        try go_frame
        refine Tkc.onlyC (i := 6) rfl (by kernel_rfl) (fun _ => kzA) (by rfl) (fun K hK => ?_)
        go_simp
        refine (had xA).mono ?_
        rintro e xB ⟨rfl, hb⟩
        have hzxB : Below we.heap.size we xB := kzA.trans (hb.mono kzA.size)
        have sA := (hb.block we.heap.size (by omega)).trans sA0
        clear hb had sA0 hgs
        generalize hgse : we.heap.size = gs at sA ⊢
        have hgs : we.heap.size ≤ gs := Nat.le_of_eq hgse
        clear hgse
        refine hK _ _ ?_
        clear hK K
        try go_frame
        refine Tkc.takeC (i := 7) (v := .tuple #[.agg #[.int .i64 U.x, .int .i64 U.y, .int .i64 U.z], .int .i64 EA]) rfl (by kernel_rfl) (by kernel_rfl) (by kernel_rfl) (fun _ _ _ h => h) (by decide) (by kernel_rfl) (by kernel_rfl) hzxB ⟨by rfl, fun wq hw => by go_simp⟩ ?_
        try go_frame
        refine Tkc.takeC (i := 8) (v := .agg #[.int .i64 U.x, .int .i64 U.y, .int .i64 U.z]) rfl (by kernel_rfl) (by kernel_rfl) (by kernel_rfl) (fun _ _ _ h => h) (by decide) (by kernel_rfl) (by kernel_rfl) hzxB ⟨by rfl, fun wq hw => by go_simp⟩ ?_
        try go_frame
        refine Tkc.takeC (i := 9) (v := .int .i64 EA) rfl (by kernel_rfl) (by kernel_rfl) (by kernel_rfl) (fun _ _ _ h => h) (by decide) (by kernel_rfl) (by kernel_rfl) hzxB ⟨by rfl, fun wq hw => by go_simp⟩ ?_
        try go_frame
        refine Tkc.onlyC (i := 11) rfl (by kernel_rfl) (fun _ => hzxB) (by rfl) (fun K hK => ?_)
        refine wp_store_row 27 _ _ rfl gs #[.int .i64 U.x, .int .i64 U.y, .int .i64 U.z] rfl rfl _ _ sA (need_info _ rfl) rfl (need_one _ _ _) ?_
        have sF := setRow_heap xB gs _ #[.int .i64 U.x, .int .i64 U.y, .int .i64 U.z] _ _ sA
        have kzF : Below we.heap.size we (xB.setRow gs #[.int .i64 U.x, .int .i64 U.y, .int .i64 U.z]) := below_row hzxB hgs
        generalize xB.setRow gs #[.int .i64 U.x, .int .i64 U.y, .int .i64 U.z] = xF at *
        refine hK _ _ ?_
        clear hK K
        try go_frame
        refine Tkc.onlyC (i := 12) rfl (by kernel_rfl) (fun _ => kzF) (by rfl) (fun K hK => ?_)
        go_simp
        refine hK _ _ ?_
        clear hK K
        try go_frame
        refine Tkc.doneC (by kernel_rfl) (fun _ => kzF) ?_
        have HBx : Below w.heap.size w xF := HBeH.out.trans (kzF.mono HBeH.out.size)
        have tFn := sF
        have hwx := hwu2 xF HBx
        have HBxH : Hid (Below w.heap.size w xF) := HBx
        clear HBx sF kzF
        go_wp2_with (first
          | (refine load_wanted rfl 27 _ rfl _ rfl _ _ _ _ (tFn) Tryd.underlying27 rfl (need_info _ rfl) ?_)
          | (go_at_call 38; refine hwx.mono ?_; rintro e wz ⟨⟨gz, rfl, hz⟩, hbz⟩; clear hwx)
          | go_in)
        go_ret2
        first | exact ⟨⟨gz, rfl, hz⟩, HBxH.out.trans (hbz.mono HBxH.out.size)⟩ | exact ⟨Or.inr ⟨rfl, gz, rfl, hz⟩, HBxH.out.trans (hbz.mono HBxH.out.size)⟩
    · have hne : (E != 0) = true := by simpa using hE0
      have hE0H : Hid (E ≠ 0) := hE0
      clear hE0
      go_wp2
      go_ret2
      exact ⟨Or.inl ⟨hE0H.out, rfl⟩, HBF⟩
  · clear hix
    refine Tkc.opC (i := 9) rfl (by rfl) (fun K hK => ?_)
    go_simp
    have tA0 := heap_alloc_new wd (.cells #[.int .i64 0, .int .i64 0, .int .i64 0] 27)
    have hgt : wd.heap.size ≤ wd.heap.size := Nat.le_refl _
    have hzA : Below wd.heap.size wd (wd.alloc (.cells #[.int .i64 0, .int .i64 0, .int .i64 0] 27)) := hcz.alloc hgt _
    have hsA : (wd.alloc (.cells #[.int .i64 0, .int .i64 0, .int .i64 0] 27)).heap.size = wd.heap.size + 1 := by simp
    generalize wd.alloc (.cells #[.int .i64 0, .int .i64 0, .int .i64 0] 27) = wA at *
    refine hK _ _ ?_
    clear hK K
    try go_frame
    refine Tkc.onlyC (i := 5) rfl (by kernel_rfl) (fun _ => hzA) (by rfl) (fun K hK => ?_)
    go_simp
    refine (hle wA).mono ?_
    rintro e wB ⟨rfl, hb⟩
    have hzwB : Below wd.heap.size wd wB := hzA.trans (hb.mono hzA.size)
    have tA := (hb.block wd.heap.size (by omega)).trans tA0
    clear hb hle tA0 hgt
    generalize hgte : wd.heap.size = gt at tA ⊢
    have hgt : wd.heap.size ≤ gt := Nat.le_of_eq hgte
    clear hgte
    refine hK _ _ ?_
    clear hK K
    try go_frame
    refine Tkc.takeC (i := 6) (v := .tuple #[.agg #[.int .i64 R.x, .int .i64 R.y, .int .i64 R.z], .int .i64 E]) rfl (by kernel_rfl) (by kernel_rfl) (by kernel_rfl) (fun _ _ _ h => h) (by decide) (by kernel_rfl) (by kernel_rfl) hzwB ⟨by rfl, fun wq hw => by go_simp⟩ ?_
    try go_frame
    refine Tkc.takeC (i := 7) (v := .agg #[.int .i64 R.x, .int .i64 R.y, .int .i64 R.z]) rfl (by kernel_rfl) (by kernel_rfl) (by kernel_rfl) (fun _ _ _ h => h) (by decide) (by kernel_rfl) (by kernel_rfl) hzwB ⟨by rfl, fun wq hw => by go_simp⟩ ?_
    try go_frame
    refine Tkc.takeC (i := 8) (v := .int .i64 E) rfl (by kernel_rfl) (by kernel_rfl) (by kernel_rfl) (fun _ _ _ h => h) (by decide) (by kernel_rfl) (by kernel_rfl) hzwB ⟨by rfl, fun wq hw => by go_simp⟩ ?_
    try go_frame
    refine Tkc.onlyC (i := 10) rfl (by kernel_rfl) (fun _ => hzwB) (by rfl) (fun K hK => ?_)
    refine wp_store_row 27 _ _ rfl gt #[.int .i64 R.x, .int .i64 R.y, .int .i64 R.z] rfl rfl _ _ tA (need_info _ rfl) rfl (need_one _ _ _) ?_
    have tF := setRow_heap wB gt _ #[.int .i64 R.x, .int .i64 R.y, .int .i64 R.z] _ _ tA
    have hzF : Below wd.heap.size wd (wB.setRow gt #[.int .i64 R.x, .int .i64 R.y, .int .i64 R.z]) := below_row hzwB hgt
    generalize wB.setRow gt #[.int .i64 R.x, .int .i64 R.y, .int .i64 R.z] = wF at *
    refine hK _ _ ?_
    clear hK K
    try go_frame
    refine Tkc.onlyC (i := 11) rfl (by kernel_rfl) (fun _ => hzF) (by rfl) (fun K hK => ?_)
    go_simp
    refine hK _ _ ?_
    clear hK K
    try go_frame
    refine Tkc.doneC (by kernel_rfl) (fun _ => hzF) ?_
    have HBF : Below w.heap.size w wF := HBdH.out.trans (hzF.mono HBdH.out.size)
    by_cases hE0 : E = 0
    · subst hE0
      have HBeH : Hid (Below w.heap.size w wF.drew) := HBF.drew
      have deH : Hid (wF.drew.heap[w.heap.size]? = some (.cells #[.int .i64 d.x, .int .i64 d.y, .int .i64 d.z] 27 (0, 0))) := (hzF.block w.heap.size (Array.getElem?_eq_some_iff.1 ddH.out).1).trans ddH.out
      clear HBF hzF tF
      go_wp2
      refine Tkc.region_anyC (C := fun w' => Below wF.drew.heap.size wF.drew w') (s := 13) (by kernel_rfl) ?_
      generalize wF.drew = we at *
      have hdz : Below we.heap.size we we := Below.refl _ _
      have hdl : ∀ w' : World, Below we.heap.size we w' → ((w'.cell? ⟨g, o + i * 8, none⟩ = some (.string nm) ∧ w'.cell? ⟨g, o + i * 8 + 1, none⟩ = some (.slice pl ln cl)) ∧ (w'.cell? ⟨g, o + i * 8 + 2, none⟩ = some (.int .i64 hs.x) ∧ w'.cell? ⟨g, o + i * 8 + 3, none⟩ = some (.int .i64 hs.y) ∧ w'.cell? ⟨g, o + i * 8 + 4, none⟩ = some (.int .i64 hs.z)) ∧ (w'.cell? ⟨g, o + i * 8 + 5, none⟩ = some (.int .i64 us.x) ∧ w'.cell? ⟨g, o + i * 8 + 6, none⟩ = some (.int .i64 us.y) ∧ w'.cell? ⟨g, o + i * 8 + 7, none⟩ = some (.int .i64 us.z))) ∧ (w'.cell? ⟨w.heap.size, 0, none⟩ = some (.int .i64 d.x) ∧ w'.cell? ⟨w.heap.size, 1, none⟩ = some (.int .i64 d.y) ∧ w'.cell? ⟨w.heap.size, 2, none⟩ = some (.int .i64 d.z)) := fun w' h => by
        have hh := (h.block _ (Array.getElem?_eq_some_iff.1 deH.out).1).trans deH.out
        exact ⟨hcellH.out w' (HBeH.out.trans (h.mono HBeH.out.size)), (cell_of_row _ _ 0 _ _ _ hh).trans rfl, (cell_of_row _ _ 1 _ _ _ hh).trans rfl, (cell_of_row _ _ 2 _ _ _ hh).trans rfl⟩
      refine Tkc.takeC (i := 0) (v := .slice (some ⟨g, o, none⟩) nl c) rfl (by kernel_rfl) (by kernel_rfl) (by kernel_rfl) (fun _ _ _ h => h) (by decide) (by kernel_rfl) (by kernel_rfl) hdz ⟨by rfl, fun wq hw => by obtain ⟨⟨⟨z0, z1⟩, ⟨z2, z3, z4⟩, ⟨z5, z6, z7⟩⟩, ⟨y0, y1, y2⟩⟩ := hdl wq hw; go_simp⟩ ?_
      try go_frame
      refine Tkc.takeC (i := 1) (v := .int .i64 (i : Int)) rfl (by kernel_rfl) (by kernel_rfl) (by kernel_rfl) (fun _ _ _ h => h) (by decide) (by kernel_rfl) (by kernel_rfl) hdz ⟨by rfl, fun wq hw => by obtain ⟨⟨⟨z0, z1⟩, ⟨z2, z3, z4⟩, ⟨z5, z6, z7⟩⟩, ⟨y0, y1, y2⟩⟩ := hdl wq hw; go_simp⟩ ?_
      try go_frame
      refine Tkc.takeC (i := 2) (v := .pointer (some ⟨g, o + i * 8, none⟩)) rfl (by kernel_rfl) (by kernel_rfl) (by kernel_rfl) (fun _ _ _ h => h) (by decide) (by kernel_rfl) (by kernel_rfl) hdz ⟨by rfl, fun wq hw => by obtain ⟨⟨⟨z0, z1⟩, ⟨z2, z3, z4⟩, ⟨z5, z6, z7⟩⟩, ⟨y0, y1, y2⟩⟩ := hdl wq hw; go_simp⟩ ?_
      try go_frame
      refine Tkc.takeC (i := 3) (v := .pointer (some ⟨g, o + i * 8 + 5, none⟩)) rfl (by kernel_rfl) (by kernel_rfl) (by kernel_rfl) (fun _ _ _ h => h) (by decide) (by kernel_rfl) (by kernel_rfl) hdz ⟨by rfl, fun wq hw => by obtain ⟨⟨⟨z0, z1⟩, ⟨z2, z3, z4⟩, ⟨z5, z6, z7⟩⟩, ⟨y0, y1, y2⟩⟩ := hdl wq hw; go_simp⟩ ?_
      try go_frame
      refine Tkc.takeC (i := 4) (v := .agg #[.int .i64 us.x, .int .i64 us.y, .int .i64 us.z]) rfl (by kernel_rfl) (by kernel_rfl) (by kernel_rfl) (fun _ _ _ h => h) (by decide) (by kernel_rfl) (by kernel_rfl) hdz ⟨by rfl, fun wq hw => by obtain ⟨⟨⟨z0, z1⟩, ⟨z2, z3, z4⟩, ⟨z5, z6, z7⟩⟩, ⟨y0, y1, y2⟩⟩ := hdl wq hw; go_simp⟩ ?_
      try go_frame
      refine Tkc.takeC (i := 5) (v := .agg #[.int .i64 d.x, .int .i64 d.y, .int .i64 d.z]) rfl (by kernel_rfl) (by kernel_rfl) (by kernel_rfl) (fun _ _ _ h => h) (by decide) (by kernel_rfl) (by kernel_rfl) hdz ⟨by rfl, fun wq hw => by obtain ⟨⟨⟨z0, z1⟩, ⟨z2, z3, z4⟩, ⟨z5, z6, z7⟩⟩, ⟨y0, y1, y2⟩⟩ := hdl wq hw; go_simp⟩ ?_
      try go_frame
      clear hdl
      refine Tkc.manyC [6, 10] (by kernel_rfl) (by decide) (fun _ => hdz) ?_
      intro ix hix
      rcases (show ix = 6 ∨ ix = 10 by simpa using hix) with rfl | rfl
      · clear hix
        refine Tkc.opC (i := 6) rfl (by rfl) (fun K hK => ?_)
        go_simp
        refine (had we).mono ?_
        rintro e xA ⟨rfl, hb⟩
        have hzxA : Below we.heap.size we xA := hdz.trans (hb.mono hdz.size)
        clear hb had
        refine hK _ _ ?_
        clear hK K
        try go_frame
        refine Tkc.takeC (i := 7) (v := .tuple #[.agg #[.int .i64 U.x, .int .i64 U.y, .int .i64 U.z], .int .i64 EA]) rfl (by kernel_rfl) (by kernel_rfl) (by kernel_rfl) (fun _ _ _ h => h) (by decide) (by kernel_rfl) (by kernel_rfl) hzxA ⟨by rfl, fun wq hw => by go_simp⟩ ?_
        try go_frame
        refine Tkc.takeC (i := 8) (v := .agg #[.int .i64 U.x, .int .i64 U.y, .int .i64 U.z]) rfl (by kernel_rfl) (by kernel_rfl) (by kernel_rfl) (fun _ _ _ h => h) (by decide) (by kernel_rfl) (by kernel_rfl) hzxA ⟨by rfl, fun wq hw => by go_simp⟩ ?_
        try go_frame
        refine Tkc.takeC (i := 9) (v := .int .i64 EA) rfl (by kernel_rfl) (by kernel_rfl) (by kernel_rfl) (fun _ _ _ h => h) (by decide) (by kernel_rfl) (by kernel_rfl) hzxA ⟨by rfl, fun wq hw => by go_simp⟩ ?_
        try go_frame
        refine Tkc.onlyC (i := 10) rfl (by kernel_rfl) (fun _ => hzxA) (by rfl) (fun K hK => ?_)
        go_simp
        have sA := heap_alloc_new xA (.cells #[.int .i64 0, .int .i64 0, .int .i64 0] 27)
        have hgs : we.heap.size ≤ xA.heap.size := hzxA.size
        have kzB : Below we.heap.size we (xA.alloc (.cells #[.int .i64 0, .int .i64 0, .int .i64 0] 27)) := hzxA.alloc hgs _
        generalize xA.alloc (.cells #[.int .i64 0, .int .i64 0, .int .i64 0] 27) = xB at *
        generalize xA.heap.size = gs at sA hgs ⊢
        refine hK _ _ ?_
        clear hK K
        try go_frame
        refine Tkc.onlyC (i := 11) rfl (by kernel_rfl) (fun _ => kzB) (by rfl) (fun K hK => ?_)
        refine wp_store_row 27 _ _ rfl gs #[.int .i64 U.x, .int .i64 U.y, .int .i64 U.z] rfl rfl _ _ sA (need_info _ rfl) rfl (need_one _ _ _) ?_
        have sF := setRow_heap xB gs _ #[.int .i64 U.x, .int .i64 U.y, .int .i64 U.z] _ _ sA
        have kzF : Below we.heap.size we (xB.setRow gs #[.int .i64 U.x, .int .i64 U.y, .int .i64 U.z]) := below_row kzB hgs
        generalize xB.setRow gs #[.int .i64 U.x, .int .i64 U.y, .int .i64 U.z] = xF at *
        refine hK _ _ ?_
        clear hK K
        try go_frame
        refine Tkc.onlyC (i := 12) rfl (by kernel_rfl) (fun _ => kzF) (by rfl) (fun K hK => ?_)
        go_simp
        refine hK _ _ ?_
        clear hK K
        try go_frame
        refine Tkc.doneC (by kernel_rfl) (fun _ => kzF) ?_
        have HBx : Below w.heap.size w xF := HBeH.out.trans (kzF.mono HBeH.out.size)
        have tFn := sF
        have hwx := hwu2 xF HBx
        have HBxH : Hid (Below w.heap.size w xF) := HBx
        clear HBx sF kzF
        go_wp2_with (first
          | (refine load_wanted rfl 27 _ rfl _ rfl _ _ _ _ (tFn) Tryd.underlying27 rfl (need_info _ rfl) ?_)
          | (go_at_call 38; refine hwx.mono ?_; rintro e wz ⟨⟨gz, rfl, hz⟩, hbz⟩; clear hwx)
          | go_in)
        go_ret2
        first | exact ⟨⟨gz, rfl, hz⟩, HBxH.out.trans (hbz.mono HBxH.out.size)⟩ | exact ⟨Or.inr ⟨rfl, gz, rfl, hz⟩, HBxH.out.trans (hbz.mono HBxH.out.size)⟩
      · clear hix
        refine Tkc.opC (i := 10) rfl (by rfl) (fun K hK => ?_)
        go_simp
        have sA0 := heap_alloc_new we (.cells #[.int .i64 0, .int .i64 0, .int .i64 0] 27)
        have hgs : we.heap.size ≤ we.heap.size := Nat.le_refl _
        have kzA : Below we.heap.size we (we.alloc (.cells #[.int .i64 0, .int .i64 0, .int .i64 0] 27)) := hdz.alloc hgs _
        have hsA : (we.alloc (.cells #[.int .i64 0, .int .i64 0, .int .i64 0] 27)).heap.size = we.heap.size + 1 := by simp
        generalize we.alloc (.cells #[.int .i64 0, .int .i64 0, .int .i64 0] 27) = xA at *
        refine hK _ _ ?_
        clear hK K
        try go_frame
        refine Tkc.onlyC (i := 6) rfl (by kernel_rfl) (fun _ => kzA) (by rfl) (fun K hK => ?_)
        go_simp
        refine (had xA).mono ?_
        rintro e xB ⟨rfl, hb⟩
        have hzxB : Below we.heap.size we xB := kzA.trans (hb.mono kzA.size)
        have sA := (hb.block we.heap.size (by omega)).trans sA0
        clear hb had sA0 hgs
        generalize hgse : we.heap.size = gs at sA ⊢
        have hgs : we.heap.size ≤ gs := Nat.le_of_eq hgse
        clear hgse
        refine hK _ _ ?_
        clear hK K
        try go_frame
        refine Tkc.takeC (i := 7) (v := .tuple #[.agg #[.int .i64 U.x, .int .i64 U.y, .int .i64 U.z], .int .i64 EA]) rfl (by kernel_rfl) (by kernel_rfl) (by kernel_rfl) (fun _ _ _ h => h) (by decide) (by kernel_rfl) (by kernel_rfl) hzxB ⟨by rfl, fun wq hw => by go_simp⟩ ?_
        try go_frame
        refine Tkc.takeC (i := 8) (v := .agg #[.int .i64 U.x, .int .i64 U.y, .int .i64 U.z]) rfl (by kernel_rfl) (by kernel_rfl) (by kernel_rfl) (fun _ _ _ h => h) (by decide) (by kernel_rfl) (by kernel_rfl) hzxB ⟨by rfl, fun wq hw => by go_simp⟩ ?_
        try go_frame
        refine Tkc.takeC (i := 9) (v := .int .i64 EA) rfl (by kernel_rfl) (by kernel_rfl) (by kernel_rfl) (fun _ _ _ h => h) (by decide) (by kernel_rfl) (by kernel_rfl) hzxB ⟨by rfl, fun wq hw => by go_simp⟩ ?_
        try go_frame
        refine Tkc.onlyC (i := 11) rfl (by kernel_rfl) (fun _ => hzxB) (by rfl) (fun K hK => ?_)
        refine wp_store_row 27 _ _ rfl gs #[.int .i64 U.x, .int .i64 U.y, .int .i64 U.z] rfl rfl _ _ sA (need_info _ rfl) rfl (need_one _ _ _) ?_
        have sF := setRow_heap xB gs _ #[.int .i64 U.x, .int .i64 U.y, .int .i64 U.z] _ _ sA
        have kzF : Below we.heap.size we (xB.setRow gs #[.int .i64 U.x, .int .i64 U.y, .int .i64 U.z]) := below_row hzxB hgs
        generalize xB.setRow gs #[.int .i64 U.x, .int .i64 U.y, .int .i64 U.z] = xF at *
        refine hK _ _ ?_
        clear hK K
        try go_frame
        refine Tkc.onlyC (i := 12) rfl (by kernel_rfl) (fun _ => kzF) (by rfl) (fun K hK => ?_)
        go_simp
        refine hK _ _ ?_
        clear hK K
        try go_frame
        refine Tkc.doneC (by kernel_rfl) (fun _ => kzF) ?_
        have HBx : Below w.heap.size w xF := HBeH.out.trans (kzF.mono HBeH.out.size)
        have tFn := sF
        have hwx := hwu2 xF HBx
        have HBxH : Hid (Below w.heap.size w xF) := HBx
        clear HBx sF kzF
        go_wp2_with (first
          | (refine load_wanted rfl 27 _ rfl _ rfl _ _ _ _ (tFn) Tryd.underlying27 rfl (need_info _ rfl) ?_)
          | (go_at_call 38; refine hwx.mono ?_; rintro e wz ⟨⟨gz, rfl, hz⟩, hbz⟩; clear hwx)
          | go_in)
        go_ret2
        first | exact ⟨⟨gz, rfl, hz⟩, HBxH.out.trans (hbz.mono HBxH.out.size)⟩ | exact ⟨Or.inr ⟨rfl, gz, rfl, hz⟩, HBxH.out.trans (hbz.mono HBxH.out.size)⟩
    · have hne : (E != 0) = true := by simpa using hE0
      have hE0H : Hid (E ≠ 0) := hE0
      clear hE0
      go_wp2
      go_ret2
      exact ⟨Or.inl ⟨hE0H.out, rfl⟩, HBF⟩
end Go.Proofs.YtelepamnlpebgabDoor
