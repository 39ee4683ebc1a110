/- slices.EqualFunc at hosts, sameHosts; host.Give: walked. -/
import Derived.Test.YtelepamnlpebgabDoorHbk
namespace Go.Proofs.YtelepamnlpebgabDoor
open Go.RowKit Go.Shelf Go.Deep Akm Ndm
set_option linter.unusedSectionVars false
set_option linter.unusedVariables false

set_option maxHeartbeats 800000 in
set_option maxRecDepth 100000 in
theorem equalH_any (l : List Ht) (n : Nat) (hn : l.length = n) (h30 : n ≤ 30) (q q' : Option Addr) (c c' : Nat) (w : World) (h : Hsts w q l) (h' : Hsts w q' l) : Calls Tryd.prog 51 #[.slice q n c, .slice q' n c', .func (.func 52) #[] #[]] w fun e w' => e = .returned (.bool true) ∧ Below w.heap.size w w' := by
  have hH : Hid (Hsts w q l) := h
  have hH' : Hid (Hsts w q' l) := h'
  have hnH : Hid (l.length = n) := hn
  have h30i : (n : Int) ≤ 30 := by omega
  clear h h' hn h30
  go_enter Tryd.func51, Tryd.ntmps51
  go_wp2
  go_loopw [17] (fun iv wr => ∃ j : Nat, iv = .int .i64 j ∧ j ≤ n ∧ Hid (Below w.heap.size w wr)) (fun iv _ => n - (intOf iv).toNat)
  case atStart => exact ⟨0, rfl, Nat.zero_le _, Below.refl _ _⟩
  case round =>
    obtain ⟨j, rfl, hj, hbl⟩ := hrel
    by_cases hjl : j < n
    · obtain ⟨x, hx⟩ : ∃ x, l[j]? = some x := ⟨l[j]'(by rw [hnH.out]; exact hjl), List.getElem?_eq_getElem _⟩
      obtain ⟨g, o, pl, cl, rfl, hg, h8, hb, hm⟩ := host_at hH.out hx
      obtain ⟨g', o', pl', cl', rfl, hg', h8', hb', hm'⟩ := host_at hH'.out hx
      obtain ⟨nm, L, hs, us⟩ := x
      obtain ⟨ln, hln⟩ : ∃ m, L.length = m := ⟨_, rfl⟩
      simp only at hb hm hb' hm'
      obtain ⟨⟨u0, u1⟩, ⟨u2, u3, u4⟩, ⟨u5, u6, u7⟩⟩ := h8.below hbl.out hg
      simp only at u0 u1 u2 u3 u4 u5 u6 u7
      rw [hln] at u1
      have hb1 : Below w.heap.size w (wr.alloc (.cells #[.string nm, .slice pl ln cl, .int .i64 hs.x, .int .i64 hs.y, .int .i64 hs.z, .int .i64 us.x, .int .i64 us.y, .int .i64 us.z] 30)) := hbl.out.alloc hbl.out.size _
      obtain ⟨⟨y0, y1⟩, ⟨y2, y3, y4⟩, ⟨y5, y6, y7⟩⟩ := h8'.below hb1 hg'
      simp only at y0 y1 y2 y3 y4 y5 y6 y7
      rw [hln] at y1
      have hb2 : Below w.heap.size w ((wr.alloc (.cells #[.string nm, .slice pl ln cl, .int .i64 hs.x, .int .i64 hs.y, .int .i64 hs.z, .int .i64 us.x, .int .i64 us.y, .int .i64 us.z] 30)).alloc (.cells #[.string nm, .slice pl' ln cl', .int .i64 hs.x, .int .i64 hs.y, .int .i64 hs.z, .int .i64 us.x, .int .i64 us.y, .int .i64 us.z] 30)) := hb1.alloc hb1.size _
      have hcall := same1_any nm L ln hln (by omega) pl pl' cl cl' hs us _ (hb.below hb2) (hb'.below hb2)
      have f1 : ((wr.alloc (.cells #[.string nm, .slice pl ln cl, .int .i64 hs.x, .int .i64 hs.y, .int .i64 hs.z, .int .i64 us.x, .int .i64 us.y, .int .i64 us.z] 30)).alloc (.cells #[.string nm, .slice pl' ln cl', .int .i64 hs.x, .int .i64 hs.y, .int .i64 hs.z, .int .i64 us.x, .int .i64 us.y, .int .i64 us.z] 30)).heap[wr.heap.size]? = some (.cells #[.string nm, .slice pl ln cl, .int .i64 hs.x, .int .i64 hs.y, .int .i64 hs.z, .int .i64 us.x, .int .i64 us.y, .int .i64 us.z] 30 (0, 0)) := (Below.heap_alloc _ _ _ (by simp)).trans (heap_alloc_new _ _)
      have f2 : ((wr.alloc (.cells #[.string nm, .slice pl ln cl, .int .i64 hs.x, .int .i64 hs.y, .int .i64 hs.z, .int .i64 us.x, .int .i64 us.y, .int .i64 us.z] 30)).alloc (.cells #[.string nm, .slice pl' ln cl', .int .i64 hs.x, .int .i64 hs.y, .int .i64 hs.z, .int .i64 us.x, .int .i64 us.y, .int .i64 us.z] 30)).heap[wr.heap.size + 1]? = some (.cells #[.string nm, .slice pl' ln cl', .int .i64 hs.x, .int .i64 hs.y, .int .i64 hs.z, .int .i64 us.x, .int .i64 us.y, .int .i64 us.z] 30 (0, 0)) := by
        have h := heap_alloc_new (wr.alloc (.cells #[.string nm, .slice pl ln cl, .int .i64 hs.x, .int .i64 hs.y, .int .i64 hs.z, .int .i64 us.x, .int .i64 us.y, .int .i64 us.z] 30)) (.cells #[.string nm, .slice pl' ln cl', .int .i64 hs.x, .int .i64 hs.y, .int .i64 hs.z, .int .i64 us.x, .int .i64 us.y, .int .i64 us.z] 30)
        rw [World.size_alloc] at h
        exact h
      have hb2H : Hid (Below w.heap.size w _) := hb2
      have hlt : (j : Int) < (n : Int) := by omega
      have hjH : Hid (j < n) := hjl
      clear hx h8 h8' hb hb' hm hm' hln hb1 hb2 hj hjl hbl
      go_wp2_with (first
        | (refine load_wanted rfl 30 _ rfl _ rfl _ _ _ _ (f1) Tryd.underlying30 rfl (host_info _ rfl) ?_)
        | (refine load_wanted rfl 30 _ rfl _ rfl _ _ _ _ (f2) Tryd.underlying30 rfl (host_info _ rfl) ?_)
        | (go_at_call 52; refine hcall.mono ?_; rintro e w5 ⟨rfl, hb5⟩; clear hcall f1 f2)
        | go_in)
      refine ⟨⟨j + 1, by first | rfl | simp, hjH.out, hb2H.out.trans (hb5.mono hb2H.out.size)⟩, ?_⟩
      have := hjH.out
      simp [intOf]
      omega
    · have hlt : ¬ (j : Int) < (n : Int) := by omega
      go_wp2
      go_ret
      exact ⟨rfl, hbl.out⟩
theorem sameHosts_any (l : List Ht) (n : Nat) (hn : l.length = n) (h30 : n ≤ 30) (q q' : Option Addr) (c c' : Nat) (w : World) (h : Hsts w q l) (h' : Hsts w q' l) : Calls Tryd.prog 26 #[.slice q n c, .slice q' n c'] w fun e w' => e = .returned (.bool true) ∧ Below w.heap.size w w' := by
  have he := equalH_any l n hn h30 q q' c c' w h h'
  clear hn h30 h h'
  go_enter Tryd.func26, Tryd.ntmps26
  go_wp2_with (first
    | (go_at_call 51; refine he.mono ?_; rintro e w3 ⟨rfl, hb3⟩; clear he)
    | go_in)
  go_ret
  exact ⟨rfl, hb3⟩
theorem Hsts.one {w : World} {g o : Nat} {l : List Ht} (h : Hsts w (some ⟨g, o, none⟩) l) {k : Nat} {x : Ht} (hx : l[k]? = some x) : Hsts w (some ⟨g, o + k * 8, none⟩) [x] := by
  obtain ⟨g2, o2, pl, cl, e, hg, h8, hb, hm⟩ := host_at h hx
  simp only [Option.some.injEq, Addr.mk.injEq, and_true] at e
  obtain ⟨rfl, rfl⟩ := e
  refine Or.inr ⟨g, o + k * 8, rfl, hg, fun j y hy => ?_⟩
  have hj0 : j = 0 := by
    have := (List.getElem?_eq_some_iff.1 hy).1
    simp at this
    exact this
  subst hj0
  obtain rfl : x = y := by simpa using hy
  exact ⟨pl, cl, by simpa using h8, hb, hm⟩

set_option maxHeartbeats 2000000 in
set_option maxRecDepth 100000 in
/-- What is used is enough. -/
theorem Give_run (l : List Ht) (q : Option Addr) (nl c : Nat) (hnl : l.length = nl) (hnc : nl ≤ c) (i : Nat) (x : Ht) (hx : l[i]? = some x) (d : N3) (w : World) (hX : TabX w) (hl : Hsts w q l) (h0 : hcE l = 0) (hE : sE x.us d = 0) :
    Calls Tryd.prog 12 #[.slice q nl c, .int .i64 (i : Int), .agg #[.int .i64 d.x, .int .i64 d.y, .int .i64 d.z]] w fun e w' => (∃ g, e = .returned (.tuple #[.slice (some ⟨g, 0, none⟩) nl nl, .int .i64 0]) ∧ Hsts w' (some ⟨g, 0, none⟩) (updU l i (sR x.us d))) ∧ Below w.heap.size w w' := by
  have hin : i < nl := by rw [← hnl]; exact (List.getElem?_eq_some_iff.1 hx).1
  have hn30 := hc_len h0
  have hB : Below w.heap.size w (w.alloc (.cells #[.int .i64 d.x, .int .i64 d.y, .int .i64 d.z] 27)) := (Below.refl _ _).alloc (Nat.le_refl _) _
  have hco0 : coE l (i : Int) = 0 := by unfold coE; rw [if_neg (by simpa using h0), if_neg (by omega)]
  have hco := checkOne_any l q nl c hnl hnc (i : Int) _ (hX.below hB (Nat.le_refl _)) (hl.below hB) 0 hco0
  have hwu := fun (u : N3) (w1 : World) (h : Below w.heap.size w w1) => withUsed_any l q nl c hnl h0 i hin u w1 (hl.below h)
  obtain ⟨g, o, pl, cl, rfl, hg, hx8, _, _⟩ := host_at hl hx
  obtain ⟨nm, L, hs, us⟩ := x
  obtain ⟨ln, hln⟩ : ∃ m, L.length = m := ⟨_, rfl⟩
  simp only at hE
  have had := fun w1 => Sub_any us d w1
  rw [hE] at had
  have hwu2 := hwu (sR us d)
  show Calls _ _ _ _ fun e w' => (∃ g, _ ∧ Hsts w' (some ⟨g, 0, none⟩) (updU l i (sR us d))) ∧ _
  generalize sR us d = U at *
  have hcellH : Hid (∀ w1, Below w.heap.size w w1 → (w1.cell? ⟨g, o + i * 8, none⟩ = some (.string nm) ∧ w1.cell? ⟨g, o + i * 8 + 1, none⟩ = some (.slice pl ln cl)) ∧ (w1.cell? ⟨g, o + i * 8 + 2, none⟩ = some (.int .i64 hs.x) ∧ w1.cell? ⟨g, o + i * 8 + 3, none⟩ = some (.int .i64 hs.y) ∧ w1.cell? ⟨g, o + i * 8 + 4, none⟩ = some (.int .i64 hs.z)) ∧ (w1.cell? ⟨g, o + i * 8 + 5, none⟩ = some (.int .i64 us.x) ∧ w1.cell? ⟨g, o + i * 8 + 6, none⟩ = some (.int .i64 us.y) ∧ w1.cell? ⟨g, o + i * 8 + 7, none⟩ = some (.int .i64 us.z))) := fun w1 h => by
    have := hx8.below h hg
    unfold cell8 at this
    simp only [hln] at this
    exact this
  have d0 := heap_alloc_new w (.cells #[.int .i64 d.x, .int .i64 d.y, .int .i64 d.z] 27)
  have hBH : Hid (Below w.heap.size w (w.alloc (.cells #[.int .i64 d.x, .int .i64 d.y, .int .i64 d.z] 27))) := hB
  have hii : (i : Int) < (nl : Int) := by omega
  have hi0 : ¬ (i : Int) < 0 := by omega
  have hn30i : (nl : Int) ≤ 30 := by omega
  clear hX hl hnl hnc hB hco0 hwu hx hx8 hln hE hg h0 hin hn30
  go_enter Tryd.func12, Tryd.ntmps12
  go_wp2_with (first
    | (go_at_call 36; refine hco.mono ?_; rintro e w3 ⟨rfl, hb3⟩; clear hco; have HB3 : Below w.heap.size w w3 := hBH.out.trans (hb3.mono hBH.out.size); have d3 := (hb3.block _ (Array.getElem?_eq_some_iff.1 d0).1).trans d0; clear d0 hb3))
  have HBd : Below w.heap.size w w3.drew := HB3.drew
  have dd : w3.drew.heap[w.heap.size]? = some (.cells #[.int .i64 d.x, .int .i64 d.y, .int .i64 d.z] 27 (0, 0)) := d3
  clear HB3 d3
  refine Tkc.region_anyC (C := fun w' => Below w3.drew.heap.size w3.drew w') (s := 13) (by kernel_rfl) ?_
  generalize w3.drew = wd at *
  have hcz : Below wd.heap.size wd wd := Below.refl _ _
  have HBdH : Hid (Below w.heap.size w wd) := HBd
  have ddH : Hid (wd.heap[w.heap.size]? = some (.cells #[.int .i64 d.x, .int .i64 d.y, .int .i64 d.z] 27 (0, 0))) := dd
  have hcl : ∀ w' : World, Below wd.heap.size wd w' → ((w'.cell? ⟨g, o + i * 8, none⟩ = some (.string nm) ∧ w'.cell? ⟨g, o + i * 8 + 1, none⟩ = some (.slice pl ln cl)) ∧ (w'.cell? ⟨g, o + i * 8 + 2, none⟩ = some (.int .i64 hs.x) ∧ w'.cell? ⟨g, o + i * 8 + 3, none⟩ = some (.int .i64 hs.y) ∧ w'.cell? ⟨g, o + i * 8 + 4, none⟩ = some (.int .i64 hs.z)) ∧ (w'.cell? ⟨g, o + i * 8 + 5, none⟩ = some (.int .i64 us.x) ∧ w'.cell? ⟨g, o + i * 8 + 6, none⟩ = some (.int .i64 us.y) ∧ w'.cell? ⟨g, o + i * 8 + 7, none⟩ = some (.int .i64 us.z))) ∧ (w'.cell? ⟨w.heap.size, 0, none⟩ = some (.int .i64 d.x) ∧ w'.cell? ⟨w.heap.size, 1, none⟩ = some (.int .i64 d.y) ∧ w'.cell? ⟨w.heap.size, 2, none⟩ = some (.int .i64 d.z)) := fun w' h => by
    have hh := (h.block _ (Array.getElem?_eq_some_iff.1 dd).1).trans dd
    exact ⟨hcellH.out w' (HBd.trans (h.mono HBd.size)), (cell_of_row _ _ 0 _ _ _ hh).trans rfl, (cell_of_row _ _ 1 _ _ _ hh).trans rfl, (cell_of_row _ _ 2 _ _ _ hh).trans rfl⟩
  clear HBd dd
  refine Tkc.takeC (i := 0) (v := .slice (some ⟨g, o, none⟩) nl c) rfl (by kernel_rfl) (by kernel_rfl) (by kernel_rfl) (fun _ _ _ h => h) (by decide) (by kernel_rfl) (by kernel_rfl) hcz ⟨by rfl, fun wq hw => by obtain ⟨⟨⟨z0, z1⟩, ⟨z2, z3, z4⟩, ⟨z5, z6, z7⟩⟩, ⟨y0, y1, y2⟩⟩ := hcl wq hw; go_simp⟩ ?_
  try go_frame
  refine Tkc.takeC (i := 1) (v := .int .i64 (i : Int)) rfl (by kernel_rfl) (by kernel_rfl) (by kernel_rfl) (fun _ _ _ h => h) (by decide) (by kernel_rfl) (by kernel_rfl) hcz ⟨by rfl, fun wq hw => by obtain ⟨⟨⟨z0, z1⟩, ⟨z2, z3, z4⟩, ⟨z5, z6, z7⟩⟩, ⟨y0, y1, y2⟩⟩ := hcl wq hw; go_simp⟩ ?_
  try go_frame
  refine Tkc.takeC (i := 2) (v := .pointer (some ⟨g, o + i * 8, none⟩)) rfl (by kernel_rfl) (by kernel_rfl) (by kernel_rfl) (fun _ _ _ h => h) (by decide) (by kernel_rfl) (by kernel_rfl) hcz ⟨by rfl, fun wq hw => by obtain ⟨⟨⟨z0, z1⟩, ⟨z2, z3, z4⟩, ⟨z5, z6, z7⟩⟩, ⟨y0, y1, y2⟩⟩ := hcl wq hw; go_simp⟩ ?_
  try go_frame
  refine Tkc.takeC (i := 3) (v := .pointer (some ⟨g, o + i * 8 + 5, none⟩)) rfl (by kernel_rfl) (by kernel_rfl) (by kernel_rfl) (fun _ _ _ h => h) (by decide) (by kernel_rfl) (by kernel_rfl) hcz ⟨by rfl, fun wq hw => by obtain ⟨⟨⟨z0, z1⟩, ⟨z2, z3, z4⟩, ⟨z5, z6, z7⟩⟩, ⟨y0, y1, y2⟩⟩ := hcl wq hw; go_simp⟩ ?_
  try go_frame
  refine Tkc.takeC (i := 4) (v := .agg #[.int .i64 us.x, .int .i64 us.y, .int .i64 us.z]) rfl (by kernel_rfl) (by kernel_rfl) (by kernel_rfl) (fun _ _ _ h => h) (by decide) (by kernel_rfl) (by kernel_rfl) hcz ⟨by rfl, fun wq hw => by obtain ⟨⟨⟨z0, z1⟩, ⟨z2, z3, z4⟩, ⟨z5, z6, z7⟩⟩, ⟨y0, y1, y2⟩⟩ := hcl wq hw; go_simp⟩ ?_
  try go_frame
  refine Tkc.takeC (i := 5) (v := .agg #[.int .i64 d.x, .int .i64 d.y, .int .i64 d.z]) rfl (by kernel_rfl) (by kernel_rfl) (by kernel_rfl) (fun _ _ _ h => h) (by decide) (by kernel_rfl) (by kernel_rfl) hcz ⟨by rfl, fun wq hw => by obtain ⟨⟨⟨z0, z1⟩, ⟨z2, z3, z4⟩, ⟨z5, z6, z7⟩⟩, ⟨y0, y1, y2⟩⟩ := hcl wq hw; go_simp⟩ ?_
  try go_frame
  clear hcl
  refine Tkc.manyC [6, 10] (by kernel_rfl) (by decide) (fun _ => hcz) ?_
  intro ix hix
  rcases (show ix = 6 ∨ ix = 10 by simpa using hix) with rfl | rfl
  · clear hix
    refine Tkc.opC (i := 6) rfl (by rfl) (fun K hK => ?_)
    go_simp
    refine (had wd).mono ?_
    rintro e wA ⟨rfl, hb⟩
    have hzwA : Below wd.heap.size wd wA := hcz.trans (hb.mono hcz.size)
    clear hb had
    refine hK _ _ ?_
    clear hK K
    try go_frame
    refine Tkc.takeC (i := 7) (v := .tuple #[.agg #[.int .i64 U.x, .int .i64 U.y, .int .i64 U.z], .int .i64 0]) rfl (by kernel_rfl) (by kernel_rfl) (by kernel_rfl) (fun _ _ _ h => h) (by decide) (by kernel_rfl) (by kernel_rfl) hzwA ⟨by rfl, fun wq hw => by go_simp⟩ ?_
    try go_frame
    refine Tkc.takeC (i := 8) (v := .agg #[.int .i64 U.x, .int .i64 U.y, .int .i64 U.z]) rfl (by kernel_rfl) (by kernel_rfl) (by kernel_rfl) (fun _ _ _ h => h) (by decide) (by kernel_rfl) (by kernel_rfl) hzwA ⟨by rfl, fun wq hw => by go_simp⟩ ?_
    try go_frame
    refine Tkc.takeC (i := 9) (v := .int .i64 0) rfl (by kernel_rfl) (by kernel_rfl) (by kernel_rfl) (fun _ _ _ h => h) (by decide) (by kernel_rfl) (by kernel_rfl) hzwA ⟨by rfl, fun wq hw => by go_simp⟩ ?_
    try go_frame
    refine Tkc.onlyC (i := 10) rfl (by kernel_rfl) (fun _ => hzwA) (by rfl) (fun K hK => ?_)
    go_simp
    have tA := heap_alloc_new wA (.cells #[.int .i64 0, .int .i64 0, .int .i64 0] 27)
    have hgt : wd.heap.size ≤ wA.heap.size := hzwA.size
    have hzB : Below wd.heap.size wd (wA.alloc (.cells #[.int .i64 0, .int .i64 0, .int .i64 0] 27)) := hzwA.alloc hgt _
    generalize wA.alloc (.cells #[.int .i64 0, .int .i64 0, .int .i64 0] 27) = wB at *
    generalize wA.heap.size = gt at tA hgt ⊢
    refine hK _ _ ?_
    clear hK K
    try go_frame
    refine Tkc.onlyC (i := 11) rfl (by kernel_rfl) (fun _ => hzB) (by rfl) (fun K hK => ?_)
    refine wp_store_row 27 _ _ rfl gt #[.int .i64 U.x, .int .i64 U.y, .int .i64 U.z] rfl rfl _ _ tA (need_info _ rfl) rfl (need_one _ _ _) ?_
    have tF := setRow_heap wB gt _ #[.int .i64 U.x, .int .i64 U.y, .int .i64 U.z] _ _ tA
    have hzF : Below wd.heap.size wd (wB.setRow gt #[.int .i64 U.x, .int .i64 U.y, .int .i64 U.z]) := below_row hzB hgt
    generalize wB.setRow gt #[.int .i64 U.x, .int .i64 U.y, .int .i64 U.z] = wF at *
    refine hK _ _ ?_
    clear hK K
    try go_frame
    refine Tkc.onlyC (i := 12) rfl (by kernel_rfl) (fun _ => hzF) (by rfl) (fun K hK => ?_)
    go_simp
    refine hK _ _ ?_
    clear hK K
    try go_frame
    refine Tkc.doneC (by kernel_rfl) (fun _ => hzF) ?_
    have HBx : Below w.heap.size w wF := HBdH.out.trans (hzF.mono HBdH.out.size)
    have tFn := tF
    have hwx := hwu2 wF HBx
    have HBxH : Hid (Below w.heap.size w wF) := HBx
    clear HBx tF hzF
    go_wp2_with (first
      | (refine load_wanted rfl 27 _ rfl _ rfl _ _ _ _ (tFn) Tryd.underlying27 rfl (need_info _ rfl) ?_)
      | (go_at_call 38; refine hwx.mono ?_; rintro e wz ⟨⟨gz, rfl, hz⟩, hbz⟩; clear hwx)
      | go_in)
    go_ret2
    first | exact ⟨⟨gz, rfl, hz⟩, HBxH.out.trans (hbz.mono HBxH.out.size)⟩ | exact ⟨⟨gz, rfl, hz⟩, HBxH.out.trans (hbz.mono HBxH.out.size)⟩
  · clear hix
    refine Tkc.opC (i := 10) rfl (by rfl) (fun K hK => ?_)
    go_simp
    have tA0 := heap_alloc_new wd (.cells #[.int .i64 0, .int .i64 0, .int .i64 0] 27)
    have hgt : wd.heap.size ≤ wd.heap.size := Nat.le_refl _
    have hzA : Below wd.heap.size wd (wd.alloc (.cells #[.int .i64 0, .int .i64 0, .int .i64 0] 27)) := hcz.alloc hgt _
    have hsA : (wd.alloc (.cells #[.int .i64 0, .int .i64 0, .int .i64 0] 27)).heap.size = wd.heap.size + 1 := by simp
    generalize wd.alloc (.cells #[.int .i64 0, .int .i64 0, .int .i64 0] 27) = wA at *
    refine hK _ _ ?_
    clear hK K
    try go_frame
    refine Tkc.onlyC (i := 6) rfl (by kernel_rfl) (fun _ => hzA) (by rfl) (fun K hK => ?_)
    go_simp
    refine (had wA).mono ?_
    rintro e wB ⟨rfl, hb⟩
    have hzwB : Below wd.heap.size wd wB := hzA.trans (hb.mono hzA.size)
    have tA := (hb.block wd.heap.size (by omega)).trans tA0
    clear hb had tA0 hgt
    generalize hgte : wd.heap.size = gt at tA ⊢
    have hgt : wd.heap.size ≤ gt := Nat.le_of_eq hgte
    clear hgte
    refine hK _ _ ?_
    clear hK K
    try go_frame
    refine Tkc.takeC (i := 7) (v := .tuple #[.agg #[.int .i64 U.x, .int .i64 U.y, .int .i64 U.z], .int .i64 0]) rfl (by kernel_rfl) (by kernel_rfl) (by kernel_rfl) (fun _ _ _ h => h) (by decide) (by kernel_rfl) (by kernel_rfl) hzwB ⟨by rfl, fun wq hw => by go_simp⟩ ?_
    try go_frame
    refine Tkc.takeC (i := 8) (v := .agg #[.int .i64 U.x, .int .i64 U.y, .int .i64 U.z]) rfl (by kernel_rfl) (by kernel_rfl) (by kernel_rfl) (fun _ _ _ h => h) (by decide) (by kernel_rfl) (by kernel_rfl) hzwB ⟨by rfl, fun wq hw => by go_simp⟩ ?_
    try go_frame
    refine Tkc.takeC (i := 9) (v := .int .i64 0) rfl (by kernel_rfl) (by kernel_rfl) (by kernel_rfl) (fun _ _ _ h => h) (by decide) (by kernel_rfl) (by kernel_rfl) hzwB ⟨by rfl, fun wq hw => by go_simp⟩ ?_
    try go_frame
    refine Tkc.onlyC (i := 11) rfl (by kernel_rfl) (fun _ => hzwB) (by rfl) (fun K hK => ?_)
    refine wp_store_row 27 _ _ rfl gt #[.int .i64 U.x, .int .i64 U.y, .int .i64 U.z] rfl rfl _ _ tA (need_info _ rfl) rfl (need_one _ _ _) ?_
    have tF := setRow_heap wB gt _ #[.int .i64 U.x, .int .i64 U.y, .int .i64 U.z] _ _ tA
    have hzF : Below wd.heap.size wd (wB.setRow gt #[.int .i64 U.x, .int .i64 U.y, .int .i64 U.z]) := below_row hzwB hgt
    generalize wB.setRow gt #[.int .i64 U.x, .int .i64 U.y, .int .i64 U.z] = wF at *
    refine hK _ _ ?_
    clear hK K
    try go_frame
    refine Tkc.onlyC (i := 12) rfl (by kernel_rfl) (fun _ => hzF) (by rfl) (fun K hK => ?_)
    go_simp
    refine hK _ _ ?_
    clear hK K
    try go_frame
    refine Tkc.doneC (by kernel_rfl) (fun _ => hzF) ?_
    have HBx : Below w.heap.size w wF := HBdH.out.trans (hzF.mono HBdH.out.size)
    have tFn := tF
    have hwx := hwu2 wF HBx
    have HBxH : Hid (Below w.heap.size w wF) := HBx
    clear HBx tF hzF
    go_wp2_with (first
      | (refine load_wanted rfl 27 _ rfl _ rfl _ _ _ _ (tFn) Tryd.underlying27 rfl (need_info _ rfl) ?_)
      | (go_at_call 38; refine hwx.mono ?_; rintro e wz ⟨⟨gz, rfl, hz⟩, hbz⟩; clear hwx)
      | go_in)
    go_ret2
    first | exact ⟨⟨gz, rfl, hz⟩, HBxH.out.trans (hbz.mono HBxH.out.size)⟩ | exact ⟨⟨gz, rfl, hz⟩, HBxH.out.trans (hbz.mono HBxH.out.size)⟩
end Go.Proofs.YtelepamnlpebgabDoor
