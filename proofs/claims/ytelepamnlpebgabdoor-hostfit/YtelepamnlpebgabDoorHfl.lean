/- HostFit, walked. -/
import Derived.Test.YtelepamnlpebgabDoorHtk
import Derived.Test.YtelepamnlpebgabDoorHis
namespace Go.Proofs.YtelepamnlpebgabDoor
open Go.RowKit Go.Shelf Akm Ndm
set_option linter.unusedSectionVars false
set_option linter.unusedVariables false

set_option maxHeartbeats 4000000 in
set_option maxRecDepth 100000 in
/-- Where Fit has an error, or there is no such host. -/
theorem hostFit_bad (k : Int) (a b : ByteArray) (n : Int) (xs : List Tr) (p : Option Addr) (m cap : Nat) (hm : xs.length = m) (l : List Ht) (q : Option Addr) (nl c : Nat) (hnl : l.length = nl) (hnc : nl ≤ c) (d : N3) (i0 : Int) (w : World) (hA : TabA w) (hv : liesT w (.mk k a b n xs) (.agg #[.int .i64 k, .string a, .string b, .int .i64 n, .slice p m cap])) (hl : Hsts w q l) (he : ftE l (.mk k a b n xs) d ≠ 0 ∨ i0 < 0 ∨ (nl : Int) ≤ i0) :
    Calls Tryd.prog 5 #[.slice q nl c, .agg #[.int .i64 k, .string a, .string b, .int .i64 n, .slice p m cap], .agg #[.int .i64 d.x, .int .i64 d.y, .int .i64 d.z], .int .i64 i0] w fun e w' => e = .returned (.bool true) ∧ Below w.heap.size w w' := by
  obtain ⟨fx0, fa0, HB0⟩ := boxes_an w d (.int .i64 k) (.string a) (.string b) (.int .i64 n) (.slice p m cap)
  have hho := fun w1 (h : Below w.heap.size w w1) => hosts_any w1 (hA.below h (Nat.le_refl _))
  have hfi : ∀ w1 (h : Below w.heap.size w w1), Calls Tryd.prog 13 #[.slice q nl c, .agg #[.int .i64 k, .string a, .string b, .int .i64 n, .slice p m cap], .agg #[.int .i64 d.x, .int .i64 d.y, .int .i64 d.z]] w1 fun e w' => (∃ pf cf, e = .returned (.tuple #[.slice pf (ftL l (.mk k a b n xs) d).length cf, .int .i64 (ftE l (.mk k a b n xs) d)])) ∧ Below w1.heap.size w1 w' := fun w1 h => (Fit_any k a b n xs p m cap hm l q nl c hnl hnc d w1 (hA.below h (Nat.le_refl _)) (liesT_below _ _ hv h) (hl.below h)).mono fun e w' ⟨⟨pf, cf, h1, h2⟩, h3⟩ => ⟨⟨pf, cf, h1⟩, h3⟩
  by_cases h0 : ftE l (.mk k a b n xs) d = 0
  · have he2 : i0 < 0 ∨ (nl : Int) ≤ i0 := he.resolve_left (fun h => h h0)
    rw [h0] at hfi
    generalize (ftL l (.mk k a b n xs) d).length = nF at *
    clear hA hv hl hm hnl hnc h0 he
    by_cases hi0 : i0 < 0
    · clear he2
      go_enter Tryd.func5, Tryd.ntmps5
      go_wp2_with (first
        | (go_at_call 25; refine (hho _ HB0).mono ?_; rintro e w1 ⟨rfl, hb1⟩; have fx1 := (hb1.block _ (Array.getElem?_eq_some_iff.1 fx0).1).trans fx0; have fa1 := (hb1.block _ (Array.getElem?_eq_some_iff.1 fa0).1).trans fa0; have HB1 : Below w.heap.size w w1 := HB0.trans (hb1.mono HB0.size); clear hb1  HB0 fx0 fa0 hho)
        | (refine load_wanted rfl 25 _ rfl _ rfl _ _ _ _ (fx1) Tryd.underlying25 rfl (ask_info _ rfl) ?_)
        | (refine load_wanted rfl 27 _ rfl _ rfl _ _ _ _ (fa1) Tryd.underlying27 rfl (need_info _ rfl) ?_)
        | (go_at_call 13; refine (hfi _ HB1).mono ?_; rintro e w2 ⟨⟨p2, c2, rfl⟩, hb2⟩; have fx2 := (hb2.block _ (Array.getElem?_eq_some_iff.1 fx1).1).trans fx1; have fa2 := (hb2.block _ (Array.getElem?_eq_some_iff.1 fa1).1).trans fa1; have HB2 : Below w.heap.size w w2 := HB1.trans (hb2.mono HB1.size); clear hb2  HB1 fx1 fa1 hfi)
        | go_in)
      go_ret
      exact ⟨by first | rfl | simp, HB2⟩
    · have hi1 : (nl : Int) ≤ i0 := he2.resolve_left hi0
      clear he2
      go_enter Tryd.func5, Tryd.ntmps5
      go_wp2_with (first
        | (go_at_call 25; refine (hho _ HB0).mono ?_; rintro e w1 ⟨rfl, hb1⟩; have fx1 := (hb1.block _ (Array.getElem?_eq_some_iff.1 fx0).1).trans fx0; have fa1 := (hb1.block _ (Array.getElem?_eq_some_iff.1 fa0).1).trans fa0; have HB1 : Below w.heap.size w w1 := HB0.trans (hb1.mono HB0.size); clear hb1  HB0 fx0 fa0 hho)
        | (refine load_wanted rfl 25 _ rfl _ rfl _ _ _ _ (fx1) Tryd.underlying25 rfl (ask_info _ rfl) ?_)
        | (refine load_wanted rfl 27 _ rfl _ rfl _ _ _ _ (fa1) Tryd.underlying27 rfl (need_info _ rfl) ?_)
        | (go_at_call 13; refine (hfi _ HB1).mono ?_; rintro e w2 ⟨⟨p2, c2, rfl⟩, hb2⟩; have fx2 := (hb2.block _ (Array.getElem?_eq_some_iff.1 fx1).1).trans fx1; have fa2 := (hb2.block _ (Array.getElem?_eq_some_iff.1 fa1).1).trans fa1; have HB2 : Below w.heap.size w w2 := HB1.trans (hb2.mono HB1.size); clear hb2  HB1 fx1 fa1 hfi)
        | go_in)
      go_ret
      exact ⟨by first | rfl | simp, HB2⟩
  · have hL : ftL l (.mk k a b n xs) d = [] := by unfold ftL; rw [if_neg h0]
    rw [hL] at hfi
    generalize ftE l (.mk k a b n xs) d = E at *
    have hne : (E != 0) = true := by simpa using h0
    have hn0 : (E == 0) = false := by simpa using h0
    clear hA hv hl hm hnl hnc h0 he hL
    go_enter Tryd.func5, Tryd.ntmps5
    go_wp2_with (first
      | (go_at_call 25; refine (hho _ HB0).mono ?_; rintro e w1 ⟨rfl, hb1⟩; have fx1 := (hb1.block _ (Array.getElem?_eq_some_iff.1 fx0).1).trans fx0; have fa1 := (hb1.block _ (Array.getElem?_eq_some_iff.1 fa0).1).trans fa0; have HB1 : Below w.heap.size w w1 := HB0.trans (hb1.mono HB0.size); clear hb1  HB0 fx0 fa0 hho)
      | (refine load_wanted rfl 25 _ rfl _ rfl _ _ _ _ (fx1) Tryd.underlying25 rfl (ask_info _ rfl) ?_)
      | (refine load_wanted rfl 27 _ rfl _ rfl _ _ _ _ (fa1) Tryd.underlying27 rfl (need_info _ rfl) ?_)
      | (go_at_call 13; refine (hfi _ HB1).mono ?_; rintro e w2 ⟨⟨p2, c2, rfl⟩, hb2⟩; have fx2 := (hb2.block _ (Array.getElem?_eq_some_iff.1 fx1).1).trans fx1; have fa2 := (hb2.block _ (Array.getElem?_eq_some_iff.1 fa1).1).trans fa1; have HB2 : Below w.heap.size w w2 := HB1.trans (hb2.mono HB1.size); clear hb2  HB1 fx1 fa1 hfi)
      | go_in)
    go_ret
    exact ⟨by first | rfl | simp, HB2⟩

set_option maxHeartbeats 8000000 in
set_option maxRecDepth 100000 in
theorem hostFit_ok (k : Int) (a b : ByteArray) (n : Int) (xs : List Tr) (p : Option Addr) (m cap : Nat) (hm : xs.length = m) (l : List Ht) (q : Option Addr) (nl c : Nat) (hnl : l.length = nl) (hnc : nl ≤ c) (d : N3) (i : Nat) (x : Ht) (hx : l[i]? = some x) (w : World) (hA : TabA w) (hv : liesT w (.mk k a b n xs) (.agg #[.int .i64 k, .string a, .string b, .int .i64 n, .slice p m cap])) (hl : Hsts w q l) (h0 : ftE l (.mk k a b n xs) d = 0) :
    Calls Tryd.prog 5 #[.slice q nl c, .agg #[.int .i64 k, .string a, .string b, .int .i64 n, .slice p m cap], .agg #[.int .i64 d.x, .int .i64 d.y, .int .i64 d.z], .int .i64 (i : Int)] w fun e w' => e = .returned (.bool true) ∧ Below w.heap.size w w' := by
  obtain ⟨fx0, fa0, HB0⟩ := boxes_an w d (.int .i64 k) (.string a) (.string b) (.int .i64 n) (.slice p m cap)
  have hin : i < nl := by rw [← hnl]; exact (List.getElem?_eq_some_iff.1 hx).1
  have h30 := hc_30 h0
  obtain ⟨hh0, ht0, _⟩ := ftE_zero h0
  have hho := fun w1 (h : Below w.heap.size w w1) => hosts_any w1 (hA.below h (Nat.le_refl _))
  have hfi : ∀ w1 (h : Below w.heap.size w w1), Calls Tryd.prog 13 #[.slice q nl c, .agg #[.int .i64 k, .string a, .string b, .int .i64 n, .slice p m cap], .agg #[.int .i64 d.x, .int .i64 d.y, .int .i64 d.z]] w1 fun e w' => (∃ pf cf, e = .returned (.tuple #[.slice pf (ftL l (.mk k a b n xs) d).length cf, .int .i64 (ftE l (.mk k a b n xs) d)]) ∧ IntR w' pf (ftL l (.mk k a b n xs) d)) ∧ Below w1.heap.size w1 w' := fun w1 h => (Fit_any k a b n xs p m cap hm l q nl c hnl hnc d w1 (hA.below h (Nat.le_refl _)) (liesT_below _ _ hv h) (hl.below h)).mono fun e w' ⟨⟨pf, cf, h1, h2⟩, h3⟩ => ⟨⟨pf, cf, h1, IntR.of h2⟩, h3⟩
  have hmem : mI (ftL l (.mk k a b n xs) d) (i : Int) = (hvH x.L x.hs (.mk k a b n xs) && decide (lfE x.hs x.us d = 0)) := by
    rw [Bool.eq_iff_iff, mI_mem, ftL_mem h0]
    constructor
    · rintro ⟨h, h1, h2⟩
      rw [hx] at h1
      obtain rfl := Option.some.inj h1
      exact h2
    · intro h
      exact ⟨x, hx, h⟩
  have hrise : (ftL l (.mk k a b n xs) d).Pairwise (· < ·) := by unfold ftL; rw [if_pos h0]; exact (fiG_rise _ _ _ _).1
  have l30 : (ftL l (.mk k a b n xs) d).length ≤ 30 := by
    unfold ftL
    rw [if_pos h0]
    exact Nat.le_trans (fiG_len _ _ _ _) h30
  rw [h0] at hfi
  obtain ⟨E, hE⟩ : ∃ E, lfE x.hs x.us d = E := ⟨_, rfl⟩
  have htk : ∀ w1 (h : Below w.heap.size w w1), Calls Tryd.prog 11 #[.slice q nl c, .int .i64 (i : Int), .agg #[.int .i64 d.x, .int .i64 d.y, .int .i64 d.z]] w1 fun e w' => (∃ pf nf cf, e = .returned (.tuple #[.slice pf nf cf, .int .i64 E])) ∧ Below w1.heap.size w1 w' := fun w1 h => (Take_run l q nl c hnl hnc i x hx d w1 (hA.2.below h (Nat.le_refl _)) (hl.below h) hh0 E hE).mono fun e w' ⟨h1, h2⟩ => ⟨by
    rcases h1 with ⟨_, h1⟩ | ⟨rfl, g, h1, _⟩
    · exact ⟨_, _, _, h1⟩
    · exact ⟨_, _, _, h1⟩, h2⟩
  obtain ⟨g, o, pl, cl, rfl, hg, hx8, hxb, hxm⟩ := host_at hl hx
  obtain ⟨nm, L, hs, us⟩ := x
  obtain ⟨ln, hln⟩ : ∃ m, L.length = m := ⟨_, rfl⟩
  simp only at hmem hE hxb hxm
  have hhd := fun w1 (h : Below w.heap.size w w1) => HoldsH_v k a b n xs p m cap hm nm pl L ln cl hln (by omega) hs us w1 (liesT_below _ _ hv h) (hxb.below h) (hA.below h (Nat.le_refl _))
  rw [ht0] at hhd
  obtain ⟨V, hV⟩ : ∃ V, hvH L hs (.mk k a b n xs) = V := ⟨_, rfl⟩
  rw [hV] at hhd hmem
  rw [hE] at hmem
  generalize ftL l (.mk k a b n xs) d = F at *
  obtain ⟨nF, hnF⟩ : ∃ nF, F.length = nF := ⟨_, rfl⟩
  rw [hnF] at hfi l30
  have hct := fun w1 (pf : Option Addr) (cf : Nat) (h : IntR w1 pf F) => containsI_any F (i : Int) pf nF cf hnF l30 w1 h _ hmem
  have hso := fun w1 (pf : Option Addr) (cf : Nat) (h : IntR w1 pf F) => isSorted_any F pf nF cf hnF l30 hrise w1 h
  have hcellH : Hid (∀ w1, Below w.heap.size w w1 → (w1.cell? ⟨g, o + i * 8, none⟩ = some (.string nm) ∧ w1.cell? ⟨g, o + i * 8 + 1, none⟩ = some (.slice pl ln cl)) ∧ (w1.cell? ⟨g, o + i * 8 + 2, none⟩ = some (.int .i64 hs.x) ∧ w1.cell? ⟨g, o + i * 8 + 3, none⟩ = some (.int .i64 hs.y) ∧ w1.cell? ⟨g, o + i * 8 + 4, none⟩ = some (.int .i64 hs.z)) ∧ (w1.cell? ⟨g, o + i * 8 + 5, none⟩ = some (.int .i64 us.x) ∧ w1.cell? ⟨g, o + i * 8 + 6, none⟩ = some (.int .i64 us.y) ∧ w1.cell? ⟨g, o + i * 8 + 7, none⟩ = some (.int .i64 us.z))) := fun w1 h => by
    have := hx8.below h hg
    unfold cell8 at this
    simp only [hln] at this
    exact this
  have hii : (i : Int) < (nl : Int) := by omega
  have hi0 : ¬ (i : Int) < 0 := by omega
  have hi1 : ¬ (nl : Int) ≤ (i : Int) := by omega
  clear hA hv hl hm hnl hnc h0 hh0 ht0 h30 hx hx8 hxb hxm hg hin hmem hrise l30 hE hV hln hnF
  go_enter Tryd.func5, Tryd.ntmps5
  go_wp2_with (first
    | (go_at_call 25; refine (hho _ HB0).mono ?_; rintro e w1 ⟨rfl, hb1⟩; have fx1 := (hb1.block _ (Array.getElem?_eq_some_iff.1 fx0).1).trans fx0; have fa1 := (hb1.block _ (Array.getElem?_eq_some_iff.1 fa0).1).trans fa0; have HB1 : Below w.heap.size w w1 := HB0.trans (hb1.mono HB0.size); clear hb1  HB0 fx0 fa0 hho)
    | (refine load_wanted rfl 25 _ rfl _ rfl _ _ _ _ (fx1) Tryd.underlying25 rfl (ask_info _ rfl) ?_)
    | (refine load_wanted rfl 27 _ rfl _ rfl _ _ _ _ (fa1) Tryd.underlying27 rfl (need_info _ rfl) ?_)
    | (go_at_call 13; refine (hfi _ HB1).mono ?_; rintro e w2 ⟨⟨p2, c2, rfl, hr2⟩, hb2⟩; have fx2 := (hb2.block _ (Array.getElem?_eq_some_iff.1 fx1).1).trans fx1; have fa2 := (hb2.block _ (Array.getElem?_eq_some_iff.1 fa1).1).trans fa1; have HB2 : Below w.heap.size w w2 := HB1.trans (hb2.mono HB1.size); clear hb2  HB1 fx1 fa1 hfi)
    | (refine load_wanted rfl 27 _ rfl _ rfl _ _ _ _ (fa2) Tryd.underlying27 rfl (need_info _ rfl) ?_)
    | (go_at_call 11; refine (htk _ HB2).mono ?_; rintro e w3 ⟨⟨p3, n3, c3, rfl⟩, hb3⟩; have fx3 := (hb3.block _ (Array.getElem?_eq_some_iff.1 fx2).1).trans fx2; have HB3 : Below w.heap.size w w3 := HB2.trans (hb3.mono HB2.size); have hr3 := hr2.below hb3; clear hb3  HB2 fx2 fa2 htk hr2))
  have HBd : Below w.heap.size w w3.drew := HB3.drew
  have fxd : w3.drew.heap[w.heap.size]? = some (.cells #[.int .i64 k, .string a, .string b, .int .i64 n, .slice p m cap] 25 (0, 0)) := fx3
  have hrd := hr3.below (Below.refl _ w3).drew
  have HBdH : Hid (Below w.heap.size w w3.drew) := HBd
  have hrdH : Hid (IntR w3.drew p2 F) := hrd
  clear HB3 fx3 hr3 HBd hrd
  refine Tkc.region_anyC (C := fun w' => Below w3.drew.heap.size w3.drew w') (s := 11) (by kernel_rfl) ?_
  generalize w3.drew = wd at *
  have hcz : Below wd.heap.size wd wd := Below.refl _ _
  have hcl : ∀ w' : World, Below wd.heap.size wd w' → ((w'.cell? ⟨g, o + i * 8, none⟩ = some (.string nm) ∧ w'.cell? ⟨g, o + i * 8 + 1, none⟩ = some (.slice pl ln cl)) ∧ (w'.cell? ⟨g, o + i * 8 + 2, none⟩ = some (.int .i64 hs.x) ∧ w'.cell? ⟨g, o + i * 8 + 3, none⟩ = some (.int .i64 hs.y) ∧ w'.cell? ⟨g, o + i * 8 + 4, none⟩ = some (.int .i64 hs.z)) ∧ (w'.cell? ⟨g, o + i * 8 + 5, none⟩ = some (.int .i64 us.x) ∧ w'.cell? ⟨g, o + i * 8 + 6, none⟩ = some (.int .i64 us.y) ∧ w'.cell? ⟨g, o + i * 8 + 7, none⟩ = some (.int .i64 us.z))) ∧ (w'.cell? ⟨w.heap.size, 0, none⟩ = some (.int .i64 k) ∧ w'.cell? ⟨w.heap.size, 1, none⟩ = some (.string a) ∧ w'.cell? ⟨w.heap.size, 2, none⟩ = some (.string b) ∧ w'.cell? ⟨w.heap.size, 3, none⟩ = some (.int .i64 n) ∧ w'.cell? ⟨w.heap.size, 4, none⟩ = some (.slice p m cap)) := fun w' h => by
    have hh := (h.block _ (Array.getElem?_eq_some_iff.1 fxd).1).trans fxd
    exact ⟨hcellH.out w' (HBdH.out.trans (h.mono HBdH.out.size)), (cell_of_row _ _ 0 _ _ _ hh).trans rfl, (cell_of_row _ _ 1 _ _ _ hh).trans rfl, (cell_of_row _ _ 2 _ _ _ hh).trans rfl, (cell_of_row _ _ 3 _ _ _ hh).trans rfl, (cell_of_row _ _ 4 _ _ _ hh).trans rfl⟩
  clear fxd
  refine Tkc.takeC (i := 0) (v := .agg #[.int .i64 k, .string a, .string b, .int .i64 n, .slice p m cap]) rfl (by kernel_rfl) (by kernel_rfl) (by kernel_rfl) (fun _ _ _ h => h) (by decide) (by kernel_rfl) (by kernel_rfl) hcz ⟨by rfl, fun wq hw => by obtain ⟨⟨⟨z0, z1⟩, ⟨z2, z3, z4⟩, ⟨z5, z6, z7⟩⟩, ⟨y0, y1, y2, y3, y4⟩⟩ := hcl wq hw; go_simp⟩ ?_
  try go_frame
  refine Tkc.takeC (i := 1) (v := .slice (some ⟨g, o, none⟩) nl c) rfl (by kernel_rfl) (by kernel_rfl) (by kernel_rfl) (fun _ _ _ h => h) (by decide) (by kernel_rfl) (by kernel_rfl) hcz ⟨by rfl, fun wq hw => by obtain ⟨⟨⟨z0, z1⟩, ⟨z2, z3, z4⟩, ⟨z5, z6, z7⟩⟩, ⟨y0, y1, y2, y3, y4⟩⟩ := hcl wq hw; go_simp⟩ ?_
  try go_frame
  refine Tkc.takeC (i := 2) (v := .int .i64 (i : Int)) rfl (by kernel_rfl) (by kernel_rfl) (by kernel_rfl) (fun _ _ _ h => h) (by decide) (by kernel_rfl) (by kernel_rfl) hcz ⟨by rfl, fun wq hw => by obtain ⟨⟨⟨z0, z1⟩, ⟨z2, z3, z4⟩, ⟨z5, z6, z7⟩⟩, ⟨y0, y1, y2, y3, y4⟩⟩ := hcl wq hw; go_simp⟩ ?_
  try go_frame
  refine Tkc.takeC (i := 3) (v := .pointer (some ⟨g, o + i * 8, none⟩)) rfl (by kernel_rfl) (by kernel_rfl) (by kernel_rfl) (fun _ _ _ h => h) (by decide) (by kernel_rfl) (by kernel_rfl) hcz ⟨by rfl, fun wq hw => by obtain ⟨⟨⟨z0, z1⟩, ⟨z2, z3, z4⟩, ⟨z5, z6, z7⟩⟩, ⟨y0, y1, y2, y3, y4⟩⟩ := hcl wq hw; go_simp⟩ ?_
  try go_frame
  refine Tkc.takeC (i := 4) (v := .agg #[.string nm, .slice pl ln cl, .int .i64 hs.x, .int .i64 hs.y, .int .i64 hs.z, .int .i64 us.x, .int .i64 us.y, .int .i64 us.z]) rfl (by kernel_rfl) (by kernel_rfl) (by kernel_rfl) (fun _ _ _ h => h) (by decide) (by kernel_rfl) (by kernel_rfl) hcz ⟨by rfl, fun wq hw => by obtain ⟨⟨⟨z0, z1⟩, ⟨z2, z3, z4⟩, ⟨z5, z6, z7⟩⟩, ⟨y0, y1, y2, y3, y4⟩⟩ := hcl wq hw; go_simp⟩ ?_
  try go_frame
  clear hcl
  refine Tkc.onlyC (i := 5) rfl (by kernel_rfl) (fun _ => hcz) (by rfl) (fun K hK => ?_)
  go_simp
  refine (hhd wd HBdH.out).mono ?_
  rintro e w4 ⟨rfl, hb4⟩
  have hcz4 : Below wd.heap.size wd w4 := hb4
  have HB4H : Hid (Below w.heap.size w w4) := HBdH.out.trans (hb4.mono HBdH.out.size)
  have hr4H : Hid (IntR w4 p2 F) := hrdH.out.below hb4
  clear hhd hb4
  refine hK _ _ ?_
  clear hK K
  try go_frame
  refine Tkc.takeC (i := 6) (v := .tuple #[.bool V, .int .i64 0]) rfl (by kernel_rfl) (by kernel_rfl) (by kernel_rfl) (fun _ _ _ h => h) (by decide) (by kernel_rfl) (by kernel_rfl) hcz4 ⟨by rfl, fun wq hw => by go_simp⟩ ?_
  try go_frame
  refine Tkc.takeC (i := 7) (v := .bool V) rfl (by kernel_rfl) (by kernel_rfl) (by kernel_rfl) (fun _ _ _ h => h) (by decide) (by kernel_rfl) (by kernel_rfl) hcz4 ⟨by rfl, fun wq hw => by go_simp⟩ ?_
  try go_frame
  refine Tkc.takeC (i := 8) (v := .int .i64 0) rfl (by kernel_rfl) (by kernel_rfl) (by kernel_rfl) (fun _ _ _ h => h) (by decide) (by kernel_rfl) (by kernel_rfl) hcz4 ⟨by rfl, fun wq hw => by go_simp⟩ ?_
  try go_frame
  refine Tkc.onlyC (i := 9) rfl (by kernel_rfl) (fun _ => hcz4) (by rfl) (fun K hK => ?_)
  go_simp
  refine hK _ _ ?_
  clear hK K
  try go_frame
  refine Tkc.onlyC (i := 10) rfl (by kernel_rfl) (fun _ => hcz4) (by rfl) (fun K hK => ?_)
  go_simp
  refine hK _ _ ?_
  clear hK K
  try go_frame
  refine Tkc.doneC (by kernel_rfl) (fun _ => hcz4) ?_
  have hct4 := hct w4 p2 c2 hr4H.out
  have hso4 := hso w4 p2 c2 hr4H.out
  clear hct hso hcz hcz4
  cases V <;> by_cases hE0 : E = 0
  all_goals
    first
      | (obtain rfl := hE0; skip)
      | (have hne : (E == 0) = false := by simpa using hE0)
    go_wp2_with (first
      | (go_at_call 30; refine hct4.mono ?_; rintro e w9 ⟨rfl, hw9⟩; have hw8 := hw9.symm; subst hw8; clear hct4 hw9)
      | (go_at_call 31; refine hso4.mono ?_; rintro e w7 ⟨rfl, hb7⟩; clear hso4)
      | go_in)
    go_ret
    exact ⟨by first | rfl | simp, HB4H.out.trans (hb7.mono HB4H.out.size)⟩

theorem hostFit_walk (q : Option Addr) (l : List Ht) (c : Nat) (t : Tr) (v : Value) (d : N3) (i0 : Int) (w : World) (hA : TabA w) (hl : Hsts w q l) (hnc : l.length ≤ c) (hv : liesT w t v) : Calls Tryd.prog 5 #[.slice q l.length c, v, .agg #[.int .i64 d.x, .int .i64 d.y, .int .i64 d.z], .int .i64 i0] w fun e w' => e = .returned (.bool true) ∧ Below w.heap.size w w' := by
  obtain ⟨k, a, b, n, xs⟩ := t
  have hv1 := hv
  rw [liesT] at hv
  obtain ⟨p, cap, rfl, _, _⟩ := hv
  by_cases he : ftE l (.mk k a b n xs) d ≠ 0 ∨ i0 < 0 ∨ (l.length : Int) ≤ i0
  · exact hostFit_bad k a b n xs p _ cap rfl l q _ c rfl hnc d i0 w hA hv1 hl he
  · have h0 : ftE l (.mk k a b n xs) d = 0 := by
      by_cases h : ftE l (.mk k a b n xs) d = 0
      · exact h
      · exact absurd (Or.inl h) he
    obtain ⟨i, rfl⟩ := Int.eq_ofNat_of_zero_le (show 0 ≤ i0 by omega)
    exact hostFit_ok k a b n xs p _ cap rfl l q _ c rfl hnc d i (l[i]'(by omega)) (List.getElem?_eq_getElem _) w hA hv1 hl h0
end Go.Proofs.YtelepamnlpebgabDoor
