/- What was taken is given back: the mathematics; slices.Equal at labels, sameHosts: walked. -/
import Derived.Test.YtelepamnlpebgabDoorHtk
namespace Go.Proofs.YtelepamnlpebgabDoor
open Go.RowKit Go.Shelf Go.Deep Akm Ndm
set_option linter.unusedSectionVars false
set_option linter.unusedVariables false

theorem sE_zero {a b : N3} (h : sE a b = 0) : okN a = true ∧ okN b = true ∧ ftN b a = true ∧ sR a b = subN a b := by
  unfold sE at h
  by_cases e1 : (okN a && okN b) = true
  · rw [if_pos e1] at h
    by_cases e2 : ftN b a = true
    · simp only [Bool.and_eq_true] at e1
      refine ⟨e1.1, e1.2, e2, ?_⟩
      unfold sR
      rw [if_pos (by simp [e1.1, e1.2]), if_pos e2]
    · rw [if_neg e2] at h; cases h
  · rw [if_neg e1] at h; cases h
theorem sE_mk {a b : N3} (h1 : okN a = true) (h2 : okN b = true) (h3 : ftN b a = true) : sE a b = 0 ∧ sR a b = subN a b := by
  unfold sE sR
  rw [if_pos (by simp [h1, h2]), if_pos h3, if_pos (by simp [h1, h2]), if_pos h3]
  exact ⟨rfl, rfl⟩
theorem n3_eq {a b : N3} (h1 : a.x = b.x) (h2 : a.y = b.y) (h3 : a.z = b.z) : a = b := by
  cases a; cases b; simp only at h1 h2 h3; subst h1 h2 h3; rfl
/-- What was taken off what is free. -/
theorem take_math {hs us d : N3} (h0 : sE hs us = 0) (h1 : lfE hs us d = 0) : aE us d = 0 ∧ sE hs (aR us d) = 0 ∧ sE (aR us d) d = 0 ∧ sR (aR us d) d = us ∧ aE (sR hs (aR us d)) d = 0 ∧ aR (sR hs (aR us d)) d = sR hs us := by
  obtain ⟨o1, o2, f1, r1⟩ := sE_zero h0
  unfold lfE at h1
  rw [if_neg (by simpa using h0), r1] at h1
  obtain ⟨o3, o4, f2, r2⟩ := sE_zero h1
  have k1 := okN_iff.1 o1
  have k2 := okN_iff.1 o2
  have k3 := okN_iff.1 o4
  have g1 := ftN_iff.1 f1
  have g2 := ftN_iff.1 f2
  simp only [subN] at g2
  have ou : okN (addN us d) = true := okN_iff.2 (by simp only [addN]; omega)
  have eu : aR us d = addN us d ∧ aE us d = 0 := by
    unfold aR aE
    rw [if_pos (by simp [o2, o4]), if_pos ou, if_pos (by simp [o2, o4]), if_pos ou]
    exact ⟨rfl, rfl⟩
  rw [eu.1]
  obtain ⟨s1, s2⟩ := sE_mk o1 ou (ftN_iff.2 (by simp only [addN]; omega))
  obtain ⟨s3, s4⟩ := sE_mk ou o4 (ftN_iff.2 (by simp only [addN]; omega))
  rw [s2]
  have os : okN (subN hs (addN us d)) = true := okN_iff.2 (by simp only [addN, subN]; omega)
  have oa : okN (addN (subN hs (addN us d)) d) = true := okN_iff.2 (by simp only [addN, subN]; omega)
  refine ⟨eu.2, s1, s3, ?_, ?_, ?_⟩
  · rw [s4]
    exact n3_eq (by simp only [addN, subN]; omega) (by simp only [addN, subN]; omega) (by simp only [addN, subN]; omega)
  · unfold aE
    rw [if_pos (by simp [os, o4]), if_pos oa]
  · unfold aR
    rw [if_pos (by simp [os, o4]), if_pos oa, r1]
    exact n3_eq (by simp only [addN, subN]; omega) (by simp only [addN, subN]; omega) (by simp only [addN, subN]; omega)
theorem updU_eq {l : List Ht} {i : Nat} {x : Ht} (hx : l[i]? = some x) (u : N3) : updU l i u = l.set i { x with us := u } := by unfold updU; rw [hx]
theorem updU_at {l : List Ht} {i : Nat} {x : Ht} (hx : l[i]? = some x) (u : N3) : (updU l i u)[i]? = some { x with us := u } := by
  rw [updU_eq hx, List.getElem?_set, if_pos rfl, if_pos (List.getElem?_eq_some_iff.1 hx).1]
theorem updU_other {l : List Ht} {i k : Nat} {x : Ht} (hx : l[i]? = some x) (u : N3) (h : k ≠ i) : (updU l i u)[k]? = l[k]? := by
  rw [updU_eq hx, List.getElem?_set, if_neg (Ne.symm h)]
theorem updU_len {l : List Ht} {i : Nat} {u : N3} : (updU l i u).length = l.length := by
  unfold updU
  cases l[i]? <;> simp
theorem updU_back {l : List Ht} {i : Nat} {x : Ht} (hx : l[i]? = some x) (u : N3) : updU (updU l i u) i x.us = l := by
  rw [updU_eq (updU_at hx u), updU_eq hx, List.set_set]
  apply List.ext_getElem?
  intro k
  rw [List.getElem?_set]
  by_cases e : i = k
  · subst e
    rw [if_pos rfl, if_pos (List.getElem?_eq_some_iff.1 hx).1, hx]
  · rw [if_neg e]
/-- Hosts that differ in what is Used alone. -/
def Alk (h h' : Ht) : Prop := h'.nm = h.nm ∧ h'.L = h.L ∧ sE h'.hs h'.us = 0
theorem any_nm (b : ByteArray) : ∀ (l l' : List Ht), l.map (·.nm) = l'.map (·.nm) → (l.any fun y => kqB b y.nm) = (l'.any fun y => kqB b y.nm)
  | [], [], _ => rfl
  | x :: r, y :: s, h => by
    simp only [List.map_cons, List.cons.injEq] at h
    rw [List.any_cons, List.any_cons, h.1, any_nm b r s h.2]
  | [], _ :: _, h => by simp at h
  | _ :: _, [], h => by simp at h
theorem hcG_alk : ∀ (l l' pre pre' : List Ht), pre.map (·.nm) = pre'.map (·.nm) → l.length = l'.length → (∀ (k : Nat) (h h' : Ht), l[k]? = some h → l'[k]? = some h' → Alk h h') → hcG pre l = 0 → hcG pre' l' = 0
  | [], [], _, _, _, _, _, _ => by rw [hcG]
  | x :: r, y :: s, pre, pre', hp, hl, ha, h => by
    have a0 := ha 0 x y rfl rfl
    rw [hcG] at h ⊢
    by_cases e : hoE pre x = 0
    · rw [if_neg (by simpa using e)] at h
      have e' : hoE pre' y = 0 := by
        obtain ⟨a1, a2, a3⟩ := a0
        unfold hoE at e ⊢
        rw [a1, a2, ← any_nm x.nm pre pre' hp]
        by_cases h1 : lbB x.nm.data.toList = false
        · rw [if_pos h1] at e; cases e
        · rw [if_neg h1] at e ⊢
          by_cases h2 : (pre.any fun z => kqB x.nm z.nm) = true
          · rw [if_pos h2] at e; cases e
          · rw [if_neg h2] at e ⊢
            by_cases h3 : lblE x.L = 0
            · rw [if_neg (by simpa using h3)]; exact a3
            · rw [if_pos h3] at e; exact absurd e h3
      rw [if_neg (by simpa using e')]
      refine hcG_alk r s (pre ++ [x]) (pre' ++ [y]) (by simp [hp, a0.1]) (by simpa using hl) (fun k p q h1 h2 => ha (k + 1) p q (by simpa using h1) (by simpa using h2)) h
    · rw [if_pos e] at h
      exact absurd h e
  | [], _ :: _, _, _, _, hl, _, _ => by simp at hl
  | _ :: _, [], _, _, _, hl, _, _ => by simp at hl
theorem hcE_upd {l : List Ht} (h0 : hcE l = 0) {i : Nat} {x : Ht} (hx : l[i]? = some x) {u : N3} (hu : sE x.hs u = 0) : hcE (updU l i u) = 0 := by
  have h30 := hc_len h0
  have hone := fun h hm => (hc_one h0 (h := h) hm).2
  unfold hcE at h0 ⊢
  rw [if_neg (by omega)] at h0
  rw [if_neg (by rw [updU_len]; omega)]
  refine hcG_alk l _ [] [] rfl updU_len.symm ?_ h0
  intro k h h' hk hk'
  by_cases e : k = i
  · subst e
    rw [hx] at hk
    rw [updU_at hx] at hk'
    obtain rfl := Option.some.inj hk
    obtain rfl := Option.some.inj hk'
    exact ⟨rfl, rfl, hu⟩
  · rw [updU_other hx u e, hk] at hk'
    obtain rfl := Option.some.inj hk'
    exact ⟨rfl, rfl, hone _ (List.mem_of_getElem? hk)⟩

set_option maxHeartbeats 400000 in
set_option maxRecDepth 100000 in
theorem equalLb_any (L : List (ByteArray × ByteArray)) (n : Nat) (hn : L.length = n) (hni : (n : Int) ≤ 9223372036854775807) (p p' : Option Addr) (c c' : Nat) (w : World) (h : Lbs w p L) (h' : Lbs w p' L) : Calls Tryd.prog 53 #[.slice p n c, .slice p' n c'] w fun e w' => e = .returned (.bool true) ∧ Below w.heap.size w w' := by
  have hH : Hid (Lbs w p L) := h
  have hH' : Hid (Lbs w p' L) := h'
  have hnH : Hid (L.length = n) := hn
  clear h h' hn
  go_enter Tryd.func53, Tryd.ntmps53
  go_wp2
  go_loopw [13] (fun iv wr => ∃ j : Nat, iv = .int .i64 j ∧ j ≤ n ∧ Hid (Below w.heap.size w wr)) (fun iv _ => n - (intOf iv).toNat)
  case atStart => exact ⟨0, rfl, Nat.zero_le _, Below.refl _ _⟩
  case round =>
    obtain ⟨j, rfl, hj, hbl⟩ := hrel
    by_cases hjl : j < n
    · obtain ⟨x, hx⟩ : ∃ x, L[j]? = some x := ⟨L[j]'(by rw [hnH.out]; exact hjl), List.getElem?_eq_getElem _⟩
      obtain ⟨g, o, rfl, hg, hc⟩ := hH.out.resolve_left (fun e => by have := hnH.out; rw [e] at this; simp at this; omega)
      obtain ⟨g', o', rfl, hg', hc'⟩ := hH'.out.resolve_left (fun e => by have := hnH.out; rw [e] at this; simp at this; omega)
      have hdl : Hid (Below w.heap.size w wr.drew) := hbl.out.drew
      have hb := hdl.out
      have q0 := (hb.cell (p := ⟨g, o + j * 2, none⟩) hg).trans (hc j x hx).1
      have q1 := (hb.cell (p := ⟨g, o + j * 2 + 1, none⟩) hg).trans (hc j x hx).2
      have q2 := (hb.cell (p := ⟨g', o' + j * 2, none⟩) hg').trans (hc' j x hx).1
      have q3 := (hb.cell (p := ⟨g', o' + j * 2 + 1, none⟩) hg').trans (hc' j x hx).2
      obtain ⟨key, val⟩ := x
      have hlt : (j : Int) < (n : Int) := by omega
      have hjH : Hid (j < n) := hjl
      clear hx hc hc' hb hj hjl hbl
      go_wp2
      refine Tkc.region_anyC (C := fun w' => w' = wr.drew) (s := 9) (by kernel_rfl) ?_
      generalize wr.drew = wd at *
      have hcz : wd = wd := rfl
      have hcl : ∀ w' : World, w' = wd → w'.cell? ⟨g, o + j * 2, none⟩ = some (.string key) ∧ w'.cell? ⟨g, o + j * 2 + 1, none⟩ = some (.string val) ∧ w'.cell? ⟨g', o' + j * 2, none⟩ = some (.string key) ∧ w'.cell? ⟨g', o' + j * 2 + 1, none⟩ = some (.string val) := fun w' h => by rw [h]; exact ⟨q0, q1, q2, q3⟩
      clear q0 q1 q2 q3
      refine Tkc.takeC (i := 0) (v := .slice (some ⟨g, o, none⟩) n c) rfl (by kernel_rfl) (by kernel_rfl) (by kernel_rfl) (fun _ _ _ h => h) (by decide) (by kernel_rfl) (by kernel_rfl) hcz ⟨by rfl, fun wq hw => by obtain ⟨z0, z1, z2, z3⟩ := hcl wq hw; go_simp⟩ ?_
      try go_frame
      refine Tkc.takeC (i := 1) (v := .int .i64 (j : Int)) rfl (by kernel_rfl) (by kernel_rfl) (by kernel_rfl) (fun _ _ _ h => h) (by decide) (by kernel_rfl) (by kernel_rfl) hcz ⟨by rfl, fun wq hw => by obtain ⟨z0, z1, z2, z3⟩ := hcl wq hw; go_simp⟩ ?_
      try go_frame
      refine Tkc.takeC (i := 2) (v := .pointer (some ⟨g, o + j * 2, none⟩)) rfl (by kernel_rfl) (by kernel_rfl) (by kernel_rfl) (fun _ _ _ h => h) (by decide) (by kernel_rfl) (by kernel_rfl) hcz ⟨by rfl, fun wq hw => by obtain ⟨z0, z1, z2, z3⟩ := hcl wq hw; go_simp⟩ ?_
      try go_frame
      refine Tkc.takeC (i := 3) (v := .agg #[.string key, .string val]) rfl (by kernel_rfl) (by kernel_rfl) (by kernel_rfl) (fun _ _ _ h => h) (by decide) (by kernel_rfl) (by kernel_rfl) hcz ⟨by rfl, fun wq hw => by obtain ⟨z0, z1, z2, z3⟩ := hcl wq hw; go_simp⟩ ?_
      try go_frame
      refine Tkc.takeC (i := 4) (v := .slice (some ⟨g', o', none⟩) n c') rfl (by kernel_rfl) (by kernel_rfl) (by kernel_rfl) (fun _ _ _ h => h) (by decide) (by kernel_rfl) (by kernel_rfl) hcz ⟨by rfl, fun wq hw => by obtain ⟨z0, z1, z2, z3⟩ := hcl wq hw; go_simp⟩ ?_
      try go_frame
      refine Tkc.takeC (i := 5) (v := .int .i64 (j : Int)) rfl (by kernel_rfl) (by kernel_rfl) (by kernel_rfl) (fun _ _ _ h => h) (by decide) (by kernel_rfl) (by kernel_rfl) hcz ⟨by rfl, fun wq hw => by obtain ⟨z0, z1, z2, z3⟩ := hcl wq hw; go_simp⟩ ?_
      try go_frame
      refine Tkc.takeC (i := 6) (v := .pointer (some ⟨g', o' + j * 2, none⟩)) rfl (by kernel_rfl) (by kernel_rfl) (by kernel_rfl) (fun _ _ _ h => h) (by decide) (by kernel_rfl) (by kernel_rfl) hcz ⟨by rfl, fun wq hw => by obtain ⟨z0, z1, z2, z3⟩ := hcl wq hw; go_simp⟩ ?_
      try go_frame
      refine Tkc.takeC (i := 7) (v := .agg #[.string key, .string val]) rfl (by kernel_rfl) (by kernel_rfl) (by kernel_rfl) (fun _ _ _ h => h) (by decide) (by kernel_rfl) (by kernel_rfl) hcz ⟨by rfl, fun wq hw => by obtain ⟨z0, z1, z2, z3⟩ := hcl wq hw; go_simp⟩ ?_
      try go_frame
      clear hcl
      refine Tkc.onlyC (i := 8) rfl (by kernel_rfl) (fun _ => hcz) (by rfl) (fun K hK => ?_)
      go_simp
      refine hK _ _ ?_
      clear hK K
      try go_frame
      refine Tkc.doneC (by kernel_rfl) (fun _ => rfl) ?_
      go_wp2
      refine ⟨⟨j + 1, by first | rfl | simp, hjH.out, hdl⟩, ?_⟩
      have := hjH.out
      simp [intOf]
      omega
    · have hlt : ¬ (j : Int) < (n : Int) := by omega
      go_wp2
      go_ret
      exact ⟨rfl, hbl.out⟩

set_option maxHeartbeats 400000 in
set_option maxRecDepth 100000 in
theorem same1_any (nm : ByteArray) (L : List (ByteArray × ByteArray)) (ln : Nat) (hln : L.length = ln) (hni : (ln : Int) ≤ 9223372036854775807) (pl pl' : Option Addr) (cl cl' : Nat) (hs us : N3) (w : World) (h : Lbs w pl L) (h' : Lbs w pl' L) : Calls Tryd.prog 52 #[.agg #[.string nm, .slice pl ln cl, .int .i64 hs.x, .int .i64 hs.y, .int .i64 hs.z, .int .i64 us.x, .int .i64 us.y, .int .i64 us.z], .agg #[.string nm, .slice pl' ln cl', .int .i64 hs.x, .int .i64 hs.y, .int .i64 hs.z, .int .i64 us.x, .int .i64 us.y, .int .i64 us.z]] w fun e w' => e = .returned (.bool true) ∧ Below w.heap.size w w' := by
  have hB : Below w.heap.size w ((w.alloc (.cells #[.string nm, .slice pl ln cl, .int .i64 hs.x, .int .i64 hs.y, .int .i64 hs.z, .int .i64 us.x, .int .i64 us.y, .int .i64 us.z] 30)).alloc (.cells #[.string nm, .slice pl' ln cl', .int .i64 hs.x, .int .i64 hs.y, .int .i64 hs.z, .int .i64 us.x, .int .i64 us.y, .int .i64 us.z] 30)) := ((Below.refl _ _).alloc (Nat.le_refl _) _).alloc (by simp) _
  have heq := equalLb_any L ln hln hni pl pl' cl cl' _ (h.below hB) (h'.below hB)
  have hBH : Hid (Below w.heap.size w _) := hB
  clear h h' hB hln
  go_enter Tryd.func52, Tryd.ntmps52
  go_wp2_with (first
    | (go_at_call 53; refine heq.mono ?_; rintro e w3 ⟨rfl, hb3⟩; clear heq)
    | go_in)
  go_ret
  exact ⟨by first | rfl | simp, hBH.out.trans (hb3.mono hBH.out.size)⟩
end Go.Proofs.YtelepamnlpebgabDoor
