/- slices.IsSorted at rising numbers. -/
import Derived.Test.YtelepamnlpebgabDoorHin
import Derived.Test.YtelepamnlpebgabDoorTkc
namespace Go.Proofs.YtelepamnlpebgabDoor
open Go.RowKit Go.Shelf Akm Ndm
set_option linter.unusedSectionVars false
set_option linter.unusedVariables false

theorem isnanI_any (x : Int) (w : World) : Calls Tryd.prog 78 #[.int .i64 x] w fun e w' => e = .returned (.bool false) ∧ w' = w := by
  go_enter Tryd.func78, Tryd.ntmps78
  go_wp2
  go_ret
  exact ⟨by simp, rfl⟩
set_option maxRecDepth 100000 in
theorem lessI_any (x y : Int) (h : ¬ x < y) (w : World) : Calls Tryd.prog 61 #[.int .i64 x, .int .i64 y] w fun e w' => e = .returned (.bool false) ∧ w' = w := by
  have hn := isnanI_any
  go_enter Tryd.func61, Tryd.ntmps61
  go_wp2_with (first | (go_at_call 78; refine (hn _ _).mono ?_; rintro e w' ⟨rfl, hw9⟩; have hw8 := hw9.symm; subst hw8; clear hw9) | go_in)
  go_ret
  exact ⟨by simp [h], rfl⟩
theorem fiG_rise (t : Tr) (c : N3) : ∀ (l : List Ht) (i : Nat), (fiG t c i l).Pairwise (· < ·) ∧ ∀ x ∈ fiG t c i l, i ≤ x
  | [], i => by simp [fiG]
  | h :: r, i => by
    obtain ⟨h1, h2⟩ := fiG_rise t c r (i + 1)
    rw [fiG]
    split
    · refine ⟨List.pairwise_cons.2 ⟨fun x hx => ?_, h1⟩, fun x hx => ?_⟩
      · have := h2 x hx; omega
      · rcases List.mem_cons.1 hx with e | e
        · omega
        · have := h2 x e; omega
    · exact ⟨h1, fun x hx => by have := h2 x hx; omega⟩

set_option maxHeartbeats 4000000 in
set_option maxRecDepth 100000 in
theorem isSorted_any (F : List Nat) (p : Option Addr) (n c : Nat) (hn : F.length = n) (h30 : n ≤ 30) (hF : F.Pairwise (· < ·)) (w : World) (h : IntR w p F) : Calls Tryd.prog 31 #[.slice p n c] w fun e w' => e = .returned (.bool true) ∧ Below w.heap.size w w' := by
  have hH : Hid (∀ w1, Below w.heap.size w w1 → IntR w1 p F) := fun w1 hb => h.below hb
  have hnH : Hid (F.length = n) := hn
  have h30i : (n : Int) ≤ 30 := by omega
  have hFH : Hid (∀ (j a b : Nat), F[j]? = some a → F[j + 1]? = some b → a < b) := fun j a b ha hb => by
    have h1 := (List.getElem?_eq_some_iff.1 ha)
    have h2 := (List.getElem?_eq_some_iff.1 hb)
    have := List.pairwise_iff_getElem.1 hF j (j + 1) h1.1 h2.1 (by omega)
    rw [h1.2, h2.2] at this
    exact this
  clear h hn h30 hF
  go_enter Tryd.func31, Tryd.ntmps31
  go_wp2
  go_loopw [3] (fun iv wr => ∃ j : Int, iv = .int .i64 j ∧ j < (n : Int) ∧ -1 ≤ j ∧ Hid (Below w.heap.size w wr)) (fun iv _ => (intOf iv).toNat)
  case atStart => exact ⟨(n : Int) - 1, by first | rfl | simp, by omega, by omega, Below.refl _ _⟩
  case round =>
    obtain ⟨j, rfl, hj, hj1, hbl⟩ := hrel
    by_cases hj0 : 0 < j
    · obtain ⟨k, rfl⟩ : ∃ k : Nat, j = ((k + 1 : Nat) : Int) := ⟨(j - 1).toNat, by omega⟩
      obtain ⟨a, ha⟩ : ∃ x, F[k]? = some x := ⟨F[k]'(by have := hnH.out; omega), List.getElem?_eq_getElem _⟩
      obtain ⟨b, hb⟩ : ∃ x, F[k + 1]? = some x := ⟨F[k + 1]'(by have := hnH.out; omega), List.getElem?_eq_getElem _⟩
      have hab := hFH.out k a b ha hb
      have hless := fun w1 => lessI_any (b : Int) (a : Int) (by omega) w1
      have hdl : Hid (Below w.heap.size w wr.drew) := hbl.out.drew
      have hkn : (k : Int) + 1 < (n : Int) := by omega
      have hk30 : (k : Int) ≤ 30 := by omega
      have hkc : ¬ (k : Int) < 0 := by omega
      have hRH : Hid (∀ w1, Below w.heap.size w w1 → ∃ g, p = some ⟨g, 0, none⟩ ∧ w1.cell? ⟨g, k, none⟩ = some (.int .i64 (a : Int)) ∧ w1.cell? ⟨g, k + 1, none⟩ = some (.int .i64 (b : Int))) := fun w1 hb1 => by
        rcases hH.out w1 hb1 with e | ⟨g, e1, _, e2⟩
        · rw [e] at ha; simp at ha
        · exact ⟨g, e1, e2 k a ha, e2 (k + 1) b hb⟩
      obtain ⟨g, rfl, _, _⟩ := hRH.out _ hdl.out
      clear ha hb hab hj hj1 hj0 hbl
      go_wp2
      refine Tkc.region_anyC (C := fun w' => w' = wr.drew) (s := 10) (by kernel_rfl) ?_
      have hdlw := hdl.out
      have hcl0 := hRH.out _ hdlw
      obtain ⟨g2, eg, hca, hcb⟩ := hcl0
      obtain rfl : g = g2 := by simpa using eg
      clear eg hRH
      generalize wr.drew = wd at *
      have hcz : wd = wd := rfl
      have hcl : ∀ w' : World, w' = wd → w'.cell? ⟨g, k, none⟩ = some (.int .i64 (a : Int)) ∧ w'.cell? ⟨g, k + 1, none⟩ = some (.int .i64 (b : Int)) := fun w' h => by rw [h]; exact ⟨hca, hcb⟩
      clear hca hcb hdlw
      refine Tkc.takeC (i := 0) (v := .slice (some ⟨g, 0, none⟩) n c) rfl (by kernel_rfl) (by kernel_rfl) (by kernel_rfl) (fun _ _ _ h => h) (by decide) (by kernel_rfl) (by kernel_rfl) hcz ⟨by rfl, fun wq hw => by obtain ⟨z0, z1⟩ := hcl wq hw; go_simp⟩ ?_
      try go_frame
      refine Tkc.takeC (i := 1) (v := .int .i64 ((k : Int) + 1)) rfl (by kernel_rfl) (by kernel_rfl) (by kernel_rfl) (fun _ _ _ h => h) (by decide) (by kernel_rfl) (by kernel_rfl) hcz ⟨by rfl, fun wq hw => by obtain ⟨z0, z1⟩ := hcl wq hw; go_simp⟩ ?_
      try go_frame
      refine Tkc.takeC (i := 2) (v := .pointer (some ⟨g, k + 1, none⟩)) rfl (by kernel_rfl) (by kernel_rfl) (by kernel_rfl) (fun _ _ _ h => h) (by decide) (by kernel_rfl) (by kernel_rfl) hcz ⟨by rfl, fun wq hw => by obtain ⟨z0, z1⟩ := hcl wq hw; go_simp; intro hh; exfalso; omega⟩ ?_
      try go_frame
      refine Tkc.takeC (i := 3) (v := .int .i64 (b : Int)) rfl (by kernel_rfl) (by kernel_rfl) (by kernel_rfl) (fun _ _ _ h => h) (by decide) (by kernel_rfl) (by kernel_rfl) hcz ⟨by rfl, fun wq hw => by obtain ⟨z0, z1⟩ := hcl wq hw; go_simp⟩ ?_
      try go_frame
      refine Tkc.takeC (i := 4) (v := .slice (some ⟨g, 0, none⟩) n c) rfl (by kernel_rfl) (by kernel_rfl) (by kernel_rfl) (fun _ _ _ h => h) (by decide) (by kernel_rfl) (by kernel_rfl) hcz ⟨by rfl, fun wq hw => by obtain ⟨z0, z1⟩ := hcl wq hw; go_simp⟩ ?_
      try go_frame
      refine Tkc.takeC (i := 5) (v := .int .i64 ((k : Int) + 1)) rfl (by kernel_rfl) (by kernel_rfl) (by kernel_rfl) (fun _ _ _ h => h) (by decide) (by kernel_rfl) (by kernel_rfl) hcz ⟨by rfl, fun wq hw => by obtain ⟨z0, z1⟩ := hcl wq hw; go_simp⟩ ?_
      try go_frame
      refine Tkc.takeC (i := 6) (v := .int .i64 (k : Int)) rfl (by kernel_rfl) (by kernel_rfl) (by kernel_rfl) (fun _ _ _ h => h) (by decide) (by kernel_rfl) (by kernel_rfl) hcz ⟨by rfl, fun wq hw => by go_simp; rw [IntKind.wrap_i64]; omega⟩ ?_
      try go_frame
      refine Tkc.takeC (i := 7) (v := .pointer (some ⟨g, k, none⟩)) rfl (by kernel_rfl) (by kernel_rfl) (by kernel_rfl) (fun _ _ _ h => h) (by decide) (by kernel_rfl) (by kernel_rfl) hcz ⟨by rfl, fun wq hw => by obtain ⟨z0, z1⟩ := hcl wq hw; go_simp; intro hh; exfalso; omega⟩ ?_
      try go_frame
      refine Tkc.takeC (i := 8) (v := .int .i64 (a : Int)) rfl (by kernel_rfl) (by kernel_rfl) (by kernel_rfl) (fun _ _ _ h => h) (by decide) (by kernel_rfl) (by kernel_rfl) hcz ⟨by rfl, fun wq hw => by obtain ⟨z0, z1⟩ := hcl wq hw; go_simp⟩ ?_
      try go_frame
      clear hcl
      refine Tkc.onlyC (i := 9) rfl (by kernel_rfl) (fun _ => hcz) (by rfl) (fun K hK => ?_)
      go_simp
      refine (hless wd).mono ?_
      rintro e w9 ⟨rfl, hw9⟩
      have hw8 := hw9.symm
      subst hw8
      clear hw9 hless
      refine hK _ _ ?_
      clear hK K
      try go_frame
      refine Tkc.doneC (by kernel_rfl) (fun _ => rfl) ?_
      go_wp2
      refine ⟨⟨(k : Int), by first | rfl | simp, by omega, by omega, hdl⟩, ?_⟩
      simp [intOf]
    · have hj2 : ¬ (0 : Int) < j := hj0
      go_wp2
      go_ret
      exact ⟨rfl, hbl.out⟩
end Go.Proofs.YtelepamnlpebgabDoor
