/- PathTells: the way that the law looks for itself. -/
import Derived.Test.YtknhbpnbbnjioaaDoorPpw
namespace Go.Proofs.YtknhbpnbbnjioaaDoor
open Go.RowKit Gm Pm
set_option linter.unusedSectionVars false
set_option linter.unusedVariables false

/-- Each thing of a way is the least that it may be. -/
theorem Wy.idm {l : List Ed} {D E L : Nat → Int} {n : Nat} {S : Int} {W : List Nat} (h : Wy l D E L n S W) : (0 < W.length → ∀ j, j < n → E j = 0 → L j = 0 → bn W 0 ≤ j) ∧ ∀ k, k + 1 < W.length → E (bn W k) + D (bn W k) ≠ S ∧ ∀ j, eB l (bn W k) j = true → E j = E (bn W k) + D (bn W k) → L j = E (bn W k) + D (bn W k) → bn W (k + 1) ≤ j := by
  induction h with
  | nil => exact ⟨fun h => by simp at h, fun k hk => by simp at hk⟩
  | first _ _ _ h4 => exact ⟨fun _ => h4, fun k hk => by simp at hk⟩
  | @snoc R i j _ hne hij hE _ hmin ih =>
    refine ⟨fun _ => ?_, fun k hk => ?_⟩
    · rw [bn_left (by simp)]; exact ih.1 (by simp)
    · by_cases e : k + 1 < (R ++ [i]).length
      · rw [bn_left (by omega), bn_left e]; exact ih.2 k e
      · have hk2 : k = R.length := by simp at hk e; omega
        subst hk2
        have e1 : bn (R ++ [i] ++ [j]) R.length = i := by rw [bn_left (by simp), bn_end]
        have e2 : bn (R ++ [i] ++ [j]) (R.length + 1) = j := by
          have := bn_end (R ++ [i]) j
          simpa using this
        rw [e1, e2]
        exact ⟨hne, hmin⟩
theorem bl_rise {p : Nat → Bool} {n s t : Nat} (hst : s < t) (ht : t < (bl p n).length) : bn (bl p n) s < bn (bl p n) t := by
  have hp : (bl p n).Pairwise (· < ·) := List.Pairwise.filter _ List.pairwise_lt_range
  rw [bn_get ht, bn_get (Nat.lt_trans hst ht)]
  exact List.pairwise_iff_getElem.1 hp s t (Nat.lt_trans hst ht) ht hst
/-- The law's own look: the first of the critical things that fits is the way's next. -/
theorem WyD.pick {l : List Ed} {D E L : Nat → Int} {n : Nat} {S : Int} {W : List Nat} (hg : Gr n l) (hac : ∀ i, ¬ Rch (eB l) i i) (hP : Pln l D n E L S) (h : WyD l D E L n S W) {k : Nat} (hk : k < W.length) : ∃ t, t < (bl (crB E L) n).length ∧ bn (bl (crB E L) n) t = bn W k ∧ ∀ s, s < t → ¬ (E (bn (bl (crB E L) n) s) = smW E S W k ∧ ∀ j, k = j + 1 → eB l (bn W j) (bn (bl (crB E L) n) s) = true) := by
  have hm : bn W k ∈ W := bn_mem hk
  have h1 := (h.way.facts hg hac).1 _ hm
  have h2 : bn W k ∈ bl (crB E L) n := mem_bl.2 ⟨h1.1, decide_eq_true h1.2⟩
  obtain ⟨t, ht, e⟩ := List.getElem_of_mem h2
  have et : bn (bl (crB E L) n) t = bn W k := by rw [bn_get ht]; exact e
  refine ⟨t, ht, et, fun s hs => ?_⟩
  rintro ⟨f1, f2⟩
  have hr := bl_rise hs ht
  have hsm : bn (bl (crB E L) n) s ∈ bl (crB E L) n := by rw [bn_get (Nat.lt_trans hs ht)]; exact List.getElem_mem _
  have h3 := mem_bl.1 hsm
  have h4 : E (bn (bl (crB E L) n) s) = L (bn (bl (crB E L) n) s) := of_decide_eq_true h3.2
  have h5 := (h.sums hP).2.2 k hk
  obtain ⟨i1, i2⟩ := h.way.idm
  obtain ⟨x1, x2⟩ := h.way.idx
  rw [et] at hr
  cases k with
  | zero =>
    have e0 := x1 hk
    have := i1 hk _ h3.1 (by omega) (by omega)
    omega
  | succ j =>
    have e0 := (x2 j hk).2
    have := (i2 j hk).2 _ (f2 j rfl) (by omega) (by omega)
    omega
theorem WyD.stop {l : List Ed} {D E L : Nat → Int} {n : Nat} {S : Int} {W : List Nat} (hP : Pln l D n E L S) (h : WyD l D E L n S W) {k : Nat} (hk : k < W.length) : smW E S W (k + 1) = S ↔ k + 1 = W.length := by
  have h5 := (h.sums hP).2.2 k hk
  refine ⟨fun e => ?_, fun e => by rw [e]; exact (h.sums hP).2.1⟩
  refine Classical.byContradiction fun hne => ?_
  exact (h.way.idm.2 k (by omega)).1 (by omega)
end Go.Proofs.YtknhbpnbbnjioaaDoor
