/- The thin graph has the same things behind each other. -/
import Derived.Test.YtknhbpnbbnjioaaDoorGth
import Derived.Test.YtknhbpnbbnjioaaDoorGrm
namespace Go.Proofs.YtknhbpnbbnjioaaDoor
open Go.RowKit Gm
set_option linter.unusedSectionVars false

theorem flt_le {p q : Nat → Bool} (h : ∀ x, p x = true → q x = true) : ∀ L : List Nat, (L.filter p).length ≤ (L.filter q).length
  | [] => Nat.le_refl _
  | x :: r => by
    have ih := flt_le h r
    by_cases hp : p x = true
    · rw [List.filter_cons_of_pos hp, List.filter_cons_of_pos (h x hp)]
      simpa using ih
    · rw [List.filter_cons_of_neg hp]
      by_cases hq : q x = true
      · rw [List.filter_cons_of_pos hq]; simp; omega
      · rw [List.filter_cons_of_neg hq]; exact ih
theorem flt_lt {p q : Nat → Bool} (h : ∀ x, p x = true → q x = true) {t : Nat} (hq : q t = true) (hp : ¬ p t = true) : ∀ L : List Nat, t ∈ L → (L.filter p).length < (L.filter q).length
  | x :: r, hm => by
    by_cases e : x = t
    · subst e
      rw [List.filter_cons_of_neg hp, List.filter_cons_of_pos hq]
      have := flt_le h r
      simp; omega
    · have ih := flt_lt h hq hp r (by simpa [Ne.symm e] using hm)
      by_cases hp' : p x = true
      · rw [List.filter_cons_of_pos hp', List.filter_cons_of_pos (h x hp')]
        simpa using ih
      · rw [List.filter_cons_of_neg hp']
        by_cases hq' : q x = true
        · rw [List.filter_cons_of_pos hq']; simp; omega
        · rw [List.filter_cons_of_neg hq']; exact ih
/-- How many things stand between two. -/
def btw (l : List Ed) (i j : Nat) : Nat := (bl (fun t => wB l i t && wB l t j) 60).length
theorem tn_eB {l : List Ed} {i j : Nat} (h : tn l i j = true) : eB l i j = true := by
  unfold tn at h
  rw [Bool.and_eq_true] at h
  exact h.1
theorem tn_no {l : List Ed} {n : Nat} (hg : Gr n l) {i j t : Nat} (h : tn l i j = true) (h1 : Rch (eB l) i t) (h2 : Rch (eB l) t j) : False := by
  unfold tn at h
  rw [Bool.and_eq_true, Bool.not_eq_true', List.any_eq_false] at h
  have := rch_lt hg h1
  have := hg.n60
  exact h.2 t (mem_bl.2 ⟨by omega, (wB_iff hg).2 h1⟩) ((wB_iff hg).2 h2)
theorem rch_thin {l : List Ed} {n : Nat} (hg : Gr n l) (hac : ∀ i, ¬ Rch (eB l) i i) : ∀ d i j, btw l i j ≤ d → Rch (eB l) i j → Rch (tn l) i j := by
  intro d
  induction d with
  | zero =>
    intro i j hd h
    cases h with
    | one e =>
      refine .one ?_
      unfold tn
      rw [Bool.and_eq_true, Bool.not_eq_true', List.any_eq_false]
      refine ⟨e, fun t ht hw => ?_⟩
      have hm := mem_bl.1 ht
      have : t ∈ bl (fun t => wB l i t && wB l t j) 60 := mem_bl.2 ⟨hm.1, by rw [hm.2, hw]; rfl⟩
      have := List.length_pos_of_mem this
      unfold btw at hd
      omega
    | more e r =>
      rename_i t
      have h1 := (hg.lt e).2
      have h2 := hg.n60
      have : t ∈ bl (fun t => wB l i t && wB l t j) 60 := mem_bl.2 ⟨by omega, by rw [(wB_iff hg).2 (.one e), (wB_iff hg).2 r]; rfl⟩
      have := List.length_pos_of_mem this
      unfold btw at hd
      omega
  | succ d ih =>
    intro i j hd h
    by_cases hb : ∃ t, Rch (eB l) i t ∧ Rch (eB l) t j
    · obtain ⟨t, h1, h2⟩ := hb
      have h60 := rch_lt hg h1
      have hn := hg.n60
      have hm : t ∈ List.range 60 := by simp; omega
      have htt : ¬ wB l t t = true := fun e => hac t ((wB_iff hg).1 e)
      have hq : (wB l i t && wB l t j) = true := by rw [(wB_iff hg).2 h1, (wB_iff hg).2 h2]; rfl
      have b1 : btw l i t < btw l i j := flt_lt (fun x hx => by
        rw [Bool.and_eq_true] at hx ⊢
        exact ⟨hx.1, (wB_iff hg).2 (rch_tr ((wB_iff hg).1 hx.2) h2)⟩) hq (fun e => by rw [Bool.and_eq_true] at e; exact htt e.2) _ hm
      have b2 : btw l t j < btw l i j := flt_lt (fun x hx => by
        rw [Bool.and_eq_true] at hx ⊢
        exact ⟨(wB_iff hg).2 (rch_tr h1 ((wB_iff hg).1 hx.1)), hx.2⟩) hq (fun e => by rw [Bool.and_eq_true] at e; exact htt e.1) _ hm
      exact rch_tr (ih i t (by omega) h1) (ih t j (by omega) h2)
    · cases h with
      | one e =>
        refine .one ?_
        unfold tn
        rw [Bool.and_eq_true, Bool.not_eq_true', List.any_eq_false]
        exact ⟨e, fun t ht hw => hb ⟨t, (wB_iff hg).1 (mem_bl.1 ht).2, (wB_iff hg).1 hw⟩⟩
      | more e r => exact absurd ⟨_, .one e, r⟩ hb
theorem rch_thin_iff {l : List Ed} {n : Nat} (hg : Gr n l) (hac : ∀ i, ¬ Rch (eB l) i i) {i j : Nat} : Rch (tn l) i j ↔ Rch (eB l) i j := by
  constructor
  · intro h
    induction h with
    | one e => exact .one (tn_eB e)
    | more e _ ih => exact .more (tn_eB e) ih
  · exact rch_thin hg hac _ i j (Nat.le_refl _)
end Go.Proofs.YtknhbpnbbnjioaaDoor
