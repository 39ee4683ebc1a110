/- Mathematics of the reference's Downward: the row it picks is the one that the sort lays. -/
import Derived.Test.YtfnkboegbclnaaaKrb
namespace Go.Proofs.Ytfnkboegbclnaaa
open Go.RowKit
set_option linter.unusedSectionVars false
set_option linter.unusedVariables false

/-- a comes before b, downward. -/
def Bef (l : List Int) (a b : Nat) : Prop := nm l b < nm l a ∨ (nm l b = nm l a ∧ a < b)
/-- The best of the first i that are not in P. -/
def bst (l : List Int) (P : List Nat) : Nat → Int
  | 0 => -1
  | i + 1 => if i ∉ P ∧ (bst l P i < 0 ∨ nm l (bst l P i).toNat < nm l i) then (i : Int) else bst l P i
theorem bst_spec (l : List Int) (P : List Nat) : ∀ i, (bst l P i = -1 ∧ ∀ j, j < i → j ∈ P) ∨ ∃ b : Nat, bst l P i = (b : Int) ∧ b < i ∧ b ∉ P ∧ ∀ j, j < i → j ∉ P → j = b ∨ Bef l b j := by
  intro i
  induction i with
  | zero => exact Or.inl ⟨rfl, fun j hj => absurd hj (Nat.not_lt_zero _)⟩
  | succ i ih =>
    rw [bst]
    by_cases hiP : i ∈ P
    · rw [if_neg (fun h => h.1 hiP)]
      rcases ih with ⟨e, h⟩ | ⟨b, e, hb, hbP, h⟩
      · refine Or.inl ⟨e, fun j hj => ?_⟩
        by_cases e2 : j = i
        · rw [e2]; exact hiP
        · exact h j (by omega)
      · refine Or.inr ⟨b, e, by omega, hbP, fun j hj hjP => ?_⟩
        by_cases e2 : j = i
        · rw [e2] at hjP; exact absurd hiP hjP
        · exact h j (by omega) hjP
    · rcases ih with ⟨e, h⟩ | ⟨b, e, hb, hbP, h⟩
      · rw [if_pos ⟨hiP, Or.inl (by rw [e]; decide)⟩]
        refine Or.inr ⟨i, rfl, by omega, hiP, fun j hj hjP => ?_⟩
        by_cases e2 : j = i
        · exact Or.inl e2
        · exact absurd (h j (by omega)) hjP
      · rw [e, Int.toNat_natCast]
        by_cases hx : nm l b < nm l i
        · rw [if_pos ⟨hiP, Or.inr hx⟩]
          refine Or.inr ⟨i, rfl, by omega, hiP, fun j hj hjP => ?_⟩
          by_cases e2 : j = i
          · exact Or.inl e2
          · right
            rcases h j (by omega) hjP with e3 | h3
            · rw [e3]; exact Or.inl hx
            · unfold Bef at *; omega
        · rw [if_neg (fun h2 => by rcases h2.2 with h3 | h3 <;> omega)]
          refine Or.inr ⟨b, rfl, by omega, hbP, fun j hj hjP => ?_⟩
          by_cases e2 : j = i
          · rw [e2]; right; unfold Bef; omega
          · exact h j (by omega) hjP
theorem pig : ∀ (n : Nat) (P : List Nat), (∀ j, j < n → j ∈ P) → n ≤ P.length := by
  intro n
  induction n with
  | zero => intro P _; omega
  | succ n ih =>
    intro P h
    have h1 := ih (P.erase n) fun j hj => (List.mem_erase_of_ne (by omega)).2 (h j (by omega))
    have h2 := List.length_erase_of_mem (h n (by omega))
    have h3 := List.length_pos_of_mem (h n (by omega))
    omega
/-- What is true of the row all along. -/
structure Dwi (l : List Int) (r : Nat) (P : List Nat) : Prop where
  len : P.length = r
  nd : P.Nodup
  lt : ∀ x ∈ P, x < l.length
  pre : P.Pairwise (Bef l)
  rest : ∀ a ∈ P, ∀ j, j < l.length → j ∉ P → Bef l a j
theorem Dwi.nil (l : List Int) : Dwi l 0 [] := ⟨rfl, List.nodup_nil, fun x hx => absurd hx (by simp), List.Pairwise.nil, fun a ha => absurd ha (by simp)⟩
theorem Dwi.step {l : List Int} {r : Nat} {P : List Nat} (h : Dwi l r P) (hr : r < l.length) : ∃ b : Nat, bst l P l.length = (b : Int) ∧ b < l.length ∧ b ∉ P ∧ Dwi l (r + 1) (P ++ [b]) := by
  rcases bst_spec l P l.length with ⟨e, hall⟩ | ⟨b, e, hb, hbP, hbest⟩
  · have := pig l.length P hall
    have := h.len
    omega
  · refine ⟨b, e, hb, hbP, ⟨by rw [List.length_append, h.len]; rfl, ?_, ?_, ?_, ?_⟩⟩
    · rw [List.nodup_append]
      exact ⟨h.nd, by simp, fun a ha c hc => by rw [List.mem_singleton.1 hc]; exact fun e2 => hbP (by rw [← e2]; exact ha)⟩
    · intro x hx
      rcases List.mem_append.1 hx with hx | hx
      · exact h.lt x hx
      · rw [List.mem_singleton.1 hx]; exact hb
    · rw [List.pairwise_append]
      exact ⟨h.pre, List.pairwise_singleton _ _, fun a ha c hc => by rw [List.mem_singleton.1 hc]; exact h.rest a ha b hb hbP⟩
    · intro a ha j hj hjP
      have hj1 : j ∉ P := fun hm => hjP (List.mem_append_left _ hm)
      have hj2 : j ≠ b := fun e2 => hjP (by rw [e2]; simp)
      rcases List.mem_append.1 ha with ha | ha
      · exact h.rest a ha j hj hj1
      · rw [List.mem_singleton.1 ha]
        rcases hbest j hj hj1 with e3 | h3
        · exact absurd e3 hj2
        · exact h3
theorem nodup_len : ∀ {P : List Nat}, P.Nodup → ∀ {n : Nat}, (∀ x ∈ P, x < n) → P.length ≤ n := by
  intro P h n hlt
  have h1 : P.length ≤ (List.range n).length := by
    have key : ∀ (P Q : List Nat), P.Nodup → (∀ x ∈ P, x ∈ Q) → P.length ≤ Q.length := by
      intro P
      induction P with
      | nil => intro Q _ _; exact Nat.zero_le _
      | cons a P ih =>
        intro Q hn hs
        rw [List.nodup_cons] at hn
        have h2 := ih (Q.erase a) hn.2 fun x hx => (List.mem_erase_of_ne (fun e => hn.1 (by rw [← e]; exact hx))).2 (hs x (List.mem_cons_of_mem _ hx))
        have h3 := List.length_erase_of_mem (hs a (List.mem_cons_self ..))
        have h4 := List.length_pos_of_mem (hs a (List.mem_cons_self ..))
        rw [List.length_cons]
        omega
    exact key P _ h fun x hx => List.mem_range.2 (hlt x hx)
  rwa [List.length_range] at h1
theorem Dwi.perm {l : List Int} {P : List Nat} (h : Dwi l l.length P) : Perm0 l.length P := by
  refine ⟨h.len, ?_⟩
  rw [List.perm_ext_iff_of_nodup h.nd List.nodup_range]
  intro a
  rw [List.mem_range]
  refine ⟨h.lt a, fun ha => ?_⟩
  by_cases e : a ∈ P
  · exact e
  · exfalso
    have h4 : (a :: P).Nodup := List.nodup_cons.2 ⟨e, h.nd⟩
    have h5 := nodup_len h4 (n := l.length) fun x hx => by
      rcases List.mem_cons.1 hx with h6 | h6
      · rw [h6]; exact ha
      · exact h.lt x h6
    rw [List.length_cons, h.len] at h5
    omega
theorem bef_uniq {l : List Int} : ∀ R S : List Nat, R.Pairwise (Bef l) → S.Pairwise (Bef l) → (∀ x, x ∈ R ↔ x ∈ S) → R = S := by
  intro R
  induction R with
  | nil =>
    intro S _ _ h
    cases S with
    | nil => rfl
    | cons b S => exact absurd ((h b).2 (List.mem_cons_self ..)) (by simp)
  | cons a R ih =>
    intro S hR hS h
    cases S with
    | nil => exact absurd ((h a).1 (List.mem_cons_self ..)) (by simp)
    | cons b S =>
      rw [List.pairwise_cons] at hR hS
      have e : a = b := by
        rcases List.mem_cons.1 ((h a).1 (List.mem_cons_self ..)) with e1 | h1
        · exact e1
        · rcases List.mem_cons.1 ((h b).2 (List.mem_cons_self ..)) with e2 | h2
          · exact e2.symm
          · have a1 := hS.1 a h1
            have a2 := hR.1 b h2
            unfold Bef at a1 a2
            omega
      subst e
      have irr : ∀ x, ¬ Bef l x x := fun x hx => by unfold Bef at hx; omega
      rw [ih S hR.2 hS.2 fun x => ?_]
      constructor
      · intro hx
        rcases List.mem_cons.1 ((h x).1 (List.mem_cons_of_mem _ hx)) with e1 | h1
        · rw [e1] at hx; exact absurd (hR.1 a hx) (irr a)
        · exact h1
      · intro hx
        rcases List.mem_cons.1 ((h x).2 (List.mem_cons_of_mem _ hx)) with e1 | h1
        · rw [e1] at hx; exact absurd (hS.1 a hx) (irr a)
        · exact h1
theorem dwn_bef {l : List Int} {R : List Nat} (h : Dwn l R) : R.Pairwise (Bef l) := by
  rw [List.pairwise_iff_getElem]
  intro i j hi hj hij
  have := h i j hij hj
  simp only [List.getD_eq_getElem?_getD, List.getElem?_eq_getElem hi, List.getElem?_eq_getElem hj, Option.getD_some] at this
  exact this
/-- The row that the sort lays is the one that is picked. -/
theorem dwn_uniq {l : List Int} {R P : List Nat} (hR : Perm0 l.length R) (hD : Dwn l R) (hP : Dwi l l.length P) : R = P :=
  bef_uniq R P (dwn_bef hD) hP.pre fun x => by rw [hR.perm.mem_iff, hP.perm.perm.mem_iff]
end Go.Proofs.Ytfnkboegbclnaaa
