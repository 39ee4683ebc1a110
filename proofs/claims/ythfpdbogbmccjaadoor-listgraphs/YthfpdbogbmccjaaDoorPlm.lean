/- The mathematics of the latest times, as the program finds them from the row's end. -/
import Derived.Test.YthfpdbogbmccjaaDoorPer
namespace Go.Proofs.YthfpdbogbmccjaaDoor
open Go.RowKit Gm Pm
set_option linter.unusedSectionVars false
set_option linter.unusedVariables false

/-- The least of a bound and of what some things are told. -/
def mnL (S : Int) (L : Nat → Int) (s : List Nat) : Int := s.foldl (fun m j => min m (L j)) S
theorem mnL_snoc (S : Int) (L : Nat → Int) (s : List Nat) (j : Nat) : mnL S L (s ++ [j]) = min (mnL S L s) (L j) := by simp [mnL]
theorem mnL_spec (S : Int) (L : Nat → Int) : ∀ (s : List Nat), mnL S L s ≤ S ∧ (∀ j ∈ s, mnL S L s ≤ L j) ∧ (mnL S L s = S ∨ ∃ j ∈ s, mnL S L s = L j) := by
  intro s
  have key : ∀ k, k ≤ s.length → mnL S L (s.take k) ≤ S ∧ (∀ j ∈ s.take k, mnL S L (s.take k) ≤ L j) ∧ (mnL S L (s.take k) = S ∨ ∃ j ∈ s.take k, mnL S L (s.take k) = L j) := by
    intro k
    induction k with
    | zero => intro _; exact ⟨Int.le_refl _, by simp, Or.inl rfl⟩
    | succ k ih =>
      intro hk
      obtain ⟨h1, h2, h3⟩ := ih (by omega)
      have ht : s.take (k + 1) = s.take k ++ [bn s k] := take_bn (by omega)
      rw [ht, mnL_snoc]
      refine ⟨by omega, fun j hj => ?_, ?_⟩
      · rcases List.mem_append.1 hj with hj | hj
        · have := h2 j hj; omega
        · obtain rfl := List.mem_singleton.1 hj; omega
      · by_cases hm : mnL S L (s.take k) ≤ L (bn s k)
        · rw [show min (mnL S L (s.take k)) (L (bn s k)) = mnL S L (s.take k) by omega]
          rcases h3 with h3 | ⟨j, h3, h4⟩
          · exact Or.inl h3
          · exact Or.inr ⟨j, List.mem_append_left _ h3, h4⟩
        · exact Or.inr ⟨bn s k, List.mem_append_right _ (by simp), by omega⟩
  have := key s.length (Nat.le_refl _)
  rwa [List.take_length] at this
/-- One thing's latest time. -/
def ltS (l : List Ed) (D : Nat → Int) (S : Int) (L : Nat → Int) (i : Nat) : Nat → Int := fp L i (wrap64 (mnL S L (suc l i) - D i))
structure LtI (l : List Ed) (D : Nat → Int) (S : Int) (R : List Nat) (n k : Nat) (L : Nat → Int) : Prop where
  lo : ∀ i, i ∈ R.drop k → -(1000000000 * ((n : Int) - k)) ≤ L i
  up : ∀ i, i ∈ R.drop k → L i + D i ≤ S
  edge : ∀ i j, i ∈ R.drop k → eB l i j = true → L i + D i ≤ L j
  why : ∀ i, i ∈ R.drop k → L i + D i = S ∨ ∃ j, eB l i j = true ∧ L i + D i = L j
theorem drop_bn {R : List Nat} {k : Nat} (hk : k < R.length) : R.drop k = bn R k :: R.drop (k + 1) := by
  rw [bn_get hk, List.drop_eq_getElem_cons hk]
theorem mem_drop {R : List Nat} {k i : Nat} (h : i ∈ R.drop k) : ∃ q, k ≤ q ∧ ∃ hq : q < R.length, R[q] = i := by
  obtain ⟨q, hq, e⟩ := List.getElem_of_mem h
  rw [List.getElem_drop] at e
  exact ⟨k + q, by omega, by simp at hq; omega, e⟩
/-- Who has an edge to one at k or behind it stands ahead of it. -/
theorem Tpo.place {l : List Ed} {n : Nat} {R : List Nat} (h : Tpo l n R) {q p : Nat} (hq : q < R.length) (hp : p < R.length) (he : eB l R[q] R[p] = true) : q < p := by
  obtain ⟨t, ht, et⟩ := List.getElem_of_mem (h.ah p hp _ he)
  have htp : t < p := by simp at ht; omega
  have e : R[t]'(by omega) = R[q] := by rw [← et, List.getElem_take]
  have hn := h.nd
  rw [List.pairwise_iff_getElem] at hn
  rcases Nat.lt_trichotomy t q with h1 | h1 | h1
  · exact absurd e (hn t q (by omega) hq h1)
  · omega
  · exact absurd e.symm (hn q t hq (by omega) h1)
theorem LtI.start {l : List Ed} {D : Nat → Int} {S : Int} {R : List Nat} {n : Nat} (hT : Tpo l n R) : LtI l D S R n n (fun _ => 0) := by
  have e : R.drop n = [] := List.drop_eq_nil_of_le (by rw [hT.len]; exact Nat.le_refl _)
  refine ⟨fun i hi => ?_, fun i hi => ?_, fun i j hi => ?_, fun i hi => ?_⟩ <;> (rw [e] at hi; cases hi)
theorem LtI.step {l : List Ed} {D : Nat → Int} {S : Int} {R : List Nat} {n k : Nat} {L : Nat → Int} (hg : Gr n l) (hT : Tpo l n R) (hD : ∀ i, i < n → 0 ≤ D i ∧ D i ≤ 1000000000) (hS : 0 ≤ S ∧ S ≤ 100000000000) (hk : k < n) (h : LtI l D S R n (k + 1) L) : LtI l D S R n k (ltS l D S L (bn R k)) := by
  have hkR : k < R.length := by rw [hT.len]; exact hk
  have hnd := hT.nd
  rw [List.pairwise_iff_getElem] at hnd
  have hin : bn R k < n := hT.lt _ (bn_mem hkR)
  have hDi := hD _ hin
  obtain ⟨m1, m2, m3⟩ := mnL_spec S L (suc l (bn R k))
  have hsucc : ∀ j, eB l (bn R k) j = true → j ∈ R.drop (k + 1) := fun j hj => by
    obtain ⟨p, hp, ep⟩ := List.getElem_of_mem (hT.all j (hg.lt hj).2)
    have := hT.place hkR hp (by rw [← bn_get hkR, ep]; exact hj)
    rw [← ep]
    exact List.mem_drop_iff_getElem.2 ⟨p - (k + 1), by omega, by congr 1; omega⟩
  have hn60 := hg.n60
  have mlo : -(1000000000 * ((n : Int) - (k + 1))) ≤ mnL S L (suc l (bn R k)) := by
    rcases m3 with e | ⟨j, hj, e⟩
    · rw [e]; omega
    · rw [e]
      have := h.lo j (hsucc j ((mem_suc hg).1 hj))
      simpa using this
  have hw : wrap64 (mnL S L (suc l (bn R k)) - D (bn R k)) = mnL S L (suc l (bn R k)) - D (bn R k) := wrap_small (by omega)
  have hold : ∀ i, i ∈ R.drop (k + 1) → ltS l D S L (bn R k) i = L i := fun i hi => by
    obtain ⟨q, hq1, hq2, hq3⟩ := mem_drop hi
    refine fp_ne fun e => ?_
    exact hnd k q hkR hq2 (by omega) (by rw [hq3, e, bn_get hkR])
  have hnew : ltS l D S L (bn R k) (bn R k) = mnL S L (suc l (bn R k)) - D (bn R k) := by unfold ltS; rw [fp_same, hw]
  have hoj : ∀ i j, i ∈ R.drop (k + 1) → eB l i j = true → ltS l D S L (bn R k) j = L j := fun i j hi hij => by
    obtain ⟨q, hq1, hq2, hq3⟩ := mem_drop hi
    refine fp_ne fun e => ?_
    subst e
    have := hT.place hq2 hkR (by rw [hq3, ← bn_get hkR]; exact hij)
    omega
  refine ⟨fun i hi => ?_, fun i hi => ?_, fun i j hi hij => ?_, fun i hi => ?_⟩
  · rw [drop_bn hkR] at hi
    rcases List.mem_cons.1 hi with rfl | hi
    · rw [hnew]; omega
    · rw [hold i hi]; have := h.lo i hi; omega
  · rw [drop_bn hkR] at hi
    rcases List.mem_cons.1 hi with rfl | hi
    · rw [hnew]; omega
    · rw [hold i hi]; exact h.up i hi
  · rw [drop_bn hkR] at hi
    rcases List.mem_cons.1 hi with rfl | hi
    · rw [hnew, hold j (hsucc j hij)]
      have := m2 j ((mem_suc hg).2 hij)
      omega
    · rw [hold i hi, hoj i j hi hij]; exact h.edge i j hi hij
  · rw [drop_bn hkR] at hi
    rcases List.mem_cons.1 hi with rfl | hi
    · rw [hnew]
      rcases m3 with e | ⟨j, hj, e⟩
      · exact Or.inl (by omega)
      · have hij := (mem_suc hg).1 hj
        exact Or.inr ⟨j, hij, by rw [hold j (hsucc j hij)]; omega⟩
    · rcases h.why i hi with e | ⟨j, hj, e⟩
      · exact Or.inl (by rw [hold i hi]; exact e)
      · exact Or.inr ⟨j, hj, by rw [hold i hi, hoj i j hi hj]; exact e⟩
theorem LtI.done {l : List Ed} {D : Nat → Int} {S : Int} {R : List Nat} {n : Nat} {L : Nat → Int} (hg : Gr n l) (hT : Tpo l n R) (h : LtI l D S R n 0 L) : Latl l D n S L := by
  have e : ∀ i, i < n → i ∈ R.drop 0 := fun i hi => by simpa using hT.all i hi
  exact ⟨fun i hi => h.up i (e i hi), fun i j hij => h.edge i j (e i (hg.lt hij).1) hij, fun i hi => h.why i (e i hi)⟩
end Go.Proofs.YthfpdbogbmccjaaDoor
