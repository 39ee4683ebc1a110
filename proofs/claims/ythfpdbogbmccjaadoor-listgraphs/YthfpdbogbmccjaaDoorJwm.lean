/- Mathematics of jobs with edges on several hands, as time goes on: what is true all along, and why all are begun in the end. No program is named here. -/
import Derived.Test.YthfpdbogbmccjaaDoorPti
namespace Go.Proofs.YthfpdbogbmccjaaDoor
open Go.RowKit Gm Pm
set_option linter.unusedSectionVars false
set_option linter.unusedVariables false

abbrev nvr : Int := 9223372036854775807
structure Wst where
  E : Nat → Int
  F : Nat → Int
  A : Nat → Int
  H : Nat → Int
/-- What is true at time t: of those that are begun, the others have never. -/
structure Win (n m : Nat) (l : List Ed) (d : Nat → Int) (t : Int) (s : Wst) : Prop where
  job : ∀ i, i < n → s.E i = nvr ∨ (0 ≤ s.A i ∧ s.A i ≤ t ∧ s.E i = s.A i + d i ∧ 0 ≤ s.H i ∧ s.H i < (m : Int) ∧ s.E i ≤ s.F (s.H i).toNat)
  edge : ∀ k i, eB l k i = true → s.E i ≠ nvr → s.E k ≠ nvr ∧ s.E k ≤ s.A i
  apart : ∀ i k, i < n → k < n → i ≠ k → s.E i ≠ nvr → s.E k ≠ nvr → s.H i = s.H k → s.E i ≤ s.A k ∨ s.E k ≤ s.A i
  fr : ∀ h, h < m → s.F h = 0 ∨ ∃ i, i < n ∧ s.E i ≠ nvr ∧ s.H i = (h : Int) ∧ s.F h = s.E i
def wst0 : Wst := ⟨fun _ => nvr, fun _ => 0, fun _ => 0, fun _ => 0⟩
theorem Win.start (n m : Nat) (l : List Ed) (d : Nat → Int) : Win n m l d 0 wst0 :=
  ⟨fun i _ => Or.inl rfl, fun k i _ h => absurd rfl h, fun i k _ _ _ h => absurd rfl h, fun h _ => Or.inl rfl⟩
def rdy (l : List Ed) (t : Int) (s : Wst) (i : Nat) : Prop := s.E i = nvr ∧ ∀ k, eB l k i = true → s.E k ≤ t
def wbg (d : Nat → Int) (t : Int) (s : Wst) (i h : Nat) : Wst := ⟨fp s.E i (t + d i), fp s.F h (t + d i), fp s.A i t, fp s.H i (h : Int)⟩
theorem Win.bgn {n m : Nat} {l : List Ed} {d : Nat → Int} {t : Int} {s : Wst} {i h : Nat} (hw : Win n m l d t s) (hg : Gr n l) (hd : ∀ i, i < n → 0 ≤ d i ∧ d i ≤ 1000000000) (ht : 0 ≤ t ∧ t ≤ 1000000000000) (hi : i < n) (hh : h < m) (hF : s.F h ≤ t) (hr : rdy l t s i) : Win n m l d t (wbg d t s i h) := by
  have hdi := hd i hi
  have hne : t + d i ≠ nvr := by unfold nvr; omega
  have hnv : t < nvr := by unfold nvr; omega
  refine ⟨fun k hk => ?_, fun k j he hj => ?_, fun a b ha hb hab hEa hEb hH => ?_, fun h' hh' => ?_⟩
  · show fp s.E i (t + d i) k = nvr ∨ (0 ≤ fp s.A i t k ∧ fp s.A i t k ≤ t ∧ fp s.E i (t + d i) k = fp s.A i t k + d k ∧ 0 ≤ fp s.H i (h : Int) k ∧ fp s.H i (h : Int) k < (m : Int) ∧ fp s.E i (t + d i) k ≤ fp s.F h (t + d i) (fp s.H i (h : Int) k).toNat)
    by_cases e : k = i
    · subst e
      rw [fp_same, fp_same, fp_same, Int.toNat_natCast, fp_same]
      exact Or.inr ⟨ht.1, Int.le_refl _, rfl, by omega, by omega, Int.le_refl _⟩
    · rw [fp_ne e, fp_ne e, fp_ne e]
      rcases hw.job k hk with h1 | ⟨h1, h2, h3, h4, h5, h6⟩
      · exact Or.inl h1
      · refine Or.inr ⟨h1, h2, h3, h4, h5, ?_⟩
        by_cases eh : (s.H k).toNat = h
        · rw [eh, fp_same]; rw [eh] at h6; omega
        · rw [fp_ne eh]; exact h6
  · change fp s.E i (t + d i) j ≠ nvr at hj
    show fp s.E i (t + d i) k ≠ nvr ∧ fp s.E i (t + d i) k ≤ fp s.A i t j
    by_cases ej : j = i
    · subst ej
      rw [fp_same]
      have h1 := hr.2 k he
      have hk : k ≠ j := fun z => by rw [z, hr.1] at h1; omega
      rw [fp_ne hk]
      exact ⟨by omega, h1⟩
    · rw [fp_ne ej] at hj ⊢
      obtain ⟨h1, h2⟩ := hw.edge k j he hj
      have hk : k ≠ i := fun z => h1 (by rw [z, hr.1])
      rw [fp_ne hk]
      exact ⟨h1, h2⟩
  · change fp s.E i (t + d i) a ≠ nvr at hEa
    change fp s.E i (t + d i) b ≠ nvr at hEb
    change fp s.H i (h : Int) a = fp s.H i (h : Int) b at hH
    show fp s.E i (t + d i) a ≤ fp s.A i t b ∨ fp s.E i (t + d i) b ≤ fp s.A i t a
    by_cases ea : a = i
    · subst ea
      have eb : b ≠ a := fun z => hab z.symm
      rw [fp_ne eb] at hEb hH
      rw [fp_same] at hH
      rw [fp_ne eb, fp_ne eb, fp_same, fp_same]
      rcases hw.job b hb with h1 | ⟨h1, h2, h3, h4, h5, h6⟩
      · exact absurd h1 hEb
      · rw [← hH, Int.toNat_natCast] at h6; exact Or.inr (by omega)
    · rw [fp_ne ea] at hEa hH
      by_cases eb : b = i
      · subst eb
        rw [fp_same] at hH
        rw [fp_ne ea, fp_ne ea, fp_same, fp_same]
        rcases hw.job a ha with h1 | ⟨h1, h2, h3, h4, h5, h6⟩
        · exact absurd h1 hEa
        · rw [hH, Int.toNat_natCast] at h6; exact Or.inl (by omega)
      · rw [fp_ne eb] at hEb hH
        rw [fp_ne ea, fp_ne ea, fp_ne eb, fp_ne eb]
        exact hw.apart a b ha hb hab hEa hEb hH
  · show fp s.F h (t + d i) h' = 0 ∨ ∃ j, j < n ∧ fp s.E i (t + d i) j ≠ nvr ∧ fp s.H i (h : Int) j = (h' : Int) ∧ fp s.F h (t + d i) h' = fp s.E i (t + d i) j
    by_cases eh : h' = h
    · subst eh
      exact Or.inr ⟨i, hi, by rw [fp_same]; exact hne, by rw [fp_same], by rw [fp_same, fp_same]⟩
    · rw [fp_ne eh]
      rcases hw.fr h' hh' with h1 | ⟨j, h1, h2, h3, h4⟩
      · exact Or.inl h1
      · have ej : j ≠ i := fun z => h2 (by rw [z, hr.1])
        exact Or.inr ⟨j, h1, by rw [fp_ne ej]; exact h2, by rw [fp_ne ej]; exact h3, by rw [fp_ne ej]; exact h4⟩
/-- Nobody can be begun: no hand is free, or none is ready. -/
def stk (n m : Nat) (l : List Ed) (t : Int) (s : Wst) : Prop := (∀ h, h < m → t < s.F h) ∨ (∀ i, i < n → ¬ rdy l t s i)
def nxF (E : Nat → Int) (t : Int) : Nat → Int
  | 0 => nvr
  | k + 1 => if t < E k then min (nxF E t k) (E k) else nxF E t k
theorem nxF_le (E : Nat → Int) (t : Int) : ∀ {n : Nat} i, i < n → t < E i → nxF E t n ≤ E i := by
  intro n
  induction n with
  | zero => intro i h; omega
  | succ n ih =>
    intro i hi ht
    rw [nxF]
    by_cases e : i = n
    · subst e; rw [if_pos ht]; omega
    · have := ih i (by omega) ht
      split <;> omega
theorem nxF_is (E : Nat → Int) (t : Int) : ∀ n : Nat, nxF E t n = nvr ∨ ∃ i, i < n ∧ t < E i ∧ nxF E t n = E i := by
  intro n
  induction n with
  | zero => exact Or.inl rfl
  | succ n ih =>
    rw [nxF]
    by_cases h : t < E n
    · rw [if_pos h]
      by_cases h2 : nxF E t n ≤ E n
      · rw [show min (nxF E t n) (E n) = nxF E t n by omega]
        rcases ih with e | ⟨i, hi, h3, e⟩
        · exact Or.inl e
        · exact Or.inr ⟨i, by omega, h3, e⟩
      · exact Or.inr ⟨n, by omega, h, by omega⟩
    · rw [if_neg h]
      rcases ih with e | ⟨i, hi, h3, e⟩
      · exact Or.inl e
      · exact Or.inr ⟨i, by omega, h3, e⟩
theorem Win.later {n m : Nat} {l : List Ed} {d : Nat → Int} {t t' : Int} {s : Wst} (hw : Win n m l d t s) (h : t ≤ t') : Win n m l d t' s :=
  ⟨fun i hi => (hw.job i hi).imp id fun ⟨h1, h2, h3⟩ => ⟨h1, by omega, h3⟩, hw.edge, hw.apart, hw.fr⟩
/-- In the end all are begun, and have ended. -/
theorem Win.all {n m : Nat} {l : List Ed} {d : Nat → Int} {t : Int} {s : Wst} (hw : Win n m l d t s) (hg : Gr n l) (hac : ∀ i, ¬ Rch (eB l) i i) (hd : ∀ i, i < n → 0 ≤ d i ∧ d i ≤ 1000000000) (ht : 0 ≤ t ∧ t ≤ 1000000000000) (hm : 1 ≤ m) (hs : stk n m l t s) (hn : nxF s.E t n = nvr) : ∀ i, i < n → s.E i ≠ nvr ∧ s.E i ≤ t := by
  have hend : ∀ i, i < n → s.E i ≠ nvr → s.E i ≤ t := fun i hi h => by
    by_cases h2 : t < s.E i
    · have h3 := nxF_le s.E t i hi h2
      rw [hn] at h3
      rcases hw.job i hi with e | ⟨a1, a2, a3, _⟩
      · exact absurd e h
      · have := hd i hi
        unfold nvr at h3
        omega
    · omega
  have hnr : ∀ i, i < n → ¬ rdy l t s i := by
    rcases hs with h | h
    · exfalso
      have h1 := h 0 (by omega)
      rcases hw.fr 0 (by omega) with e | ⟨i, hi, h2, _, e⟩
      · omega
      · have := hend i hi h2; omega
    · exact h
  have key : ∀ i, i < n → s.E i ≠ nvr := acyc_ind hg hac fun j hj hh => by
    intro hE
    refine hnr j hj ⟨hE, fun k hk => ?_⟩
    exact hend k (hg.lt hk).1 (hh k hk)
  exact fun i hi => ⟨key i hi, hend i hi (key i hi)⟩
/-- How many of the first n end at t or later. -/
def ctE (E : Nat → Int) (t : Int) : Nat → Nat
  | 0 => 0
  | k + 1 => ctE E t k + if t ≤ E k then 1 else 0
theorem ctE_le (E : Nat → Int) (t : Int) (n : Nat) : ctE E t n ≤ n := by
  induction n with
  | zero => exact Nat.le_refl _
  | succ n ih => rw [ctE]; split <;> omega
theorem ctE_mono {E E' : Nat → Int} {t t' : Int} : ∀ {n : Nat}, (∀ i, i < n → t' ≤ E' i → t ≤ E i) → ctE E' t' n ≤ ctE E t n := by
  intro n
  induction n with
  | zero => intro _; exact Nat.le_refl _
  | succ n ih =>
    intro h
    have h1 := ih fun i hi => h i (by omega)
    have h2 := h n (by omega)
    rw [ctE, ctE]
    by_cases e : t' ≤ E' n
    · rw [if_pos e, if_pos (h2 e)]; omega
    · rw [if_neg e]; split <;> omega
theorem ctE_lt {E E' : Nat → Int} {t t' : Int} {i : Nat} : ∀ {n : Nat}, (∀ i, i < n → t' ≤ E' i → t ≤ E i) → i < n → t ≤ E i → ¬ t' ≤ E' i → ctE E' t' n < ctE E t n := by
  intro n
  induction n with
  | zero => intro _ h; omega
  | succ n ih =>
    intro h hi h1 h2
    rw [ctE, ctE]
    by_cases e : i = n
    · subst e
      rw [if_pos h1, if_neg h2]
      have := ctE_mono (n := i) fun j hj => h j (by omega)
      omega
    · have h3 := ih (fun j hj => h j (by omega)) (by omega) h1 h2
      have h4 := h n (by omega)
      by_cases e2 : t' ≤ E' n
      · rw [if_pos e2, if_pos (h4 e2)]; omega
      · rw [if_neg e2]; split <;> omega
/-- How many of the first n are not begun. -/
def ctN (E : Nat → Int) : Nat → Nat
  | 0 => 0
  | k + 1 => ctN E k + if E k = nvr then 1 else 0
theorem ctN_le (E : Nat → Int) (n : Nat) : ctN E n ≤ n := by
  induction n with
  | zero => exact Nat.le_refl _
  | succ n ih => rw [ctN]; split <;> omega
theorem ctN_fp {E : Nat → Int} {i : Nat} {v : Int} (hv : v ≠ nvr) (hE : E i = nvr) : ∀ n : Nat, ctN (fp E i v) n + (if i < n then 1 else 0) = ctN E n := by
  intro n
  induction n with
  | zero => rfl
  | succ n ih =>
    rw [ctN, ctN, ← ih]
    by_cases e : n = i
    · subst e
      rw [fp_same]
      have h1 : ¬ n < n := Nat.lt_irrefl n
      have h2 : n < n + 1 := Nat.lt_succ_self n
      simp only [if_neg hv, if_pos hE, if_neg h1, if_pos h2]
      all_goals omega
    · rw [fp_ne e]
      by_cases h1 : i < n
      · have h2 : i < n + 1 := by omega
        simp only [if_pos h1, if_pos h2]
        all_goals omega
      · have h2 : ¬ i < n + 1 := by omega
        simp only [if_neg h1, if_neg h2]
        all_goals omega
end Go.Proofs.YthfpdbogbmccjaaDoor
