/- Mathematics of jobs with edges on several hands: GRAHAM's bound. No program is named here. -/
import Derived.Test.YthfpdbogbmccjaaDoorJtu
namespace Go.Proofs.YthfpdbogbmccjaaDoor
open Go.RowKit Gm Pm
set_option linter.unusedSectionVars false
set_option linter.unusedVariables false

theorem sumF_swap2 (f : Nat → Nat → Int) (n : Nat) : ∀ m : Nat, sumF (fun h => sumF (fun i => f h i) n) m = sumF (fun i => sumF (fun h => f h i) m) n
  | 0 => by
    show (0 : Int) = sumF (fun i => 0) n
    rw [sumF_zero fun _ _ => rfl]
  | m + 1 => by
    show sumF (fun h => sumF (fun i => f h i) n) m + sumF (fun i => f m i) n = sumF (fun i => sumF (fun h => f h i) m + f m i) n
    rw [sumF_add, sumF_swap2 f n m]
theorem sumF_pick (z x : Int) : ∀ m : Nat, sumF (fun h => if z = (h : Int) then x else 0) m = if 0 ≤ z ∧ z < (m : Int) then x else 0
  | 0 => by
    show (0 : Int) = _
    rw [if_neg (by omega)]
  | m + 1 => by
    show sumF (fun h => if z = (h : Int) then x else 0) m + (if z = (m : Int) then x else 0) = _
    rw [sumF_pick z x m]
    by_cases h1 : z = (m : Int)
    · rw [if_neg (by omega), if_pos h1, if_pos (by omega)]; omega
    · rw [if_neg h1]
      by_cases h2 : 0 ≤ z ∧ z < (m : Int)
      · rw [if_pos h2, if_pos (by omega)]; omega
      · rw [if_neg h2, if_neg (by omega)]; omega
theorem sumF_ge_one {g : Nat → Int} {n : Nat} (h0 : ∀ i, i < n → 0 ≤ g i) {i : Nat} (hi : i < n) : g i ≤ sumF g n := by
  have h1 : sumF (fun k => if i = k then g i else 0) n ≤ sumF g n := sumF_mono fun k hk => by
    by_cases e : i = k
    · rw [if_pos e, e]; exact Int.le_refl _
    · rw [if_neg e]; exact h0 k hk
  rw [sumF_one (g i) i n, if_pos hi] at h1
  exact h1
/-- Work that is done up to a time. -/
def wkF (n : Nat) (t : Int) (s : Wst) : Int := sumF (fun i => if s.E i = nvr then 0 else min t (s.E i) - s.A i) n
theorem lin1 {m t x W W' X : Int} (h : m * t ≤ W + (m - 1) * X) (hW : W + x ≤ W') : m * (t + x) ≤ W' + (m - 1) * (X + x) := by
  rw [Int.mul_add, Int.mul_add, show (m - 1) * x = m * x - x by rw [Int.sub_mul, Int.one_mul]]
  generalize m * t = a at *
  generalize m * x = b at *
  generalize (m - 1) * X = c at *
  omega
theorem lin2 {m t x W W' X : Int} (h : m * t ≤ W + (m - 1) * X) (hW : W + m * x ≤ W') : m * (t + x) ≤ W' + (m - 1) * X := by
  rw [Int.mul_add]
  omega
theorem lin3 {m a W X Y : Int} (hm : 1 ≤ m) (h : a ≤ W + (m - 1) * X) (hX : X ≤ Y) : a ≤ W + (m - 1) * Y := by
  have : (m - 1) * X ≤ (m - 1) * Y := Int.mul_le_mul_of_nonneg_left hX (by omega)
  omega
/-- What is true all along of those that wait or are at work. -/
structure Gin (n m : Nat) (l : List Ed) (d Ea : Nat → Int) (t : Int) (s : Wst) : Prop where
  rd : ∀ i, i < n → rdy l t s i → (m : Int) * t ≤ wkF n t s + ((m : Int) - 1) * Ea i
  rn : ∀ i, i < n → s.E i ≠ nvr → t ≤ s.E i → (m : Int) * t ≤ wkF n t s + ((m : Int) - 1) * (Ea i + (t - s.A i))
  en : t = 0 ∨ ∃ i, i < n ∧ s.E i = t
  ld : sumF (fun i => if s.E i = nvr then 0 else d i) n ≤ sumF s.F m
/-- While no hand is free each does its work. -/
theorem busy_sum {n m : Nat} {l : List Ed} {d : Nat → Int} {t x : Int} {s : Wst} (hw : Win n m l d t s) (ht : 0 ≤ t) (hx : 0 ≤ x) (hb : ∀ h, h < m → t < s.F h) : (m : Int) * x ≤ sumF (fun i => if s.E i ≠ nvr ∧ t < s.E i then x else 0) n := by
  let g : Nat → Int := fun i => if s.E i ≠ nvr ∧ t < s.E i then x else 0
  have g0 : ∀ i, 0 ≤ g i := fun i => by
    show 0 ≤ if s.E i ≠ nvr ∧ t < s.E i then x else 0
    by_cases e : s.E i ≠ nvr ∧ t < s.E i
    · rw [if_pos e]; exact hx
    · rw [if_neg e]; exact Int.le_refl _
  have h1 : (m : Int) * x ≤ sumF (fun h => sumF (fun i => if s.H i = (h : Int) then g i else 0) n) m := sumF_ge fun h hh => by
    rcases hw.fr h hh with e | ⟨i, hi, e1, e2, e3⟩
    · have := hb h hh; omega
    · have hg : g i = x := by
        show (if s.E i ≠ nvr ∧ t < s.E i then x else 0) = x
        rw [if_pos ⟨e1, by have := hb h hh; omega⟩]
      have h2 := sumF_ge_one (g := fun i => if s.H i = (h : Int) then g i else 0) (n := n) (fun k _ => by
        by_cases e : s.H k = (h : Int)
        · show 0 ≤ if s.H k = (h : Int) then g k else 0
          rw [if_pos e]; exact g0 k
        · show 0 ≤ if s.H k = (h : Int) then g k else 0
          rw [if_neg e]; exact Int.le_refl _) hi
      have h3 : (if s.H i = (h : Int) then g i else 0) ≤ sumF (fun i => if s.H i = (h : Int) then g i else 0) n := h2
      rw [if_pos e2, hg] at h3
      exact h3
  rw [sumF_swap2] at h1
  refine Int.le_trans h1 (sumF_mono fun i hi => ?_)
  show sumF (fun h => if s.H i = (h : Int) then g i else 0) m ≤ g i
  rw [sumF_pick]
  by_cases e : 0 ≤ s.H i ∧ s.H i < (m : Int)
  · rw [if_pos e]; exact Int.le_refl _
  · rw [if_neg e]; exact g0 i
theorem wkF_tick {n : Nat} {t t' : Int} {s : Wst} (htt : t ≤ t') (hn : ∀ i, i < n → t < s.E i → t' ≤ s.E i) : wkF n t' s = wkF n t s + sumF (fun i => if s.E i ≠ nvr ∧ t < s.E i then t' - t else 0) n := by
  unfold wkF
  rw [← sumF_add]
  refine sumF_congr fun i hi => ?_
  by_cases e : s.E i = nvr
  · rw [if_pos e, if_pos e, if_neg (fun h => h.1 e)]; omega
  · rw [if_neg e, if_neg e]
    by_cases e2 : t < s.E i
    · rw [if_pos ⟨e, e2⟩]
      have := hn i hi e2
      omega
    · rw [if_neg (fun h => e2 h.2)]
      omega
theorem Run.gin {n m : Nat} {l : List Ed} {d Ea : Nat → Int} {t : Int} {s : Wst} (h : Run n m l d t s) (hg : Gr n l) (hd : ∀ i, i < n → 0 ≤ d i ∧ d i ≤ 1000000000) (hm : 1 ≤ m) (hE : Earl l d n Ea) : Gin n m l d Ea t s := by
  have hm1 : (1 : Int) ≤ (m : Int) := by omega
  induction h with
  | start =>
    have hW : wkF n 0 wst0 = 0 := sumF_zero fun i _ => if_pos rfl
    refine ⟨fun i hi _ => ?_, fun i _ h => absurd rfl h, Or.inl rfl, ?_⟩
    · rw [hW, Int.mul_zero]
      have := Int.mul_nonneg (show (0 : Int) ≤ (m : Int) - 1 by omega) (hE.lo i hi)
      omega
    · have e1 : sumF (fun i => if wst0.E i = nvr then 0 else d i) n = 0 := sumF_zero fun i _ => if_pos rfl
      have e2 : sumF wst0.F m = 0 := sumF_zero fun i _ => rfl
      rw [e1, e2]
      exact Int.le_refl _
  | @bgn t s i h hr hi hh hF _ hrd _ ih =>
    have hb := hr.bnd hg hd
    have hdi := hd i hi
    have hne : t + d i ≠ nvr := by unfold nvr; omega
    have hnv : t < nvr := by unfold nvr; omega
    have hEi : s.E i = nvr := hrd.1
    have hW : wkF n t (wbg d t s i h) = wkF n t s := sumF_congr fun k hk => by
      show (if fp s.E i (t + d i) k = nvr then 0 else min t (fp s.E i (t + d i) k) - fp s.A i t k) = if s.E k = nvr then 0 else min t (s.E k) - s.A k
      by_cases e : k = i
      · subst e
        rw [fp_same, fp_same, if_neg hne, if_pos hEi]
        omega
      · rw [fp_ne e, fp_ne e]
    refine ⟨fun j hj hjr => ?_, fun j hj hjE hjt => ?_, ?_, ?_⟩
    · rw [hW]
      obtain ⟨j1, j2⟩ := hjr
      change fp s.E i (t + d i) j = nvr at j1
      have hji : j ≠ i := fun e => by subst e; rw [fp_same] at j1; exact hne j1
      rw [fp_ne hji] at j1
      by_cases hro : rdy l t s j
      · exact ih.rd j hj hro
      · obtain ⟨k, hk1, hk2⟩ : ∃ k, eB l k j = true ∧ t < s.E k := by
          refine Classical.byContradiction fun hno => hro ⟨j1, fun k hk => ?_⟩
          by_cases e : s.E k ≤ t
          · exact e
          · exact absurd ⟨k, hk, by omega⟩ hno
        have h3 := j2 k hk1
        change fp s.E i (t + d i) k ≤ t at h3
        by_cases e : k = i
        · subst e
          rw [fp_same] at h3
          have h4 := hE.edge k j hk1
          exact lin3 hm1 (ih.rd k hi hrd) (by omega)
        · rw [fp_ne e] at h3
          omega
    · rw [hW]
      change fp s.E i (t + d i) j ≠ nvr at hjE
      change t ≤ fp s.E i (t + d i) j at hjt
      show (m : Int) * t ≤ wkF n t s + ((m : Int) - 1) * (Ea j + (t - fp s.A i t j))
      by_cases e : j = i
      · subst e
        rw [fp_same]
        exact lin3 hm1 (ih.rd j hi hrd) (by omega)
      · rw [fp_ne e] at hjE hjt ⊢
        exact ih.rn j hj hjE hjt
    · rcases ih.en with e | ⟨k, hk, e⟩
      · exact Or.inl e
      · refine Or.inr ⟨k, hk, ?_⟩
        show fp s.E i (t + d i) k = t
        rw [fp_ne (fun z => by subst z; omega)]
        exact e
    · have e1 : sumF (fun k => if fp s.E i (t + d i) k = nvr then 0 else d k) n = sumF (fp (fun k => if s.E k = nvr then 0 else d k) i (d i)) n := sumF_congr fun k _ => by
        by_cases e : k = i
        · subst e; rw [fp_same, fp_same, if_neg hne]
        · rw [fp_ne e, fp_ne e]
      show sumF (fun k => if fp s.E i (t + d i) k = nvr then 0 else d k) n ≤ sumF (fp s.F h (t + d i)) m
      rw [e1, sumF_fp _ _ _ hi, sumF_fp _ _ _ hh]
      have := ih.ld
      show sumF (fun k => if s.E k = nvr then 0 else d k) n - (if s.E i = nvr then 0 else d i) + d i ≤ sumF s.F m - s.F h + (t + d i)
      rw [if_pos hEi]
      omega
  | @tick t s hr hst hnx ih =>
    obtain ⟨hw, ht0, _⟩ := hr.both hg hd
    obtain ⟨i0, hi0, hlt, hx0⟩ := (nxF_is s.E t n).resolve_left hnx
    have hle : ∀ i, i < n → t < s.E i → nxF s.E t n ≤ s.E i := fun i hi hlt => nxF_le s.E t i hi hlt
    generalize nxF s.E t n = t' at *
    have htt : t < t' := by omega
    have hW := wkF_tick (s := s) (Int.le_of_lt htt) hle
    have h0 : ∀ i, i < n → 0 ≤ (fun i => if s.E i ≠ nvr ∧ t < s.E i then t' - t else 0) i := fun i hi => by
      show 0 ≤ if s.E i ≠ nvr ∧ t < s.E i then t' - t else 0
      by_cases e : s.E i ≠ nvr ∧ t < s.E i
      · rw [if_pos e]; omega
      · rw [if_neg e]; exact Int.le_refl _
    have hrn : ∀ i, i < n → s.E i ≠ nvr → t' ≤ s.E i → (m : Int) * t' ≤ wkF n t' s + ((m : Int) - 1) * (Ea i + (t' - s.A i)) := fun i hi h1 h2 => by
      have h3 := sumF_ge_one h0 hi
      have h4 : (if s.E i ≠ nvr ∧ t < s.E i then t' - t else 0) ≤ sumF (fun i => if s.E i ≠ nvr ∧ t < s.E i then t' - t else 0) n := h3
      rw [if_pos ⟨h1, by omega⟩] at h4
      have h5 := lin1 (x := t' - t) (W' := wkF n t' s) (ih.rn i hi h1 (by omega)) (by omega)
      rw [show t + (t' - t) = t' by omega, show Ea i + (t - s.A i) + (t' - t) = Ea i + (t' - s.A i) by omega] at h5
      exact h5
    refine ⟨fun j hj hjr => ?_, hrn, Or.inr ⟨i0, hi0, hx0.symm⟩, ih.ld⟩
    obtain ⟨j1, j2⟩ := hjr
    by_cases hro : rdy l t s j
    · rcases hst with hb | hno
      · have h3 := busy_sum hw ht0 (show 0 ≤ t' - t by omega) hb
        have h5 := lin2 (x := t' - t) (W' := wkF n t' s) (ih.rd j hj hro) (by omega)
        rw [show t + (t' - t) = t' by omega] at h5
        exact h5
      · exact absurd hro (hno j hj)
    · obtain ⟨k, hk1, hk2⟩ : ∃ k, eB l k j = true ∧ t < s.E k := by
        refine Classical.byContradiction fun hno => hro ⟨j1, fun k hk => ?_⟩
        by_cases e : s.E k ≤ t
        · exact e
        · exact absurd ⟨k, hk, by omega⟩ hno
      have hkn := (hg.lt hk1).1
      have h3 := j2 k hk1
      have h4 := hle k hkn hk2
      have hb0 : t' < nvr := by
        have h1 := hr.tick hst
        have hi1 : s.E i0 ≠ nvr := fun e => hnx (by omega)
        rcases hw.job i0 hi0 with e | ⟨_, h2, h3, _⟩
        · exact absurd e hi1
        · have := hd i0 hi0
          have := hr.bnd hg hd
          unfold nvr
          omega
      have hkE : s.E k ≠ nvr := by omega
      have h6 := hrn k hkn hkE h4
      rcases hw.job k hkn with e | ⟨_, _, h7, _⟩
      · exact absurd e hkE
      · exact lin3 hm1 h6 (by have := hE.edge k j hk1; omega)
/-- The end is no earlier than the span and than the sum over all hands, and no later than GRAHAM says. -/
theorem graham_edges {w0 w : World} {gT n m : Nat} {l : List Ed} {d Ea : Nat → Int} {t S : Int} {s : Wst} (h : Gok w0 w gT n m l d t s) (hg : Gr n l) (hac : ∀ i, ¬ Rch (eB l) i i) (hd : ∀ i, i < n → 0 ≤ d i ∧ d i ≤ 1000000000) (hm : 1 ≤ m) (hE : Earl l d n Ea) (hS : Spn Ea d n S) :
    S ≤ t ∧ (m : Int) * t ≤ sumF d n + ((m : Int) - 1) * S ∧ sumF d n ≤ (m : Int) * t := by
  have hf := h.facts hg hac hd hm
  have hG := h.run.gin hg hd hm hE
  obtain ⟨hw, ht0, _⟩ := h.run.both hg hd
  have hb := h.run.bnd hg hd
  have hall := hw.all hg hac hd ⟨hb.1, by omega⟩ hm h.stk h.nx
  have hm1 : (1 : Int) ≤ (m : Int) := by omega
  have hEA : ∀ i, i < n → s.E i = s.A i + d i := fun i hi => by
    rcases hw.job i hi with e | ⟨_, _, h7, _⟩
    · exact absurd e (hall i hi).1
    · exact h7
  have hW : wkF n t s = sumF d n := sumF_congr fun i hi => by
    rw [if_neg (hall i hi).1]
    have h1 := (hall i hi).2
    have h2 := hEA i hi
    omega
  refine ⟨?_, ?_, ?_⟩
  · refine hS.least (T := s.A) (fun i hi => hE.least hg hac (fun j hj => (hf.ran j hj).1) (fun i j he => hf.ed i j (hg.lt he).1 (hg.lt he).2 he) i hi) hb.1 fun i hi => (hf.ran i hi).2.1
  · rcases hG.en with e | ⟨i, hi, e⟩
    · have h1 := Int.mul_nonneg (show (0 : Int) ≤ (m : Int) - 1 by omega) hS.lo
      have h2 : (n : Int) * 0 ≤ sumF d n := sumF_ge fun i hi => (hd i hi).1
      rw [e, Int.mul_zero]
      omega
    · have h1 := hG.rn i hi (hall i hi).1 (by omega)
      rw [hW] at h1
      exact lin3 hm1 h1 (by have := hS.up i hi; have := hEA i hi; omega)
  · have h1 := hG.ld
    have h2 : sumF (fun i => if s.E i = nvr then 0 else d i) n = sumF d n := sumF_congr fun i hi => if_neg (hall i hi).1
    have h3 : sumF s.F m ≤ (m : Int) * t := sumF_le fun k hk => by
      rcases hw.fr k hk with e | ⟨i, hi, _, _, e⟩
      · omega
      · have := (hall i hi).2; omega
    omega
end Go.Proofs.YthfpdbogbmccjaaDoor
