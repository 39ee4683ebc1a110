/- The mathematics of the way of critical things. -/
import Derived.Test.YtknhbpnbbnjioaaDoorPm
import Derived.Test.YtknhbpnbbnjioaaDoorPst
namespace Go.Proofs.YtknhbpnbbnjioaaDoor
open Go.RowKit Gm Pm
set_option linter.unusedSectionVars false
set_option linter.unusedVariables false

def crB (E L : Nat → Int) (i : Nat) : Bool := decide (E i = L i)
/-- The least of some things that may begin at a time, and must, as it is looked for. -/
def lsS (E L : Nat → Int) (a : Int) (s : Nat × Bool) (i : Nat) : Nat × Bool := if E i = a ∧ L i = a ∧ (s.2 = false ∨ i < s.1) then (i, true) else s
def lsA (E L : Nat → Int) (a : Int) (A : List Nat) : Nat × Bool := A.foldl (lsS E L a) (0, false)
theorem lsA_snoc (E L : Nat → Int) (a : Int) (A : List Nat) (i : Nat) : lsA E L a (A ++ [i]) = lsS E L a (lsA E L a A) i := by simp [lsA]
theorem lsA_spec (E L : Nat → Int) (a : Int) : ∀ A : List Nat, ((lsA E L a A).2 = true → (lsA E L a A).1 ∈ A ∧ E (lsA E L a A).1 = a ∧ L (lsA E L a A).1 = a ∧ ∀ j ∈ A, E j = a → L j = a → (lsA E L a A).1 ≤ j) ∧ ((lsA E L a A).2 = false → ∀ j ∈ A, ¬ (E j = a ∧ L j = a)) := by
  have key : ∀ A : List Nat, ∀ k, k ≤ A.length → ((lsA E L a (A.take k)).2 = true → (lsA E L a (A.take k)).1 ∈ A.take k ∧ E (lsA E L a (A.take k)).1 = a ∧ L (lsA E L a (A.take k)).1 = a ∧ ∀ j ∈ A.take k, E j = a → L j = a → (lsA E L a (A.take k)).1 ≤ j) ∧ ((lsA E L a (A.take k)).2 = false → ∀ j ∈ A.take k, ¬ (E j = a ∧ L j = a)) := by
    intro A k
    induction k with
    | zero => intro _; exact ⟨fun h => by simp [lsA] at h, fun _ j hj => by simp at hj⟩
    | succ k ih =>
      intro hk
      obtain ⟨h1, h2⟩ := ih (by omega)
      have hkA : k < A.length := by omega
      have ht : A.take (k + 1) = A.take k ++ [bn A k] := by rw [bn_get hkA, List.take_append_getElem]
      rw [ht, lsA_snoc]
      generalize lsA E L a (A.take k) = s at *
      generalize bn A k = i at *
      unfold lsS
      by_cases hc : E i = a ∧ L i = a ∧ (s.2 = false ∨ i < s.1)
      · rw [if_pos hc]
        refine ⟨fun _ => ⟨by simp, hc.1, hc.2.1, fun j hj hE hL => ?_⟩, fun h => by simp at h⟩
        rcases List.mem_append.1 hj with hj | hj
        · rcases hc.2.2 with h3 | h3
          · exact absurd ⟨hE, hL⟩ (h2 h3 j hj)
          · cases hs : s.2 with
            | false => exact absurd ⟨hE, hL⟩ (h2 hs j hj)
            | true => have := (h1 hs).2.2.2 j hj hE hL; show i ≤ j; omega
        · obtain rfl := List.mem_singleton.1 hj; exact Nat.le_refl _
      · rw [if_neg hc]
        refine ⟨fun hs => ?_, fun hs j hj => ?_⟩
        · obtain ⟨a1, a2, a3, a4⟩ := h1 hs
          refine ⟨List.mem_append_left _ a1, a2, a3, fun j hj hE hL => ?_⟩
          rcases List.mem_append.1 hj with hj | hj
          · exact a4 j hj hE hL
          · obtain rfl := List.mem_singleton.1 hj
            by_cases hl : j < s.1
            · exact absurd ⟨hE, hL, Or.inr hl⟩ hc
            · omega
        · rcases List.mem_append.1 hj with hj | hj
          · exact h2 hs j hj
          · obtain rfl := List.mem_singleton.1 hj
            exact fun h => hc ⟨h.1, h.2, Or.inl hs⟩
  intro A
  have := key A A.length (Nat.le_refl _)
  rwa [List.take_length] at this
/-- What hurries a critical thing is critical, too. -/
theorem crit_next {l : List Ed} {D E L : Nat → Int} {n i : Nat} {S : Int} (hg : Gr n l) (hac : ∀ i, ¬ Rch (eB l) i i) (hP : Pln l D n E L S) (hi : i < n) (hc : E i = L i) (hne : E i + D i ≠ S) : ∃ j, eB l i j = true ∧ E j = E i + D i ∧ L j = E i + D i := by
  rcases hP.t.why i hi with e | ⟨j, hj, e⟩
  · omega
  · have h1 := hP.e.edge i j hj
    have h2 := hP.le hg hac j (hg.lt hj).2
    exact ⟨j, hj, by omega, by omega⟩
theorem crit_first {l : List Ed} {D E L : Nat → Int} {n : Nat} {S : Int} (hg : Gr n l) (hac : ∀ i, ¬ Rch (eB l) i i) (hD : ∀ i, i < n → 0 ≤ D i ∧ D i ≤ 1000000000) (hP : Pln l D n E L S) (hn : 0 < n) : ∃ i, i < n ∧ E i = 0 ∧ L i = 0 := by
  have hle := hP.le hg hac
  have back : ∀ k, k < n → E k = L k → ∃ i, i < n ∧ E i = 0 ∧ L i = 0 := acyc_ind hg hac fun k hk hh hc => by
    rcases hP.e.why k hk with e | ⟨i, hi, e⟩
    · exact ⟨k, hk, e, by omega⟩
    · have hin := (hg.lt hi).1
      have h1 := hP.t.edge i k hi
      have h2 := hle i hin
      exact hh i hi (by omega)
  rcases hP.s.why with e | ⟨k, hk, e⟩
  · have h1 := hP.s.up 0 hn
    have h2 := hP.e.lo 0 hn
    have h3 := hD 0 hn
    have h4 := hP.t.up 0 hn
    have h5 := hle 0 hn
    exact ⟨0, hn, by omega, by omega⟩
  · have h1 := hP.t.up k hk
    have h2 := hle k hk
    exact back k hk (by omega)
/-- A row of critical things, each the least that goes on from the one ahead of it. -/
inductive Wy (l : List Ed) (D E L : Nat → Int) (n : Nat) (S : Int) : List Nat → Prop
  | nil : Wy l D E L n S []
  | first {i} : i < n → E i = 0 → L i = 0 → (∀ j, j < n → E j = 0 → L j = 0 → i ≤ j) → Wy l D E L n S [i]
  | snoc {R i j} : Wy l D E L n S (R ++ [i]) → E i + D i ≠ S → eB l i j = true → E j = E i + D i → L j = E i + D i → (∀ k, eB l i k = true → E k = E i + D i → L k = E i + D i → j ≤ k) → Wy l D E L n S (R ++ [i] ++ [j])
def ancW (l : List Ed) (n x : Nat) : Nat := ((List.range n).filter fun k => wB l k x).length
theorem ancW_le (l : List Ed) (n x : Nat) : ancW l n x ≤ n := by
  have := List.length_filter_le (fun k => wB l k x) (List.range n)
  simpa [ancW] using this
theorem ancW_edge {l : List Ed} {n a b : Nat} (hg : Gr n l) (hac : ∀ i, ¬ Rch (eB l) i i) (h : eB l a b = true) : ancW l n a < ancW l n b :=
  Gm.filter_lt (p := fun k => wB l k a) (q := fun k => wB l k b) (l := List.range n) (fun x _ hx => (wB_iff hg).2 (((wB_iff hg).1 hx).snoc h)) a (by simpa using (hg.lt h).1) ((wB_iff hg).2 (.one h)) (by
    cases e : wB l a a
    · rfl
    · exact absurd ((wB_iff hg).1 e) (hac a))
theorem Wy.facts {l : List Ed} {D E L : Nat → Int} {n : Nat} {S : Int} (hg : Gr n l) (hac : ∀ i, ¬ Rch (eB l) i i) {W : List Nat} (h : Wy l D E L n S W) : (∀ x ∈ W, x < n ∧ E x = L x) ∧ ∀ R i, W = R ++ [i] → W.length ≤ ancW l n i + 1 := by
  induction h with
  | nil => exact ⟨by simp, fun R i e => by simp at e⟩
  | first h1 h2 h3 _ =>
    refine ⟨fun x hx => ?_, fun R i e => by simp⟩
    obtain rfl := List.mem_singleton.1 hx
    exact ⟨h1, by omega⟩
  | @snoc R i j hW hne hij hE hL _ ih =>
    refine ⟨fun x hx => ?_, fun R' i' e => ?_⟩
    · rcases List.mem_append.1 hx with hx | hx
      · exact ih.1 x hx
      · obtain rfl := List.mem_singleton.1 hx
        exact ⟨(hg.lt hij).2, by omega⟩
    · obtain ⟨_, e2⟩ := List.append_inj' e rfl
      obtain rfl : j = i' := by simpa using e2
      have := ih.2 R i rfl
      have := ancW_edge hg hac hij
      simp at *
      omega
theorem Wy.few {l : List Ed} {D E L : Nat → Int} {n : Nat} {S : Int} (hg : Gr n l) (hac : ∀ i, ¬ Rch (eB l) i i) {W : List Nat} (h : Wy l D E L n S W) : W.length ≤ 61 := by
  rcases List.eq_nil_or_concat W with rfl | ⟨R, i, rfl⟩
  · simp
  · have h1 := (h.facts hg hac).2 R i (by simp)
    have h2 := ancW_le l n i
    have := hg.n60
    omega
end Go.Proofs.YtknhbpnbbnjioaaDoor
