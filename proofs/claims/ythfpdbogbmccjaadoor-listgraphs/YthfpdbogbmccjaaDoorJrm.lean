/- Mathematics of the reference's run of jobs with edges: it is the same run. No program is named here. -/
import Derived.Test.YthfpdbogbmccjaaDoorJgr
namespace Go.Proofs.YthfpdbogbmccjaaDoor
open Go.RowKit Gm Pm
set_option linter.unusedSectionVars false
set_option linter.unusedVariables false

/-- The run, its steps numbered. -/
inductive RunN (n m : Nat) (l : List Ed) (d : Nat → Int) : Nat → Int → Wst → Prop
  | start : RunN n m l d 0 0 wst0
  | bgn {q : Nat} {t : Int} {s : Wst} {i h : Nat} : RunN n m l d q t s → i < n → h < m → s.F h ≤ t → (∀ k, k < h → t < s.F k) → rdy l t s i → (∀ k, k < i → ¬ rdy l t s k) → RunN n m l d (q + 1) t (wbg d t s i h)
  | tick {q : Nat} {t : Int} {s : Wst} : RunN n m l d q t s → stk n m l t s → nxF s.E t n ≠ nvr → RunN n m l d (q + 1) (nxF s.E t n) s
theorem Run.num {n m : Nat} {l : List Ed} {d : Nat → Int} {t : Int} {s : Wst} (h : Run n m l d t s) : ∃ q, RunN n m l d q t s := by
  induction h with
  | start => exact ⟨0, .start⟩
  | bgn _ h1 h2 h3 h4 h5 h6 ih => obtain ⟨q, hq⟩ := ih; exact ⟨q + 1, .bgn hq h1 h2 h3 h4 h5 h6⟩
  | tick _ h1 h2 ih => obtain ⟨q, hq⟩ := ih; exact ⟨q + 1, .tick hq h1 h2⟩
theorem stk_not {n m : Nat} {l : List Ed} {t : Int} {s : Wst} {i h : Nat} (hs : stk n m l t s) (hi : i < n) (hh : h < m) (hF : s.F h ≤ t) (hr : rdy l t s i) : False := by
  rcases hs with h1 | h1
  · have := h1 h hh; omega
  · exact h1 i hi hr
theorem RunN.det {n m : Nat} {l : List Ed} {d : Nat → Int} : ∀ {q : Nat} {t t' : Int} {s s' : Wst}, RunN n m l d q t s → RunN n m l d q t' s' → t = t' ∧ s = s' := by
  intro q
  induction q with
  | zero => intro t t' s s' h h'; cases h; cases h'; exact ⟨rfl, rfl⟩
  | succ q ih =>
    intro t t' s s' h h'
    cases h with
    | bgn h0 h1 h2 h3 h4 h5 h6 =>
      rename_i s0 i h
      cases h' with
      | bgn g0 g1 g2 g3 g4 g5 g6 =>
        rename_i s0' i' h'
        obtain ⟨rfl, rfl⟩ := ih h0 g0
        have ei : i = i' := by
          by_cases e1 : i < i'
          · exact absurd h5 (g6 i e1)
          · by_cases e2 : i' < i
            · exact absurd g5 (h6 i' e2)
            · omega
        have eh : h = h' := by
          by_cases e1 : h < h'
          · have := g4 h e1; omega
          · by_cases e2 : h' < h
            · have := h4 h' e2; omega
            · omega
        subst ei eh
        exact ⟨rfl, rfl⟩
      | tick g0 g1 g2 =>
        obtain ⟨rfl, rfl⟩ := ih h0 g0
        exact (stk_not g1 h1 h2 h3 h5).elim
    | tick h0 h1 h2 =>
      rename_i t0
      generalize hz : nxF s.E t0 n = z at *
      cases h' with
      | bgn g0 g1 g2 g3 g4 g5 g6 =>
        obtain ⟨rfl, rfl⟩ := ih h0 g0
        exact (stk_not h1 g1 g2 g3 g5).elim
      | tick g0 g1 g2 =>
        obtain ⟨rfl, rfl⟩ := ih h0 g0
        exact ⟨hz.symm, rfl⟩
theorem RunN.goes {n m : Nat} {l : List Ed} {d : Nat → Int} {p : Nat} {t : Int} {s : Wst} (h : RunN n m l d p t s) : ∀ {q : Nat} {t' : Int} {s' : Wst}, RunN n m l d q t' s' → p < q → ¬ (stk n m l t s ∧ nxF s.E t n = nvr) := by
  intro q
  induction q with
  | zero => intro _ _ _ hpq; omega
  | succ q ih =>
    intro t' s' h' hpq hend
    by_cases e : p = q
    · subst e
      cases h' with
      | bgn g0 g1 g2 g3 g4 g5 g6 =>
        obtain ⟨rfl, rfl⟩ := h.det g0
        exact stk_not hend.1 g1 g2 g3 g5
      | tick g0 g1 g2 =>
        obtain ⟨rfl, rfl⟩ := h.det g0
        exact g2 hend.2
    · cases h' with
      | bgn g0 g1 g2 g3 g4 g5 g6 => exact ih g0 (by omega) hend
      | tick g0 g1 g2 => exact ih g0 (by omega) hend
theorem Run.uniq {n m : Nat} {l : List Ed} {d : Nat → Int} {t t' : Int} {s s' : Wst} (h : Run n m l d t s) (hs : stk n m l t s) (hn : nxF s.E t n = nvr) (h' : Run n m l d t' s') (hs' : stk n m l t' s') (hn' : nxF s'.E t' n = nvr) : t = t' ∧ s = s' := by
  obtain ⟨p, hp⟩ := h.num
  obtain ⟨q, hq⟩ := h'.num
  by_cases e1 : p < q
  · exact absurd ⟨hs, hn⟩ (hp.goes hq e1)
  · by_cases e2 : q < p
    · exact absurd ⟨hs', hn'⟩ (hq.goes hp e2)
    · obtain rfl : p = q := by omega
      exact hp.det hq
/-- Once all are begun it goes on to the end. -/
theorem Run.finish {n m : Nat} {l : List Ed} {d : Nat → Int} {s : Wst} (hall : ∀ i, i < n → s.E i ≠ nvr) : ∀ (c : Nat) {t : Int}, ctE s.E (t + 1) n ≤ c → Run n m l d t s → ∃ t', t ≤ t' ∧ Run n m l d t' s ∧ stk n m l t' s ∧ nxF s.E t' n = nvr := by
  intro c
  have hst : ∀ t, stk n m l t s := fun t => Or.inr fun i hi hr => hall i hi hr.1
  induction c with
  | zero =>
    intro t hc hr
    by_cases e : nxF s.E t n = nvr
    · exact ⟨t, Int.le_refl _, hr, hst t, e⟩
    · have := Run.lt e; omega
  | succ c ih =>
    intro t hc hr
    by_cases e : nxF s.E t n = nvr
    · exact ⟨t, Int.le_refl _, hr, hst t, e⟩
    · have h1 := Run.lt e
      have hlt : t < nxF s.E t n := by
        rcases nxF_is s.E t n with h2 | ⟨i, _, h3, h4⟩
        · exact absurd h2 e
        · omega
      obtain ⟨t', h2, h3⟩ := ih (by omega) (hr.tick (hst t) e)
      exact ⟨t', by omega, h3⟩
theorem Run.en {n m : Nat} {l : List Ed} {d : Nat → Int} {t : Int} {s : Wst} (h : Run n m l d t s) (hg : Gr n l) (hd : ∀ i, i < n → 0 ≤ d i ∧ d i ≤ 1000000000) : t = 0 ∨ ∃ i, i < n ∧ s.E i = t := by
  induction h with
  | start => exact Or.inl rfl
  | @bgn t s i h hr hi hh hF _ hrd _ ih =>
    have hb := hr.bnd hg hd
    rcases ih with e | ⟨k, hk, e⟩
    · exact Or.inl e
    · refine Or.inr ⟨k, hk, ?_⟩
      show fp s.E i (t + d i) k = t
      rw [fp_ne (fun z => by subst z; have := hrd.1; unfold nvr at this; omega)]
      exact e
  | @tick t s hr hst hnx ih =>
    obtain ⟨i0, hi0, hlt, hx0⟩ := (nxF_is s.E t n).resolve_left hnx
    exact Or.inr ⟨i0, hi0, hx0.symm⟩
/-- As the reference keeps them: those that are not begun at -1, on -1. -/
def aA (s : Wst) (i : Nat) : Int := if s.E i = nvr then -1 else s.A i
def aH (s : Wst) (i : Nat) : Int := if s.E i = nvr then -1 else s.H i
/-- Whether one of the first is at work on a hand. -/
def bzF (s : Wst) (t : Int) (k : Nat) : Nat → Bool
  | 0 => false
  | i + 1 => bzF s t k i || (decide (s.E i ≠ nvr) && decide (s.H i = (k : Int)) && decide (t < s.E i))
theorem bzF_true {s : Wst} {t : Int} {k : Nat} : ∀ {n : Nat}, bzF s t k n = true ↔ ∃ i, i < n ∧ s.E i ≠ nvr ∧ s.H i = (k : Int) ∧ t < s.E i
  | 0 => ⟨fun h => (by cases h), fun ⟨i, hi, _⟩ => (by omega)⟩
  | n + 1 => by
    show (bzF s t k n || (decide (s.E n ≠ nvr) && decide (s.H n = (k : Int)) && decide (t < s.E n))) = true ↔ _
    rw [Bool.or_eq_true, bzF_true (n := n), Bool.and_eq_true, Bool.and_eq_true, decide_eq_true_eq, decide_eq_true_eq, decide_eq_true_eq]
    constructor
    · rintro (⟨i, h1, h2⟩ | ⟨⟨h1, h2⟩, h3⟩)
      · exact ⟨i, by omega, h2⟩
      · exact ⟨n, by omega, h1, h2, h3⟩
    · rintro ⟨i, h1, h2⟩
      by_cases e : i = n
      · subst e; exact Or.inr ⟨⟨h2.1, h2.2.1⟩, h2.2.2⟩
      · exact Or.inl ⟨i, by omega, h2⟩
theorem Win.busy {n m : Nat} {l : List Ed} {d : Nat → Int} {t : Int} {s : Wst} (hw : Win n m l d t s) (ht : 0 ≤ t) {k : Nat} (hk : k < m) : bzF s t k n = true ↔ t < s.F k := by
  rw [bzF_true]
  constructor
  · rintro ⟨i, hi, h1, h2, h3⟩
    rcases hw.job i hi with e | ⟨_, _, _, _, _, h4⟩
    · exact absurd e h1
    · rw [h2, Int.toNat_natCast] at h4; omega
  · intro h
    rcases hw.fr k hk with e | ⟨i, hi, h1, h2, h3⟩
    · omega
    · exact ⟨i, hi, h1, h2, by omega⟩
/-- An edge from one that is not yet done. -/
def bdE (s : Wst) (d : Nat → Int) (t : Int) (i : Nat) (e : Ed) : Prop := e.t = (i : Int) ∧ (aA s e.f.toNat < 0 ∨ t < aA s e.f.toNat + d e.f.toNat)
theorem Win.rdy_iff {n m : Nat} {l : List Ed} {d : Nat → Int} {t : Int} {s : Wst} (hw : Win n m l d t s) (hg : Gr n l) (ht : t < nvr) {i : Nat} (hi : i < n) : rdy l t s i ↔ (s.E i = nvr ∧ ∀ e ∈ l, ¬ bdE s d t i e) := by
  have key : ∀ k, k < n → ((aA s k < 0 ∨ t < aA s k + d k) ↔ t < s.E k) := fun k hk => by
    unfold aA
    by_cases e : s.E k = nvr
    · rw [if_pos e]; constructor
      · intro _; omega
      · intro _; exact Or.inl (by omega)
    · rw [if_neg e]
      rcases hw.job k hk with e2 | ⟨h1, h2, h3, _⟩
      · exact absurd e2 e
      · constructor <;> intro h <;> omega
  constructor
  · rintro ⟨h1, h2⟩
    refine ⟨h1, fun e he hb => ?_⟩
    have hok := hg.ok e he
    have h3 := (key e.f.toNat (by omega)).1 hb.2
    have h4 := h2 e.f.toNat (eB_true.2 ⟨e, he, by omega, hb.1⟩)
    omega
  · rintro ⟨h1, h2⟩
    refine ⟨h1, fun k hk => ?_⟩
    obtain ⟨e, he, e1, e2⟩ := eB_true.1 hk
    have hok := hg.ok e he
    by_cases h3 : s.E k ≤ t
    · exact h3
    · refine absurd ⟨e2, ?_⟩ (h2 e he)
      have e3 : e.f.toNat = k := by omega
      rw [e3]
      exact (key k (hg.lt hk).1).2 (by omega)
end Go.Proofs.YthfpdbogbmccjaaDoor
